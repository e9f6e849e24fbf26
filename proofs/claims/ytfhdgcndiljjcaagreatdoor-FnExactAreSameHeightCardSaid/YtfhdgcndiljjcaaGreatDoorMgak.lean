/- Texts of contracts, joined. -/
import Derived.Test.YtfhdgcndiljjcaaGreatDoorMgaj
import Derived.Stop.ErrReads
/- Contract of OrderOfMultiple, of the program. -/
namespace Go.Proofs.YtfhdgcndiljjcaaGreatDoor
open Go Go.RowKit Go.WideShapes Go.ChangeShapes Go.ChangeAt

/-- what OrderOfMultiple answers -/
def oomF (m : Int) (d : Nat) (t : List (List Int)) (k : Int) : Int × Int :=
  if (ordM m (mulC m d t k (Pl.lin m d 1))).2 = 0 then ((ordM m (mulC m d t k (Pl.lin m d 1))).1, 0) else (0, 4)
def oomM (m : Int) (t : List (List Int)) (k : Int) : Int × Int :=
  if isL m t = true then (if inB k (-1000000) 1000000 = true then (if isP4 m = true then oomF m (t.length - 1) t k else (0, 5)) else (0, 2)) else (0, 1)
set_option maxHeartbeats 16000000 in
set_option maxRecDepth 100000 in
theorem OrderOfMultiple_any (m : Int) (A : Option Addr) (c : Nat) (t : List (List Int)) (k : Int) (w : World) (hz : szT t ≤ 1048576) (hr : RP w A t) (hE : ErrT w) (z : Value) (hZ : ErrZ w z) :
    Calls Tryz.prog 27 #[.agg #[.int .i64 m, .slice A t.length c], .int .i64 k] w fun e w' => e = .returned (.tuple #[.int .i64 (oomM m t k).1, .int .i64 (oomM m t k).2]) ∧ Below w.heap.size w w' := by
  obtain ⟨W, hW, b1, b4, hwb⟩ := startB2 28 28 w m A t.length c m A t.length c
  have B1 := Lib.hid b1
  have HB := Lib.hid hwb
  have HW := Lib.hid hW
  have hc := codeL1_any (w.heap.size + 1) m A c t W hz (hr.below hwb) b4
  unfold codeL1 at hc
  have HET := Lib.hid (hE.keep hwb hE.lt)
  have HZT := Lib.hid (hZ.keep hwb (Nat.lt_trans Nat.zero_lt_one hE.lt))
  have HWI := Lib.hid (fun W0 => isWithin_any k (-1000000) 1000000 W0)
  by_cases h0 : isL m t = true
  · rw [if_pos h0] at hc
    have HC0 := Lib.hid hc
    obtain ⟨-, d, e1, ok, hf⟩ := isL_of h0
    have hd2 := ok.d2
    have HG := Lib.hid (fun W0 => lawOf_nat m A t.length c d W0 e1 (by omega))
    by_cases hin : inB k (-1000000) 1000000 = true
    · rw [hin] at HWI
      obtain ⟨k1, k2⟩ := (inB_iff _ _ _).1 hin
      by_cases hp : isP4 m = true
      · have HA : Hid (oomM m t k = oomF m d t k) := Lib.hid (by unfold oomM; rw [if_pos h0, if_pos hin, if_pos hp, e1, Nat.add_sub_cancel])
        rw [HA.out]
        by_cases hC : (ordM m (mulC m d t k (Pl.lin m d 1))).2 = 0
        · obtain ⟨X, hX⟩ : ∃ X, (ordM m (mulC m d t k (Pl.lin m d 1))).1 = X := ⟨_, rfl⟩
          have HF : Hid (oomF m d t k = (X, 0)) := Lib.hid (by unfold oomF; rw [if_pos hC, hX])
          rw [HF.out]
          have HM := Lib.hid (fun W0 (h : Below W.heap.size W W0) => andOrder_ok m d A c t k X W0 ok hf hp k1 k2 ((hr.below hwb).below h) (by rw [← hX, ← hC]))
          obtain ⟨R, hR⟩ : ∃ R, mulC m d t k (Pl.lin m d 1) = R := ⟨_, rfl⟩
          rw [hR] at HM
          obtain ⟨L, hL⟩ : ∃ L, t.length = L := ⟨_, rfl⟩
          rw [hL] at HG HM HW B1 ⊢
          clear b1 b4 hwb hW hr hc h0 ok hf e1 hz hL hp hE hZ HA HF hC hX hin k1 k2 hR
          go_enter Tryz.func27, Tryz.ntmps27
          go_wp2_with fail
          rw [HW.out]
          refine HC0.out.mono ?_
          rintro e w1 ⟨rfl, hb1⟩
          obtain ⟨x1, x2, x3⟩ := B1.out.keep hb1
          go_wp2_with fail
          refine (HWI.out _).mono ?_
          rintro e w' ⟨rfl, rfl⟩
          go_wp2_with fail
          refine (HG.out _).mono ?_
          rintro e w2 ⟨rfl, hb2⟩
          go_wp2_with fail
          refine (HM.out _ (below_step hb1 hb2)).mono ?_
          rintro e w3 ⟨v, rfl, ho, hb3⟩
          obtain ⟨A3, c3, rfl, -⟩ := ho.form
          have hb4 := below_alloc (.cells #[.int .i64 m, .slice A3 R.length c3] 71) (below_step (below_step hb1 hb2) hb3)
          have HB4 := Lib.hid hb4
          have HCE := Lib.hid (codeOfError_nil (w3.alloc (.cells #[.int .i64 m, .slice A3 R.length c3] 71)))
          clear x1 x2 x3 hb4 ho hb1 hb2 hb3
          go_wp2_with fail
          refine HCE.out.mono ?_
          rintro e w4 ⟨rfl, hb5⟩
          go_wp2
          exact bodyPost_ret (v := .tuple #[.int .i64 X, .int .i64 0]) (by simp [results, Tryz.results27, go_sem]) rfl ⟨rfl, below_step HB.out (below_step HB4.out hb5)⟩
        · have HF : Hid (oomF m d t k = (0, 4)) := Lib.hid (by unfold oomF; rw [if_neg hC])
          rw [HF.out]
          have HM := Lib.hid (fun W0 (h : Below W.heap.size W W0) (hz : ErrZ W0 z) => andOrder_zero m d A c t k z W0 ok hf hp k1 k2 ((hr.below hwb).below h) hz (by have := h.size; have := HET.out.lt; omega) hC)
          obtain ⟨L, hL⟩ : ∃ L, t.length = L := ⟨_, rfl⟩
          rw [hL] at HG HM HW B1 ⊢
          clear b1 b4 hwb hW hr hc h0 ok hf e1 hz hL hp hE hZ HA HF hC hin k1 k2
          go_enter Tryz.func27, Tryz.ntmps27
          go_wp2_with fail
          rw [HW.out]
          refine HC0.out.mono ?_
          rintro e w1 ⟨rfl, hb1⟩
          obtain ⟨x1, x2, x3⟩ := B1.out.keep hb1
          go_wp2_with fail
          refine (HWI.out _).mono ?_
          rintro e w' ⟨rfl, rfl⟩
          go_wp2_with fail
          refine (HG.out _).mono ?_
          rintro e w2 ⟨rfl, hb2⟩
          go_wp2_with fail
          refine (HM.out _ (below_step hb1 hb2) (HZT.out.keep (below_step hb1 hb2) (Nat.lt_trans Nat.zero_lt_one HET.out.lt))).mono ?_
          rintro e w3 ⟨rfl, hb3⟩
          have hb4 := below_alloc (.cells #[.int .i64 0, .slice none 0 0] 71) (below_step (below_step hb1 hb2) hb3)
          have HB4 := Lib.hid hb4
          have HCE := Lib.hid (codeOfError_miss z (w3.alloc (.cells #[.int .i64 0, .slice none 0 0] 71)) (HET.out.keep hb4 HET.out.lt))
          clear x1 x2 x3 hb4 hb1 hb2 hb3
          go_wp2_with fail
          refine HCE.out.mono ?_
          rintro e w4 ⟨rfl, hb5⟩
          go_wp2
          exact bodyPost_ret (v := .tuple #[.int .i64 0, .int .i64 4]) (by simp [results, Tryz.results27, go_sem]) rfl ⟨rfl, below_step HB.out (below_step HB4.out hb5)⟩
      · have HA : Hid (oomM m t k = (0, 5)) := Lib.hid (by unfold oomM; rw [if_pos h0, if_pos hin, if_neg hp])
        rw [HA.out]
        have HM := Lib.hid (fun W0 => andOrder_no m d A t.length c k W0 (by simpa using hp))
        obtain ⟨L, hL⟩ : ∃ L, t.length = L := ⟨_, rfl⟩
        rw [hL] at HG HM HW B1 ⊢
        clear b1 b4 hwb hW hr hc h0 ok hf e1 hz hL hp hE hZ HA hin k1 k2
        go_enter Tryz.func27, Tryz.ntmps27
        go_wp2_with fail
        rw [HW.out]
        refine HC0.out.mono ?_
        rintro e w1 ⟨rfl, hb1⟩
        obtain ⟨x1, x2, x3⟩ := B1.out.keep hb1
        go_wp2_with fail
        refine (HWI.out _).mono ?_
        rintro e w' ⟨rfl, rfl⟩
        go_wp2_with fail
        refine (HG.out _).mono ?_
        rintro e w2 ⟨rfl, hb2⟩
        go_wp2_with fail
        refine (HM.out _).mono ?_
        rintro e w3 ⟨rfl, hb3⟩
        have hb4 := below_alloc (.cells #[.int .i64 0, .slice none 0 0] 71) (below_step (below_step hb1 hb2) hb3)
        have HB4 := Lib.hid hb4
        have HCE := Lib.hid (codeOfError_hit m (w3.alloc (.cells #[.int .i64 0, .slice none 0 0] 71)) (HET.out.keep hb4 HET.out.lt))
        clear x1 x2 x3 hb4 hb1 hb2 hb3
        go_wp2_with fail
        refine HCE.out.mono ?_
        rintro e w4 ⟨rfl, hb5⟩
        go_wp2
        exact bodyPost_ret (v := .tuple #[.int .i64 0, .int .i64 5]) (by simp [results, Tryz.results27, go_sem]) rfl ⟨rfl, below_step HB.out (below_step HB4.out hb5)⟩
    · have HA : Hid (oomM m t k = (0, 2)) := Lib.hid (by unfold oomM; rw [if_pos h0, if_neg hin])
      rw [HA.out]
      rw [show inB k (-1000000) 1000000 = false by simpa using hin] at HWI
      clear b1 b4 hwb hW hr hc h0 ok hf e1 hz hE hZ HA HET HZT HG hin
      go_enter Tryz.func27, Tryz.ntmps27
      go_wp2_with fail
      rw [HW.out]
      refine HC0.out.mono ?_
      rintro e w1 ⟨rfl, hb1⟩
      go_wp2_with fail
      refine (HWI.out _).mono ?_
      rintro e w' ⟨rfl, rfl⟩
      go_wp2
      exact bodyPost_ret (v := .tuple #[.int .i64 0, .int .i64 2]) (by simp [results, Tryz.results27, go_sem]) rfl ⟨rfl, below_step HB.out hb1⟩
  · have HA : Hid (oomM m t k = (0, 1)) := Lib.hid (by unfold oomM; rw [if_neg h0])
    rw [HA.out]
    rw [if_neg h0] at hc
    have HC0 := Lib.hid hc
    clear b1 b4 hwb hW hr hc h0 hz hE hZ HA HET HZT HWI
    go_enter Tryz.func27, Tryz.ntmps27
    go_wp2_with fail
    rw [HW.out]
    refine HC0.out.mono ?_
    rintro e w1 ⟨rfl, hb1⟩
    go_wp2
    exact bodyPost_ret (v := .tuple #[.int .i64 0, .int .i64 1]) (by simp [results, Tryz.results27, go_sem]) rfl ⟨rfl, below_step HB.out hb1⟩
end Go.Proofs.YtfhdgcndiljjcaaGreatDoor

/- Contract of OrderOfMultiple, of the model. -/
namespace Go.Proofs.YtfhdgcndiljjcaaGreatDoor
open Go Go.RowKit Go.WideShapes Go.ChangeShapes Go.ChangeAt

theorem SerOk.toS {m : Int} {d : Nat} {l : List Int} (h : SerOk m d l) : isS m l = true := by
  have d1 := h.d1
  have d2 := h.d2
  have m1 := h.m1
  have m2 := h.m2
  have hl := h.len
  have hr := h.red
  have e1 : isM m = true := (isM_iff m).2 ⟨m1, m2⟩
  have e2 : allIn 0 (m - 1) l = true := by
    unfold allIn
    rw [List.all_eq_true]
    intro x hx
    obtain ⟨i, hi, rfl⟩ := List.getElem_of_mem hx
    have := hr i
    unfold Ser.co at this
    rw [List.getElem?_eq_getElem hi, Option.getD_some] at this
    exact (inB_iff _ _ _).2 ⟨this.1, by omega⟩
  unfold isS codeN
  rw [if_pos e1, if_pos e2, Bool.and_eq_true]
  exact ⟨(inB_iff _ _ _).2 ⟨by omega, by omega⟩, rfl⟩
theorem oomF_ord {m : Int} {d : Nat} {t : List (List Int)} {k : Int} {R : List Int} (hR : mulC m d t k (Pl.lin m d 1) = R) (hs : SerOk m d R) : oomF m d t k = if (ordF R R.length 0).2 = 0 then ((ordF R R.length 0).1, 0) else (0, 4) := by
  unfold oomF ordM
  rw [hR, if_pos hs.toS]
set_option maxHeartbeats 8000000 in
set_option maxRecDepth 100000 in
theorem sOrderOfMultiple_any (m : Int) (A : Option Addr) (c : Nat) (t : List (List Int)) (k : Int) (w : World) (hz : szT t ≤ 1048576) (hr : RP w A t) :
    Calls Tryz.prog 26 #[.agg #[.int .i64 m, .slice A t.length c], .int .i64 k] w fun e w' => e = .returned (.tuple #[.int .i64 (oomM m t k).1, .int .i64 (oomM m t k).2]) ∧ Below w.heap.size w w' := by
  obtain ⟨W, hW, b1, hwb⟩ := start1 28 w m A t.length c
  have B1 := Lib.hid b1
  have HB := Lib.hid hwb
  have HW := Lib.hid hW
  have HL := Lib.hid (l04Is_any m A c t W hz (hr.below hwb))
  have HI := Lib.hid (fun W0 => l01In_any k (-1000000) 1000000 W0)
  have HP := Lib.hid (fun W0 => l10Prime_any m A t.length c W0)
  by_cases h0 : isL m t = true
  · rw [h0] at HL
    by_cases hin : inB k (-1000000) 1000000 = true
    · rw [hin] at HI
      by_cases hp : isP4 m = true
      · rw [hp] at HP
        obtain ⟨-, d, e1, ok, hf⟩ := isL_of h0
        have hd2 := ok.d2
        obtain ⟨k1, k2⟩ := (inB_iff _ _ _).1 hin
        have hA0 : oomM m t k = oomF m d t k := by unfold oomM; rw [if_pos h0, if_pos hin, if_pos hp, e1, Nat.add_sub_cancel]
        have HO := Lib.hid (fun W0 (h : Below W.heap.size W W0) => l04Of_any m d A c t k W0 ok hf k1 k2 ((hr.below hwb).below h))
        have hsR := (mulC_cv ok (Pl.norm_law hf ok) k (lin_cv ok 1)).1
        obtain ⟨R, hR⟩ : ∃ R, mulC m d t k (Pl.lin m d 1) = R := ⟨_, rfl⟩
        have hA1 : oomM m t k = if (ordF R R.length 0).2 = 0 then ((ordF R R.length 0).1, 0) else (0, 4) := by rw [hA0]; rw [hR] at hsR; exact oomF_ord hR hsR
        rw [hR] at HO hsR
        have hRl : R.length ≤ 11 := by have := hsR.len; omega
        obtain ⟨Z, hZ⟩ : ∃ Z, oomM m t k = Z := ⟨_, rfl⟩
        rw [hZ] at hA1 ⊢
        have HA := Lib.hid hA1
        obtain ⟨L, hL⟩ : ∃ L, t.length = L := ⟨_, rfl⟩
        rw [hL] at HL HO HW B1 HP ⊢
        clear b1 hwb hW hr hz hL hR hsR hA0 hA1 hZ hf ok e1 h0 hin hp k1 k2
        go_enter Tryz.func26, Tryz.ntmps26
        go_wp2_with fail
        rw [HW.out]
        obtain ⟨x1, x2, x3⟩ := B1.out
        go_wp2_with fail
        refine HL.out.mono ?_
        rintro e w1 ⟨rfl, hb1⟩
        obtain ⟨y1, y2, y3⟩ := B1.out.keep hb1
        go_wp2_with fail
        refine (HI.out _).mono ?_
        rintro e w' ⟨rfl, rfl⟩
        go_wp2_with fail
        refine (HP.out _).mono ?_
        rintro e w2 ⟨rfl, hb2⟩
        have hb12 := below_step hb1 hb2
        obtain ⟨z1, z2, z3⟩ := B1.out.keep hb12
        go_wp2_with fail
        refine (HO.out _ hb12).mono ?_
        rintro e w3 ⟨u, rfl, ho, hb3⟩
        obtain ⟨A3, c3, rfl, -⟩ := ho.form
        have HR := Lib.hid ho.ri
        have HB3 := Lib.hid (below_step HB.out (below_step hb12 hb3))
        clear x1 x2 x3 y1 y2 y3 z1 z2 z3 hb1 hb2 hb12 hb3 ho
        go_wp2
        go_loop [7] (fun i => ∃ k f : Nat, k + f = R.length ∧ i = .int .i64 k ∧ ordF R R.length 0 = ordF R f k) (fun i => R.length - (intOf i).toNat)
        case atStart => exact ⟨0, R.length, Nat.zero_add _, rfl, rfl⟩
        case round =>
          obtain ⟨k, f, hk, rfl, hq⟩ := hrel
          have HQ := Lib.hid hq
          have hk2 : k ≤ R.length := by omega
          have HK := Lib.hid hk
          clear hq hk
          by_cases hlt : k < R.length
          · obtain ⟨b, off, rfl, hb, hc⟩ := HR.out.at k hlt
            obtain ⟨f, rfl⟩ : ∃ f', f = f' + 1 := ⟨f - 1, by have := HK.out; omega⟩
            by_cases hz : Ser.co R k = 0
            · have HN := Lib.hid (ordF_zero R f k hz)
              rw [hz] at hc
              clear hz
              go_wp2
              go_round
              case rel => exact ⟨k + 1, f, by have := HK.out; omega, by go_num, by rw [HQ.out, HN.out]⟩
              case measure => simp only [intOf]; omega
            · have HN := Lib.hid (show Z = ((k : Int), 0) by rw [HA.out, HQ.out, ordF_not R f k hz]; rfl)
              obtain ⟨n1, n2⟩ := ne_facts hz
              obtain ⟨X, hX⟩ : ∃ X, Ser.co R k = X := ⟨_, rfl⟩
              rw [hX] at hc n1 n2 hz
              clear hX
              go_wp2
              go_ret2
              exact ⟨ret_i2 (by rw [HN.out]) (by rw [HN.out]), HB3.out⟩
          · obtain rfl : f = 0 := by have := HK.out; omega
            have HN := Lib.hid (show Z = (0, 4) by rw [HA.out, HQ.out]; rfl)
            go_wp2
            go_ret2
            exact ⟨ret_i2 (by rw [HN.out]) (by rw [HN.out]), HB3.out⟩
      · rw [show isP4 m = false by simpa using hp] at HP
        have HA : Hid (oomM m t k = (0, 5)) := Lib.hid (by unfold oomM; rw [if_pos h0, if_pos hin, if_neg hp])
        rw [HA.out]
        obtain ⟨L, hL⟩ : ∃ L, t.length = L := ⟨_, rfl⟩
        rw [hL] at HL HW B1 HP ⊢
        clear b1 hwb hW hr hz hL h0 hin hp HA
        go_enter Tryz.func26, Tryz.ntmps26
        go_wp2_with fail
        rw [HW.out]
        obtain ⟨x1, x2, x3⟩ := B1.out
        go_wp2_with fail
        refine HL.out.mono ?_
        rintro e w1 ⟨rfl, hb1⟩
        obtain ⟨y1, y2, y3⟩ := B1.out.keep hb1
        go_wp2_with fail
        refine (HI.out _).mono ?_
        rintro e w' ⟨rfl, rfl⟩
        go_wp2_with fail
        refine (HP.out _).mono ?_
        rintro e w2 ⟨rfl, hb2⟩
        go_wp2
        go_ret2
        exact ⟨ret_i2 rfl rfl, below_step HB.out (below_step hb1 hb2)⟩
    · rw [show inB k (-1000000) 1000000 = false by simpa using hin] at HI
      have HA : Hid (oomM m t k = (0, 2)) := Lib.hid (by unfold oomM; rw [if_pos h0, if_neg hin])
      rw [HA.out]
      obtain ⟨L, hL⟩ : ∃ L, t.length = L := ⟨_, rfl⟩
      rw [hL] at HL HW B1 ⊢
      clear b1 hwb hW hr hz hL h0 hin HA HP
      go_enter Tryz.func26, Tryz.ntmps26
      go_wp2_with fail
      rw [HW.out]
      obtain ⟨x1, x2, x3⟩ := B1.out
      go_wp2_with fail
      refine HL.out.mono ?_
      rintro e w1 ⟨rfl, hb1⟩
      go_wp2_with fail
      refine (HI.out _).mono ?_
      rintro e w' ⟨rfl, rfl⟩
      go_wp2
      go_ret2
      exact ⟨ret_i2 rfl rfl, below_step HB.out hb1⟩
  · rw [show isL m t = false by simpa using h0] at HL
    have HA : Hid (oomM m t k = (0, 1)) := Lib.hid (by unfold oomM; rw [if_neg h0])
    rw [HA.out]
    obtain ⟨L, hL⟩ : ∃ L, t.length = L := ⟨_, rfl⟩
    rw [hL] at HL HW B1 ⊢
    clear b1 hwb hW hr hz hL h0 HA HP HI
    go_enter Tryz.func26, Tryz.ntmps26
    go_wp2_with fail
    rw [HW.out]
    obtain ⟨x1, x2, x3⟩ := B1.out
    go_wp2_with fail
    refine HL.out.mono ?_
    rintro e w1 ⟨rfl, hb1⟩
    go_wp2
    go_ret2
    exact ⟨ret_i2 rfl rfl, below_step HB.out hb1⟩
end Go.Proofs.YtfhdgcndiljjcaaGreatDoor

/- What the condition 'laid' gives a walk where the sentinel is listed too; a world that meets it. After the guide's worked example of two sentinels. -/
namespace Go.Proofs.YtfhdgcndiljjcaaGreatDoor
open Go Go.ChangeShapes Go.WideShapes Go.RowKit Go.ChangeAt Go.Stop

/-! the sentinel -/
theorem lai_z : Tryz.prog.globalNamed "loop.example/g01152/impl.errZeroMultiple" = some 0 := by kernel_rfl
theorem lai_zt : (Tryz.prog.globals[0]?).map (·.type) = some 58 := by kernel_rfl
theorem lai_cellsE : Tryz.prog.cellsOf 177 = 1 := by kernel_rfl
theorem lai_cellsS : Tryz.prog.cellsOf 9 = 1 := by kernel_rfl
theorem lai_star : "*" ++ "errors.errorString" = "*errors.errorString" := by decide
set_option maxRecDepth 100000 in
theorem lai_row (u : TypeId) (h : Tryz.prog.typeName? 3 u = some "*errors.errorString") : u = 155 :=
  typeName_ptr_named (nm := "errors.errorString") (by rw [lai_star]; kernel_rfl) (by kernel_rfl) (by decide) u (by rw [lai_star]; exact h)
set_option maxRecDepth 100000 in
theorem laid_both {W : World} (h : laidMetH Tryz.prog [("errors.errorType", Rows.laid_errors_errorType), ("loop.example/g01152/impl.errZeroMultiple", Rows.laid_loop_example_g01152_impl_errZeroMultiple)] W) :
    ErrT W ∧ ∃ a : Addr, W.var? Tryz.prog "loop.example/g01152/impl.errZeroMultiple" = some #[.iface 155 (.pointer (some a))] := by
  have h' : laidMet Tryz.prog [("loop.example/g01152/impl.errZeroMultiple", Rows.laid_loop_example_g01152_impl_errZeroMultiple)] W ∧ handlesMet Tryz.prog [("errors.errorType", Rows.laid_errors_errorType)] W := h
  refine ⟨handle_of_laid h'.2 (List.mem_singleton.2 rfl), ?_⟩
  obtain ⟨ps, ⟨g0, t0, cs0, f0, p0, q0, hg0, ht0, hv0, hd0, hq0, e0⟩, hnd, hrows⟩ := h'.1
  obtain rfl := Option.some.inj (lai_z.symm.trans hg0)
  obtain rfl := Option.some.inj (lai_zt.symm.trans ht0)
  have hq0' : q0 = [] := hq0
  subst hq0'
  subst e0
  obtain ⟨l0⟩ := cs0
  have ok0 : ∀ u v, l0 = [.iface u v] → Value.okWide Tryz.prog W .any 0 u v := fun u v e => by
    subst e
    exact (hrows 0 0 (by simp [MemPlace.row])).2 u v (by simpa using World.var?_cell hg0 hv0 0)
  obtain ⟨a0, s0, rfl, hc0, hs0, hz0, rfl⟩ := errorString_of_trod Tryz.underlying58 lai_row Tryz.underlying155 Tryz.underlying177 rfl rfl Tryz.underlying9 lai_cellsE lai_cellsS hd0 ok0
  exact ⟨a0, hv0⟩
theorem zero_cell {W : World} {x : Value} (h : W.var? Tryz.prog "loop.example/g01152/impl.errZeroMultiple" = some #[.iface 155 x]) : ErrZ W x := by
  unfold ErrZ
  simpa using World.var?_cell lai_z h 0
theorem var_below {W W' : World} {cs : Array Value} (h : W.var? Tryz.prog "loop.example/g01152/impl.errZeroMultiple" = some cs) (hb : Below W.heap.size W W') : W'.var? Tryz.prog "loop.example/g01152/impl.errZeroMultiple" = some cs := by
  unfold World.var? at h ⊢
  simp only [lai_z, Option.bind_some] at h ⊢
  have hlt : 0 < W.heap.size := by
    rcases Nat.lt_or_ge 0 W.heap.size with h' | h'
    · exact h'
    · simp [Array.getElem?_eq_none h'] at h
  rw [hb.block 0 hlt]
  exact h
theorem vars_read {H : Type} (enc : TypeId × Value → H) {W : World} {x0 : Value} (h0 : W.var? Tryz.prog "loop.example/g01152/impl.errZeroMultiple" = some #[x0]) (i0 : IsIface x0) (sp : Nat → Bool) :
    DataW.TrodVars enc Tryz.prog W sp ["loop.example/g01152/impl.errZeroMultiple"] [tok enc x0] [.cell 0 0] :=
  ⟨0, 58, #[x0], 1, [], [], lai_z, lai_zt, h0, trod_held Tryz.underlying58 i0 0, rfl, rfl⟩
noncomputable def low : Nat := (World.holding Tryz.prog default ⟨#[], #[], []⟩).heap.size
def zeroS : ByteArray := ⟨#[116, 104, 101, 32, 109, 117, 108, 116, 105, 112, 108, 101, 32, 105, 115, 32, 48]⟩
noncomputable def laidWorldZ (os : Os) : World :=
  let w0 := World.holding Tryz.prog os ⟨#[.cells #[.string zeroS] 177], #[], []⟩
  { w0 with heap := (w0.heap.modify 0 fun
      | .cells _ t frozen => .cells #[.iface 155 (.pointer (some ⟨low, 0, none⟩))] t frozen
      | o => o).modify 1 fun
      | .cells _ t frozen => .cells #[.iface 119 (.agg #[.pointer (some ⟨2, 58, none⟩)])] t frozen
      | o => o }
set_option maxRecDepth 100000 in
theorem laidWorldZ_met (os : Os) (args : Array Value) : laidMetH Tryz.prog [("errors.errorType", Rows.laid_errors_errorType), ("loop.example/g01152/impl.errZeroMultiple", Rows.laid_loop_example_g01152_impl_errZeroMultiple)] ((laidWorldZ os).forCall (fun _ _ => 0) ⟨#[], args, []⟩).memory :=
  laidMetH_of_parts (laidMet_of_run (ps := [.cell 0 0, .cell low 0]) 8 (by kernel_rfl) (by kernel_rfl) (by kernel_rfl)) (by kernel_rfl)
end Go.Proofs.YtfhdgcndiljjcaaGreatDoor

