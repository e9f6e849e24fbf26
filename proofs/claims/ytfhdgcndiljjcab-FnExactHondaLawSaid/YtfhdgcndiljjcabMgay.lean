/- Texts of contracts, joined. -/
import Derived.Test.YtfhdgcndiljjcabMgax
/- Contract of HondaLaw, of the program. -/
namespace Go.Proofs.Ytfhdgcndiljjcab
open Go.RowKit Go.WideShapes Go.ChangeShapes Go.ChangeAt

/-- the parameters of the law of Honda -/
def honU (h : Int) : List Int := if h = 1 then [1, 0, 0] else if h = 2 then [0, 1, 0] else [0, 0, 1]
/-- what HondaLaw answers -/
def honM (p h d : Int) : Int × List (List Int) × Int :=
  if isP4 p = true ∧ inB h 1 3 = true then tlaS p p d (honU h) else (0, [], 2)
theorem honM_len (p h d : Int) : szT (honM p h d).2.1 ≤ 1048576 := by
  unfold honM
  split
  · exact tlaS_len _ _ _ _
  · exact Nat.zero_le _
set_option maxHeartbeats 8000000 in
set_option maxRecDepth 100000 in
theorem HondaLaw_any (k0 k1 k2 : Int) (w : World) :
    Calls Try.prog 14 #[.int .i64 k0, .int .i64 k1, .int .i64 k2] w fun x w' => ∃ s, x = .returned (.tuple #[.agg #[.int .i64 (honM k0 k1 k2).1, s], .int .i64 (honM k0 k1 k2).2.2]) ∧ OwnR w' w.heap.size w'.heap.size s (honM k0 k1 k2).2.1 ∧ Below w.heap.size w w' := by
  obtain ⟨W, hW⟩ : ∃ W, w.alloc (.cells #[.int .i64 0, .slice none 0 0] 25) = W := ⟨_, rfl⟩
  have hwb : Below w.heap.size w W := by rw [← hW]; exact below_one _ _
  have v3 : VarC 25 W w.heap.size #[.int .i64 0, .slice none 0 0] := by rw [← hW]; exact VarC.new _ _ _
  have V3 := Lib.hid v3
  have HB := Lib.hid hwb
  have HW := Lib.hid hW
  have HP := Lib.hid (fun W0 => isTypicalPrime_any k0 W0)
  have HI := Lib.hid (fun W0 => isWithin_any k1 1 3 W0)
  have hmk : ∀ W : World, (Instr.makeSlice 22 (.int .i64 3) (.int .i64 3)).run Try.prog W = .ok (.slice (some ⟨W.heap.size, 0, none⟩) 3 3) (W.alloc (.cells (madeCells #[.int .i64 0] 3) 2)) := by
    intro W
    exact run_make_row' (P := Try.prog) 22 2 (.int .i64 0) 8 Try.underlying22 info64 rfl .i64 .i64 3 (by omega) (by omega) W
  clear v3 hwb hW
  by_cases hp : isP4 k0 = true
  · by_cases hh : inB k1 1 3 = true
    · rw [hp] at HP
      rw [hh] at HI
      obtain ⟨i1, i2⟩ := (inB_iff _ _ _).1 hh
      rcases (show k1 = 1 ∨ k1 = 2 ∨ k1 = 3 by omega) with rfl | rfl | rfl
      · have HA : Hid (honM k0 1 k2 = tlaS k0 k0 k2 [1, 0, 0]) := Lib.hid (by unfold honM; rw [if_pos ⟨hp, by decide⟩]; rfl)
        rw [HA.out]
        have hset := (OwnI.made W 3 (by unfold maxLen; omega)).set 0 1
        obtain ⟨-, -, o3, o4⟩ := (OwnI.made W 3 (by unfold maxLen; omega)).cells
        have q1 := o3 0 (by simp)
        have q2 := o4 0
        rw [World.setCell_alloc_at _ _ _ _ _ rfl] at hset
        have HO2 := Lib.hid hset
        have HB2 := Lib.hid (below_one W (.cells ((madeCells #[.int .i64 0] 3).setIfInBounds 0 (.int .i64 1)) 2))
        have HT := Lib.hid (TypicalLaw_any k0 k0 k2 (some ⟨W.heap.size, 0, none⟩) 3 [1, 0, 0] _ (by decide) HO2.out.ri)
        obtain ⟨⟨M, T, C⟩, hR⟩ : ∃ R, tlaS k0 k0 k2 [1, 0, 0] = R := ⟨_, rfl⟩
        rw [hR] at HT ⊢
        clear hset o3 o4 hR HA
        go_enter Try.func14, Try.ntmps14
        go_wp2_with fail
        rw [HW.out]
        refine (HP.out _).mono ?_
        rintro e w1 ⟨rfl, rfl⟩
        go_wp2_with fail
        refine (HI.out _).mono ?_
        rintro e w1 ⟨rfl, rfl⟩
        go_wp2_with fail
        refine HT.out.mono ?_
        rintro e w2 ⟨v, rfl, ho, hb2⟩
        have hb := below_step HB2.out hb2
        have hv := V3.out.keep hb
        obtain ⟨A2, cc, rfl, -⟩ := ho.len
        obtain ⟨q0, q1, q2, q3⟩ := hv.tells2
        obtain ⟨f0, f1, f2, f3⟩ := fin_plane (w := w) hv ho (.inl (by have := V3.out.lt; have := HB2.out.size; omega)) (by have := V3.out.lt; omega) (Nat.le_refl _) (below_step HB.out hb) (.int .i64 M) (.slice A2 T.length cc)
        have F2 := Lib.hid (f2.low (show w.heap.size ≤ _ from Nat.le_trans HB.out.size HB2.out.size))
        have F3 := Lib.hid f3
        clear f2 f3 hv hb
        go_wp2
        exact bodyPost_ret (v := .tuple #[.agg #[.int .i64 M, .slice A2 T.length cc], .int .i64 C]) (by simp [results, Try.results14, go_sem, f0, f1]) rfl ⟨_, rfl, F2.out, F3.out⟩
      · have HA : Hid (honM k0 2 k2 = tlaS k0 k0 k2 [0, 1, 0]) := Lib.hid (by unfold honM; rw [if_pos ⟨hp, by decide⟩]; rfl)
        rw [HA.out]
        have hset := (OwnI.made W 3 (by unfold maxLen; omega)).set 1 1
        obtain ⟨-, -, o3, o4⟩ := (OwnI.made W 3 (by unfold maxLen; omega)).cells
        have q1 := o3 1 (by simp)
        have q2 := o4 1
        rw [World.setCell_alloc_at _ _ _ _ _ rfl] at hset
        have HO2 := Lib.hid hset
        have HB2 := Lib.hid (below_one W (.cells ((madeCells #[.int .i64 0] 3).setIfInBounds 1 (.int .i64 1)) 2))
        have HT := Lib.hid (TypicalLaw_any k0 k0 k2 (some ⟨W.heap.size, 0, none⟩) 3 [0, 1, 0] _ (by decide) HO2.out.ri)
        obtain ⟨⟨M, T, C⟩, hR⟩ : ∃ R, tlaS k0 k0 k2 [0, 1, 0] = R := ⟨_, rfl⟩
        rw [hR] at HT ⊢
        clear hset o3 o4 hR HA
        go_enter Try.func14, Try.ntmps14
        go_wp2_with fail
        rw [HW.out]
        refine (HP.out _).mono ?_
        rintro e w1 ⟨rfl, rfl⟩
        go_wp2_with fail
        refine (HI.out _).mono ?_
        rintro e w1 ⟨rfl, rfl⟩
        go_wp2_with fail
        refine HT.out.mono ?_
        rintro e w2 ⟨v, rfl, ho, hb2⟩
        have hb := below_step HB2.out hb2
        have hv := V3.out.keep hb
        obtain ⟨A2, cc, rfl, -⟩ := ho.len
        obtain ⟨q0, q1, q2, q3⟩ := hv.tells2
        obtain ⟨f0, f1, f2, f3⟩ := fin_plane (w := w) hv ho (.inl (by have := V3.out.lt; have := HB2.out.size; omega)) (by have := V3.out.lt; omega) (Nat.le_refl _) (below_step HB.out hb) (.int .i64 M) (.slice A2 T.length cc)
        have F2 := Lib.hid (f2.low (show w.heap.size ≤ _ from Nat.le_trans HB.out.size HB2.out.size))
        have F3 := Lib.hid f3
        clear f2 f3 hv hb
        go_wp2
        exact bodyPost_ret (v := .tuple #[.agg #[.int .i64 M, .slice A2 T.length cc], .int .i64 C]) (by simp [results, Try.results14, go_sem, f0, f1]) rfl ⟨_, rfl, F2.out, F3.out⟩
      · have HA : Hid (honM k0 3 k2 = tlaS k0 k0 k2 [0, 0, 1]) := Lib.hid (by unfold honM; rw [if_pos ⟨hp, by decide⟩]; rfl)
        rw [HA.out]
        have hset := (OwnI.made W 3 (by unfold maxLen; omega)).set 2 1
        obtain ⟨-, -, o3, o4⟩ := (OwnI.made W 3 (by unfold maxLen; omega)).cells
        have q1 := o3 2 (by simp)
        have q2 := o4 2
        rw [World.setCell_alloc_at _ _ _ _ _ rfl] at hset
        have HO2 := Lib.hid hset
        have HB2 := Lib.hid (below_one W (.cells ((madeCells #[.int .i64 0] 3).setIfInBounds 2 (.int .i64 1)) 2))
        have HT := Lib.hid (TypicalLaw_any k0 k0 k2 (some ⟨W.heap.size, 0, none⟩) 3 [0, 0, 1] _ (by decide) HO2.out.ri)
        obtain ⟨⟨M, T, C⟩, hR⟩ : ∃ R, tlaS k0 k0 k2 [0, 0, 1] = R := ⟨_, rfl⟩
        rw [hR] at HT ⊢
        clear hset o3 o4 hR HA
        go_enter Try.func14, Try.ntmps14
        go_wp2_with fail
        rw [HW.out]
        refine (HP.out _).mono ?_
        rintro e w1 ⟨rfl, rfl⟩
        go_wp2_with fail
        refine (HI.out _).mono ?_
        rintro e w1 ⟨rfl, rfl⟩
        go_wp2_with fail
        refine HT.out.mono ?_
        rintro e w2 ⟨v, rfl, ho, hb2⟩
        have hb := below_step HB2.out hb2
        have hv := V3.out.keep hb
        obtain ⟨A2, cc, rfl, -⟩ := ho.len
        obtain ⟨q0, q1, q2, q3⟩ := hv.tells2
        obtain ⟨f0, f1, f2, f3⟩ := fin_plane (w := w) hv ho (.inl (by have := V3.out.lt; have := HB2.out.size; omega)) (by have := V3.out.lt; omega) (Nat.le_refl _) (below_step HB.out hb) (.int .i64 M) (.slice A2 T.length cc)
        have F2 := Lib.hid (f2.low (show w.heap.size ≤ _ from Nat.le_trans HB.out.size HB2.out.size))
        have F3 := Lib.hid f3
        clear f2 f3 hv hb
        go_wp2
        exact bodyPost_ret (v := .tuple #[.agg #[.int .i64 M, .slice A2 T.length cc], .int .i64 C]) (by simp [results, Try.results14, go_sem, f0, f1]) rfl ⟨_, rfl, F2.out, F3.out⟩
    · have HA : Hid (honM k0 k1 k2 = (0, [], 2)) := Lib.hid (by unfold honM; rw [if_neg (fun h => hh h.2)])
      rw [HA.out]
      rw [hp] at HP
      rw [show inB k1 1 3 = false by simpa using hh] at HI
      clear hmk hh hp HA
      go_enter Try.func14, Try.ntmps14
      go_wp2_with fail
      rw [HW.out]
      refine (HP.out _).mono ?_
      rintro e w1 ⟨rfl, rfl⟩
      go_wp2_with fail
      refine (HI.out _).mono ?_
      rintro e w1 ⟨rfl, rfl⟩
      have hv := V3.out.keep (Below.refl _ _)
      obtain ⟨q0, q1, q2, q3⟩ := hv.tells2
      obtain ⟨f0, f1, f2, f3⟩ := fin_plane (w := w) hv (OwnR.nil _ w.heap.size 0) (.inr (Nat.zero_le _)) (by omega) (Nat.zero_le _) (below_step HB.out (Below.refl _ _)) (.int .i64 0) (.slice none 0 0)
      have F2 := Lib.hid f2
      have F3 := Lib.hid f3
      clear f2 f3 hv
      go_wp2
      exact bodyPost_ret (v := .tuple #[.agg #[.int .i64 0, .slice none 0 0], .int .i64 (2)]) (by simp [results, Try.results14, go_sem, f0, f1]) rfl ⟨_, rfl, F2.out, F3.out⟩
  · have HA : Hid (honM k0 k1 k2 = (0, [], 2)) := Lib.hid (by unfold honM; rw [if_neg (fun h => hp h.1)])
    rw [HA.out]
    rw [show isP4 k0 = false by simpa using hp] at HP
    clear hmk hp HA
    go_enter Try.func14, Try.ntmps14
    go_wp2_with fail
    rw [HW.out]
    refine (HP.out _).mono ?_
    rintro e w1 ⟨rfl, rfl⟩
    have hv := V3.out.keep (Below.refl _ _)
    obtain ⟨q0, q1, q2, q3⟩ := hv.tells2
    obtain ⟨f0, f1, f2, f3⟩ := fin_plane (w := w) hv (OwnR.nil _ w.heap.size 0) (.inr (Nat.zero_le _)) (by omega) (Nat.zero_le _) (below_step HB.out (Below.refl _ _)) (.int .i64 0) (.slice none 0 0)
    have F2 := Lib.hid f2
    have F3 := Lib.hid f3
    clear f2 f3 hv
    go_wp2
    exact bodyPost_ret (v := .tuple #[.agg #[.int .i64 0, .slice none 0 0], .int .i64 (2)]) (by simp [results, Try.results14, go_sem, f0, f1]) rfl ⟨_, rfl, F2.out, F3.out⟩
end Go.Proofs.Ytfhdgcndiljjcab

/- Contract of HondaLaw, of the model. -/
namespace Go.Proofs.Ytfhdgcndiljjcab
open Go.RowKit Go.WideShapes Go.ChangeShapes Go.ChangeAt

theorem honU_codeT : ∀ p ∈ [2, 3, 5, 7], ∀ h ∈ [1, 2, 3], codeT p p (honU h) 0 = 0 := by decide
theorem honU_ok {p h d : Int} (hp : isP4 p = true) (d1 : 1 ≤ d) (d2 : d ≤ 10) (hh : h ∈ [1, 2, 3]) : codeTD p p d (honU h) = 0 := by
  unfold codeTD
  rw [if_pos (honU_codeT p (by have := (isP4_iff p).1 hp; simp; omega) h hh), if_pos ((inB_iff _ _ _).2 ⟨d1, d2⟩)]
theorem honU_bad {p h d : Int} (hp : isP4 p = true) (hd : inB d 1 10 = false) (hh : h ∈ [1, 2, 3]) : codeTD p p d (honU h) = 2 := by
  unfold codeTD
  rw [if_pos (honU_codeT p (by have := (isP4_iff p).1 hp; simp; omega) h hh), hd]
  rfl
theorem honM_no {p h d : Int} (hh : ¬(isP4 p = true ∧ inB h 1 3 = true ∧ inB d 1 10 = true)) : honM p h d = (0, [], 2) := by
  unfold honM
  by_cases h1 : isP4 p = true ∧ inB h 1 3 = true
  · rw [if_pos h1]
    obtain ⟨i1, i2⟩ := (inB_iff _ _ _).1 h1.2
    have h3 : inB d 1 10 = false := by
      cases e : inB d 1 10 with
      | false => rfl
      | true => exact absurd ⟨h1.1, h1.2, e⟩ hh
    have h4 := honU_bad h1.1 h3 (h := h) (by simp; omega)
    unfold tlaS
    rw [h4, if_neg (by omega)]
  · rw [if_neg h1]
set_option maxHeartbeats 8000000 in
set_option maxRecDepth 100000 in
theorem sHondaLaw_any (k0 k1 k2 : Int) (w : World) :
    Calls Try.prog 13 #[.int .i64 k0, .int .i64 k1, .int .i64 k2] w fun x w' => ∃ s, x = .returned (.tuple #[.agg #[.int .i64 (honM k0 k1 k2).1, s], .int .i64 (honM k0 k1 k2).2.2]) ∧ OwnR w' w.heap.size w'.heap.size s (honM k0 k1 k2).2.1 ∧ Below w.heap.size w w' := by
  obtain ⟨W, hW⟩ : ∃ W, w.alloc (.cells #[.int .i64 0, .slice none 0 0] 25) = W := ⟨_, rfl⟩
  have hwb : Below w.heap.size w W := by rw [← hW]; exact below_one _ _
  have v3 : VarC 25 W w.heap.size #[.int .i64 0, .slice none 0 0] := by rw [← hW]; exact VarC.new _ _ _
  have V3 := Lib.hid v3
  have HB := Lib.hid hwb
  have HW := Lib.hid hW
  have HP := Lib.hid (fun W0 => l09Prime_any k0 W0)
  have HI := Lib.hid (fun W0 => l01In_any k1 1 3 W0)
  have HJ := Lib.hid (fun W0 => l01In_any k2 1 10 W0)
  have hmk : ∀ W : World, (Instr.makeSlice 22 (.int .i64 3) (.int .i64 3)).run Try.prog W = .ok (.slice (some ⟨W.heap.size, 0, none⟩) 3 3) (W.alloc (.cells (madeCells #[.int .i64 0] 3) 2)) := by
    intro W
    exact run_make_row' (P := Try.prog) 22 2 (.int .i64 0) 8 Try.underlying22 info64 rfl .i64 .i64 3 (by omega) (by omega) W
  clear v3 hwb hW
  by_cases hc : isP4 k0 = true ∧ inB k1 1 3 = true ∧ inB k2 1 10 = true
  · obtain ⟨hp, hh, hd⟩ := hc
    rw [hp] at HP
    rw [hh] at HI
    rw [hd] at HJ
    obtain ⟨i1, i2⟩ := (inB_iff _ _ _).1 hh
    obtain ⟨j1, j2⟩ := (inB_iff _ _ _).1 hd
    have hp5 := (isP4_iff k0).1 hp
    obtain ⟨P, rfl⟩ := Int.eq_ofNat_of_zero_le (show 0 ≤ k0 by omega)
    obtain ⟨D, rfl⟩ := Int.eq_ofNat_of_zero_le (show 0 ≤ k2 by omega)
    have hp4 : P = 2 ∨ P = 3 ∨ P = 5 ∨ P = 7 := by omega
    clear hp5
    rcases (show k1 = 1 ∨ k1 = 2 ∨ k1 = 3 by omega) with rfl | rfl | rfl
    · have HA : Hid (honM (P : Int) 1 (D : Int) = ((P : Int), lawT P (P : Int) D (Ser.co [1, 0, 0]), 0)) := Lib.hid (by
        unfold honM tlaS
        rw [if_pos ⟨hp, by decide⟩, if_pos (honU_ok hp (by omega) (by omega) (by decide)), Int.toNat_natCast, Int.toNat_natCast]; rfl)
      rw [HA.out]
      have hset := (OwnI.made W 3 (by unfold maxLen; omega)).set 0 1
      obtain ⟨-, -, o3, o4⟩ := (OwnI.made W 3 (by unfold maxLen; omega)).cells
      have q1 := o3 0 (by simp)
      have q2 := o4 0
      rw [World.setCell_alloc_at _ _ _ _ _ rfl] at hset
      have HO2 := Lib.hid hset
      have HB2 := Lib.hid (below_one W (.cells ((madeCells #[.int .i64 0] 3).setIfInBounds 0 (.int .i64 1)) 2))
      have hco : ∀ i, 0 ≤ Ser.co [1, 0, 0] i ∧ Ser.co [1, 0, 0] i ≤ 10000 := fun i => by rcases i with _ | _ | _ | i <;> simp [Ser.co]
      have HT := Lib.hid (l09Law_any P (P : Int) D (some ⟨W.heap.size, 0, none⟩) 3 [1, 0, 0] _ hp4 (by omega) (by omega) (by omega) (by omega) (by decide) hco HO2.out.ri)
      obtain ⟨T, hR⟩ : ∃ R, lawT P (P : Int) D (Ser.co [1, 0, 0]) = R := ⟨_, rfl⟩
      rw [hR] at HT ⊢
      clear hset o3 o4 hR HA hco hp hp4
      go_enter Try.func13, Try.ntmps13
      go_wp2_with fail
      rw [HW.out]
      refine (HP.out _).mono ?_
      rintro e w1 ⟨rfl, rfl⟩
      go_wp2_with fail
      refine (HI.out _).mono ?_
      rintro e w1 ⟨rfl, rfl⟩
      go_wp2_with fail
      refine (HJ.out _).mono ?_
      rintro e w1 ⟨rfl, rfl⟩
      go_wp2_with fail
      refine HT.out.mono ?_
      rintro e w2 ⟨v, rfl, ho, hb2⟩
      obtain ⟨A2, cc, rfl, -⟩ := ho.len
      go_wp2_with fail
      refine (l03Make_any _ _ _ _ _).mono ?_
      rintro e w3 ⟨rfl, hb3⟩
      have hb := below_step HB2.out (below_step hb2 hb3)
      have hv := V3.out.keep hb
      obtain ⟨q0, q1, q2, q3⟩ := hv.tells2
      obtain ⟨f0, f1, f2, f3⟩ := fin_plane (w := w) hv (ho.keep hb3) (.inl (by have := V3.out.lt; have := HB2.out.size; omega)) (by have := V3.out.lt; omega) hb3.size (below_step HB.out hb) (.int .i64 P) (.slice A2 T.length cc)
      have F2 := Lib.hid (f2.low (show w.heap.size ≤ _ from Nat.le_trans HB.out.size HB2.out.size))
      have F3 := Lib.hid f3
      clear f2 f3 hv hb hb3
      go_wp2
      exact bodyPost_ret (v := .tuple #[.agg #[.int .i64 P, .slice A2 T.length cc], .int .i64 0]) (by simp [results, Try.results13, go_sem, f0, f1]) rfl ⟨_, rfl, F2.out, F3.out⟩
    · have HA : Hid (honM (P : Int) 2 (D : Int) = ((P : Int), lawT P (P : Int) D (Ser.co [0, 1, 0]), 0)) := Lib.hid (by
        unfold honM tlaS
        rw [if_pos ⟨hp, by decide⟩, if_pos (honU_ok hp (by omega) (by omega) (by decide)), Int.toNat_natCast, Int.toNat_natCast]; rfl)
      rw [HA.out]
      have hset := (OwnI.made W 3 (by unfold maxLen; omega)).set 1 1
      obtain ⟨-, -, o3, o4⟩ := (OwnI.made W 3 (by unfold maxLen; omega)).cells
      have q1 := o3 1 (by simp)
      have q2 := o4 1
      rw [World.setCell_alloc_at _ _ _ _ _ rfl] at hset
      have HO2 := Lib.hid hset
      have HB2 := Lib.hid (below_one W (.cells ((madeCells #[.int .i64 0] 3).setIfInBounds 1 (.int .i64 1)) 2))
      have hco : ∀ i, 0 ≤ Ser.co [0, 1, 0] i ∧ Ser.co [0, 1, 0] i ≤ 10000 := fun i => by rcases i with _ | _ | _ | i <;> simp [Ser.co]
      have HT := Lib.hid (l09Law_any P (P : Int) D (some ⟨W.heap.size, 0, none⟩) 3 [0, 1, 0] _ hp4 (by omega) (by omega) (by omega) (by omega) (by decide) hco HO2.out.ri)
      obtain ⟨T, hR⟩ : ∃ R, lawT P (P : Int) D (Ser.co [0, 1, 0]) = R := ⟨_, rfl⟩
      rw [hR] at HT ⊢
      clear hset o3 o4 hR HA hco hp hp4
      go_enter Try.func13, Try.ntmps13
      go_wp2_with fail
      rw [HW.out]
      refine (HP.out _).mono ?_
      rintro e w1 ⟨rfl, rfl⟩
      go_wp2_with fail
      refine (HI.out _).mono ?_
      rintro e w1 ⟨rfl, rfl⟩
      go_wp2_with fail
      refine (HJ.out _).mono ?_
      rintro e w1 ⟨rfl, rfl⟩
      go_wp2_with fail
      refine HT.out.mono ?_
      rintro e w2 ⟨v, rfl, ho, hb2⟩
      obtain ⟨A2, cc, rfl, -⟩ := ho.len
      go_wp2_with fail
      refine (l03Make_any _ _ _ _ _).mono ?_
      rintro e w3 ⟨rfl, hb3⟩
      have hb := below_step HB2.out (below_step hb2 hb3)
      have hv := V3.out.keep hb
      obtain ⟨q0, q1, q2, q3⟩ := hv.tells2
      obtain ⟨f0, f1, f2, f3⟩ := fin_plane (w := w) hv (ho.keep hb3) (.inl (by have := V3.out.lt; have := HB2.out.size; omega)) (by have := V3.out.lt; omega) hb3.size (below_step HB.out hb) (.int .i64 P) (.slice A2 T.length cc)
      have F2 := Lib.hid (f2.low (show w.heap.size ≤ _ from Nat.le_trans HB.out.size HB2.out.size))
      have F3 := Lib.hid f3
      clear f2 f3 hv hb hb3
      go_wp2
      exact bodyPost_ret (v := .tuple #[.agg #[.int .i64 P, .slice A2 T.length cc], .int .i64 0]) (by simp [results, Try.results13, go_sem, f0, f1]) rfl ⟨_, rfl, F2.out, F3.out⟩
    · have HA : Hid (honM (P : Int) 3 (D : Int) = ((P : Int), lawT P (P : Int) D (Ser.co [0, 0, 1]), 0)) := Lib.hid (by
        unfold honM tlaS
        rw [if_pos ⟨hp, by decide⟩, if_pos (honU_ok hp (by omega) (by omega) (by decide)), Int.toNat_natCast, Int.toNat_natCast]; rfl)
      rw [HA.out]
      have hset := (OwnI.made W 3 (by unfold maxLen; omega)).set 2 1
      obtain ⟨-, -, o3, o4⟩ := (OwnI.made W 3 (by unfold maxLen; omega)).cells
      have q1 := o3 2 (by simp)
      have q2 := o4 2
      rw [World.setCell_alloc_at _ _ _ _ _ rfl] at hset
      have HO2 := Lib.hid hset
      have HB2 := Lib.hid (below_one W (.cells ((madeCells #[.int .i64 0] 3).setIfInBounds 2 (.int .i64 1)) 2))
      have hco : ∀ i, 0 ≤ Ser.co [0, 0, 1] i ∧ Ser.co [0, 0, 1] i ≤ 10000 := fun i => by rcases i with _ | _ | _ | i <;> simp [Ser.co]
      have HT := Lib.hid (l09Law_any P (P : Int) D (some ⟨W.heap.size, 0, none⟩) 3 [0, 0, 1] _ hp4 (by omega) (by omega) (by omega) (by omega) (by decide) hco HO2.out.ri)
      obtain ⟨T, hR⟩ : ∃ R, lawT P (P : Int) D (Ser.co [0, 0, 1]) = R := ⟨_, rfl⟩
      rw [hR] at HT ⊢
      clear hset o3 o4 hR HA hco hp hp4
      go_enter Try.func13, Try.ntmps13
      go_wp2_with fail
      rw [HW.out]
      refine (HP.out _).mono ?_
      rintro e w1 ⟨rfl, rfl⟩
      go_wp2_with fail
      refine (HI.out _).mono ?_
      rintro e w1 ⟨rfl, rfl⟩
      go_wp2_with fail
      refine (HJ.out _).mono ?_
      rintro e w1 ⟨rfl, rfl⟩
      go_wp2_with fail
      refine HT.out.mono ?_
      rintro e w2 ⟨v, rfl, ho, hb2⟩
      obtain ⟨A2, cc, rfl, -⟩ := ho.len
      go_wp2_with fail
      refine (l03Make_any _ _ _ _ _).mono ?_
      rintro e w3 ⟨rfl, hb3⟩
      have hb := below_step HB2.out (below_step hb2 hb3)
      have hv := V3.out.keep hb
      obtain ⟨q0, q1, q2, q3⟩ := hv.tells2
      obtain ⟨f0, f1, f2, f3⟩ := fin_plane (w := w) hv (ho.keep hb3) (.inl (by have := V3.out.lt; have := HB2.out.size; omega)) (by have := V3.out.lt; omega) hb3.size (below_step HB.out hb) (.int .i64 P) (.slice A2 T.length cc)
      have F2 := Lib.hid (f2.low (show w.heap.size ≤ _ from Nat.le_trans HB.out.size HB2.out.size))
      have F3 := Lib.hid f3
      clear f2 f3 hv hb hb3
      go_wp2
      exact bodyPost_ret (v := .tuple #[.agg #[.int .i64 P, .slice A2 T.length cc], .int .i64 0]) (by simp [results, Try.results13, go_sem, f0, f1]) rfl ⟨_, rfl, F2.out, F3.out⟩
  · have HA : Hid (honM k0 k1 k2 = (0, [], 2)) := Lib.hid (honM_no hc)
    rw [HA.out]
    clear hmk HA
    by_cases hp : isP4 k0 = true
    · rw [hp] at HP
      by_cases hh : inB k1 1 3 = true
      · rw [hh] at HI
        have hd : inB k2 1 10 = false := by
          cases e : inB k2 1 10 with
          | false => rfl
          | true => exact absurd ⟨hp, hh, e⟩ hc
        rw [hd] at HJ
        clear hc hp hh hd
        go_enter Try.func13, Try.ntmps13
        go_wp2_with fail
        rw [HW.out]
        refine (HP.out _).mono ?_
        rintro e w1 ⟨rfl, rfl⟩
        go_wp2_with fail
        refine (HI.out _).mono ?_
        rintro e w1 ⟨rfl, rfl⟩
        go_wp2_with fail
        refine (HJ.out _).mono ?_
        rintro e w1 ⟨rfl, rfl⟩
        have hv := V3.out.keep (Below.refl _ _)
        obtain ⟨q0, q1, q2, q3⟩ := hv.tells2
        obtain ⟨f0, f1, f2, f3⟩ := fin_plane (w := w) hv (OwnR.nil _ w.heap.size 0) (.inr (Nat.zero_le _)) (by omega) (Nat.zero_le _) (below_step HB.out (Below.refl _ _)) (.int .i64 0) (.slice none 0 0)
        have F2 := Lib.hid f2
        have F3 := Lib.hid f3
        clear f2 f3 hv
        go_wp2
        exact bodyPost_ret (v := .tuple #[.agg #[.int .i64 0, .slice none 0 0], .int .i64 (2)]) (by simp [results, Try.results13, go_sem, f0, f1]) rfl ⟨_, rfl, F2.out, F3.out⟩
      · rw [show inB k1 1 3 = false by simpa using hh] at HI
        clear hc hp hh
        go_enter Try.func13, Try.ntmps13
        go_wp2_with fail
        rw [HW.out]
        refine (HP.out _).mono ?_
        rintro e w1 ⟨rfl, rfl⟩
        go_wp2_with fail
        refine (HI.out _).mono ?_
        rintro e w1 ⟨rfl, rfl⟩
        have hv := V3.out.keep (Below.refl _ _)
        obtain ⟨q0, q1, q2, q3⟩ := hv.tells2
        obtain ⟨f0, f1, f2, f3⟩ := fin_plane (w := w) hv (OwnR.nil _ w.heap.size 0) (.inr (Nat.zero_le _)) (by omega) (Nat.zero_le _) (below_step HB.out (Below.refl _ _)) (.int .i64 0) (.slice none 0 0)
        have F2 := Lib.hid f2
        have F3 := Lib.hid f3
        clear f2 f3 hv
        go_wp2
        exact bodyPost_ret (v := .tuple #[.agg #[.int .i64 0, .slice none 0 0], .int .i64 (2)]) (by simp [results, Try.results13, go_sem, f0, f1]) rfl ⟨_, rfl, F2.out, F3.out⟩
    · rw [show isP4 k0 = false by simpa using hp] at HP
      clear hc hp
      go_enter Try.func13, Try.ntmps13
      go_wp2_with fail
      rw [HW.out]
      refine (HP.out _).mono ?_
      rintro e w1 ⟨rfl, rfl⟩
      have hv := V3.out.keep (Below.refl _ _)
      obtain ⟨q0, q1, q2, q3⟩ := hv.tells2
      obtain ⟨f0, f1, f2, f3⟩ := fin_plane (w := w) hv (OwnR.nil _ w.heap.size 0) (.inr (Nat.zero_le _)) (by omega) (Nat.zero_le _) (below_step HB.out (Below.refl _ _)) (.int .i64 0) (.slice none 0 0)
      have F2 := Lib.hid f2
      have F3 := Lib.hid f3
      clear f2 f3 hv
      go_wp2
      exact bodyPost_ret (v := .tuple #[.agg #[.int .i64 0, .slice none 0 0], .int .i64 (2)]) (by simp [results, Try.results13, go_sem, f0, f1]) rfl ⟨_, rfl, F2.out, F3.out⟩
end Go.Proofs.Ytfhdgcndiljjcab

