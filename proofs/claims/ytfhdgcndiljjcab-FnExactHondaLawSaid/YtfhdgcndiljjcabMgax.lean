/- Texts of contracts, joined. -/
import Derived.Test.YtfhdgcndiljjcabMgaw
import Derived.Test.YtfhdgcndiljjcabMgag
import Derived.Test.YtfhdgcndiljjcabMgab
import Derived.Test.YtfhdgcndiljjcabMgai
import Derived.Deep.Matrix
/- Contract of TypicalLogarithm, of the program. -/
namespace Go.Proofs.Ytfhdgcndiljjcab
open Go.RowKit Go.WideShapes Go.ChangeShapes Go.ChangeAt

set_option maxHeartbeats 1000000 in
theorem codeOfTypicalOfDegree_any (p m d : Int) (A : Option Addr) (c : Nat) (l : List Int) (w : World) (hl : l.length ≤ 1048576) (hr : RI w A l) :
    Calls Try.prog 19 #[.int .i64 p, .int .i64 m, .int .i64 d, .slice A l.length c] w fun e w' => e = .returned (.int .i64 (codeTD p m d l)) ∧ w = w' := by
  have HC := Lib.hid (codeOfTypical_any p m A c l 0 w (by omega) hr)
  by_cases h0 : codeT p m l 0 = 0
  · have HF := Lib.hid (show codeTD p m d l = if inB d 1 10 = true then 0 else 2 by unfold codeTD; rw [if_pos h0])
    rw [h0] at HC
    clear h0 hr
    by_cases hd : inB d 1 10 = true
    · have HF2 := Lib.hid (HF.out.trans (if_pos hd))
      go_enter Try.func19, Try.ntmps19
      go_wp2_with (first | (go_at_call 38; refine HC.out.mono ?_; rintro e w' ⟨rfl, rfl⟩) | (go_at_call 27; refine (isWithin_any _ _ _ _).mono ?_; rintro e w' ⟨rfl, rfl⟩; rw [hd]))
      go_ret
      exact ⟨ret_int HF2.out.symm, rfl⟩
    · have HF2 := Lib.hid (HF.out.trans (if_neg hd))
      have hd' : inB d 1 10 = false := by simpa using hd
      clear hd
      go_enter Try.func19, Try.ntmps19
      go_wp2_with (first | (go_at_call 38; refine HC.out.mono ?_; rintro e w' ⟨rfl, rfl⟩) | (go_at_call 27; refine (isWithin_any _ _ _ _).mono ?_; rintro e w' ⟨rfl, rfl⟩; rw [hd']))
      go_ret
      exact ⟨ret_int HF2.out.symm, rfl⟩
  · have HF := Lib.hid (show codeTD p m d l = codeT p m l 0 by unfold codeTD; rw [if_neg h0])
    obtain ⟨n1, n2⟩ := ne_facts h0
    clear h0 hr
    go_enter Try.func19, Try.ntmps19
    go_wp2_with (go_at_call 38; refine HC.out.mono ?_; rintro e w' ⟨rfl, rfl⟩)
    go_ret
    exact ⟨ret_int HF.out.symm, rfl⟩


end Go.Proofs.Ytfhdgcndiljjcab

/- Contract of TypicalLaw, of the program. -/
namespace Go.Proofs.Ytfhdgcndiljjcab
open Go.RowKit Go.WideShapes Go.ChangeShapes Go.ChangeAt

/-- what TypicalLaw answers -/
def tlaP (p m d : Int) (l : List Int) : Int × List (List Int) × Int :=
  if codeTD p m d l = 0 then (m, tlwP p.toNat m d.toNat l, 0) else (0, [], codeTD p m d l)
theorem field_lawT (a b c : Value) (W : World) : (Instr.field 45 (.agg #[a, b, c]) 0).run Try.prog W = .ok (.agg #[a, b, c]) W := by kernel_rfl
set_option maxHeartbeats 8000000 in
set_option maxRecDepth 100000 in
theorem TypicalLaw_anyP (p m d : Int) (A : Option Addr) (c : Nat) (l : List Int) (w : World) (hl : l.length ≤ 1048576) (hr : RI w A l) :
    Calls Try.prog 7 #[.int .i64 p, .int .i64 m, .int .i64 d, .slice A l.length c] w fun x w' => ∃ s, x = .returned (.tuple #[.agg #[.int .i64 (tlaP p m d l).1, s], .int .i64 (tlaP p m d l).2.2]) ∧ OwnR w' w.heap.size w'.heap.size s (tlaP p m d l).2.1 ∧ Below w.heap.size w w' := by
  obtain ⟨W, hW⟩ : ∃ W, w.alloc (.cells #[.int .i64 0, .slice none 0 0] 25) = W := ⟨_, rfl⟩
  have hwb : Below w.heap.size w W := by rw [← hW]; exact below_one _ _
  have v3 : VarC 25 W w.heap.size #[.int .i64 0, .slice none 0 0] := by rw [← hW]; exact VarC.new _ _ _
  have V3 := Lib.hid v3
  have HB := Lib.hid hwb
  have HW := Lib.hid hW
  have HRW := Lib.hid (hr.below hwb)
  have HC := Lib.hid (codeOfTypicalOfDegree_any p m d A c l W hl HRW.out)
  clear v3 hwb hW hr
  by_cases h0 : codeTD p m d l = 0
  · obtain ⟨hct, hd1, hd2⟩ := codeTD_ok h0
    obtain ⟨⟨hm1, hm2⟩, ha, hp, -, k3⟩ := codeT_ok hct
    obtain ⟨P, rfl⟩ := Int.eq_ofNat_of_zero_le (show 0 ≤ p by omega)
    obtain ⟨D, rfl⟩ := Int.eq_ofNat_of_zero_le (show 0 ≤ d by omega)
    rw [h0] at HC
    have HA : Hid (tlaP P m D l = (m, tlwP P m D l, 0)) := Lib.hid (by unfold tlaP; rw [if_pos h0, Int.toNat_natCast, Int.toNat_natCast])
    rw [HA.out]
    have hco : ∀ i, 0 ≤ Ser.co l i ∧ Ser.co l i ≤ m - 1 := fun i => by
      by_cases hi : i < l.length
      · unfold allIn at ha
        rw [List.all_eq_true] at ha
        have := ha l[i] (List.getElem_mem hi)
        unfold Ser.co
        rw [List.getElem?_eq_getElem hi]
        exact (inB_iff _ _ _).1 this
      · rw [Ser.co_over (by omega)]; omega
    have hp4 : P = 2 ∨ P = 3 ∨ P = 5 ∨ P = 7 := by omega
    have HT := Lib.hid (typicalLaw_any P m D A c l W hm1 hm2 (by omega) (by omega) hp4 (fun i => by have := hco i; omega) HRW.out)
    have hTl : (tlwP P m D l).length = D + 1 := (Pl.OkG.of_tab hm1 (by omega) (by omega) (by omega) _).len
    obtain ⟨T, hT⟩ : ∃ T, tlwP P m D l = T := ⟨_, rfl⟩
    rw [hT] at HT hTl ⊢
    clear h0 hct ha hp hT hco hp4 HA
    go_enter Try.func7, Try.ntmps7
    go_wp2_with fail
    rw [HW.out]
    refine HC.out.mono ?_
    rintro e w1 ⟨rfl, rfl⟩
    go_wp2_with fail
    refine HT.out.mono ?_
    rintro e w2 ⟨v, rfl, ho, hb2⟩
    obtain ⟨A2, cc, rfl, -⟩ := ho.len
    rw [hTl] at ho ⊢
    go_wp2_with fail
    erw [field_lawT]
    go_wp2_with fail
    refine (plane_any _ _ _ _ _ _).mono ?_
    rintro e w4 ⟨rfl, hb4⟩
    have hb := below_step hb2 hb4
    have hv := V3.out.keep hb
    obtain ⟨q0, q1, q2, q3⟩ := hv.tells2
    obtain ⟨f0, f1, f2, f3⟩ := fin_plane (w := w) hv (ho.keep hb4) (.inl (by have := V3.out.lt; omega)) (by omega) hb4.size (below_step HB.out hb) (.int .i64 m) (.slice A2 (D + 1) cc)
    have F2 := Lib.hid (f2.low (show w.heap.size ≤ W.heap.size from HB.out.size))
    have F3 := Lib.hid f3
    clear f2 f3 hv hb hb4
    go_wp2
    exact bodyPost_ret (v := .tuple #[.agg #[.int .i64 m, .slice A2 (D + 1) cc], .int .i64 0]) (by simp [results, Try.results7, go_sem, f0, f1]) rfl ⟨_, rfl, F2.out, F3.out⟩
  · have HA : Hid (tlaP p m d l = (0, [], codeTD p m d l)) := Lib.hid (by unfold tlaP; rw [if_neg h0])
    rw [HA.out]
    obtain ⟨n1, n2⟩ := ne_facts h0
    clear h0
    go_enter Try.func7, Try.ntmps7
    go_wp2_with fail
    rw [HW.out]
    refine HC.out.mono ?_
    rintro e w1 ⟨rfl, rfl⟩
    have hv := V3.out.keep (Below.refl _ _)
    obtain ⟨q0, q1, q2, q3⟩ := hv.tells2
    obtain ⟨f0, f1, f2, f3⟩ := fin_plane (w := w) hv (OwnR.nil _ w.heap.size 0) (.inr (Nat.zero_le _)) (by omega) (Nat.zero_le _) (below_step HB.out (Below.refl _ _)) (.int .i64 0) (.slice none 0 0)
    have F2 := Lib.hid f2
    have F3 := Lib.hid f3
    clear f2 f3 hv
    go_wp2
    exact bodyPost_ret (v := .tuple #[.agg #[.int .i64 0, .slice none 0 0], .int .i64 (codeTD p m d l)]) (by simp [results, Try.results7, go_sem, f0, f1]) rfl ⟨_, rfl, F2.out, F3.out⟩
end Go.Proofs.Ytfhdgcndiljjcab

/- Contract of TypicalLaw, of the model. -/
namespace Go.Proofs.Ytfhdgcndiljjcab
open Go.RowKit Go.WideShapes Go.ChangeShapes Go.ChangeAt

/-- what the model answers -/
def tlaS (p m d : Int) (l : List Int) : Int × List (List Int) × Int :=
  if codeTD p m d l = 0 then (m, lawT p.toNat m d.toNat (Ser.co l), 0) else (0, [], codeTD p m d l)
set_option maxHeartbeats 8000000 in
set_option maxRecDepth 100000 in
theorem sTypicalLaw_any (p m d : Int) (A : Option Addr) (c : Nat) (l : List Int) (w : World) (hl : l.length ≤ 1048576) (hr : RI w A l) :
    Calls Try.prog 5 #[.int .i64 p, .int .i64 m, .int .i64 d, .slice A l.length c] w fun x w' => ∃ s, x = .returned (.tuple #[.agg #[.int .i64 (tlaS p m d l).1, s], .int .i64 (tlaS p m d l).2.2]) ∧ OwnR w' w.heap.size w'.heap.size s (tlaS p m d l).2.1 ∧ Below w.heap.size w w' := by
  obtain ⟨W, hW⟩ : ∃ W, w.alloc (.cells #[.int .i64 0, .slice none 0 0] 25) = W := ⟨_, rfl⟩
  have hwb : Below w.heap.size w W := by rw [← hW]; exact below_one _ _
  have v3 : VarC 25 W w.heap.size #[.int .i64 0, .slice none 0 0] := by rw [← hW]; exact VarC.new _ _ _
  have V3 := Lib.hid v3
  have HB := Lib.hid hwb
  have HW := Lib.hid hW
  have HRW := Lib.hid (hr.below hwb)
  have HC := Lib.hid (l09Code_any p m A c l 0 W (by omega) HRW.out)
  clear v3 hwb hW hr
  by_cases hct : codeT p m l 0 = 0
  · obtain ⟨⟨hm1, hm2⟩, ha, hp, -, k3⟩ := codeT_ok hct
    obtain ⟨P, rfl⟩ := Int.eq_ofNat_of_zero_le (show 0 ≤ p by omega)
    rw [hct] at HC
    by_cases hd : inB d 1 10 = true
    · have h0 : codeTD P m d l = 0 := by unfold codeTD; rw [if_pos hct, if_pos hd]
      obtain ⟨hd1, hd2⟩ := (inB_iff _ _ _).1 hd
      obtain ⟨D, rfl⟩ := Int.eq_ofNat_of_zero_le (show 0 ≤ d by omega)
      have HA : Hid (tlaS P m D l = (m, lawT P m D (Ser.co l), 0)) := Lib.hid (by unfold tlaS; rw [if_pos h0, Int.toNat_natCast, Int.toNat_natCast])
      rw [HA.out]
      have hco : ∀ i, 0 ≤ Ser.co l i ∧ Ser.co l i ≤ m - 1 := fun i => by
        by_cases hi : i < l.length
        · unfold allIn at ha
          rw [List.all_eq_true] at ha
          have := ha l[i] (List.getElem_mem hi)
          unfold Ser.co
          rw [List.getElem?_eq_getElem hi]
          exact (inB_iff _ _ _).1 this
        · rw [Ser.co_over (by omega)]; omega
      have hp4 : P = 2 ∨ P = 3 ∨ P = 5 ∨ P = 7 := by omega
      have HT := Lib.hid (l09Law_any P m D A c l W hp4 hm1 hm2 (by omega) (by omega) k3 (fun i => by have := hco i; omega) HRW.out)
      obtain ⟨T, hT⟩ : ∃ T, lawT P m D (Ser.co l) = T := ⟨_, rfl⟩
      rw [hT] at HT ⊢
      have hin := inB_yes hd1 hd2
      clear h0 hct ha hp hT hco hp4 HA hd
      go_enter Try.func5, Try.ntmps5
      go_wp2_with fail
      rw [HW.out]
      refine HC.out.mono ?_
      rintro e w1 ⟨rfl, rfl⟩
      go_wp2_with fail
      refine (l01In_any _ _ _ _).mono ?_
      rintro e w1 ⟨rfl, rfl⟩
      rw [hin]
      go_wp2_with fail
      refine HT.out.mono ?_
      rintro e w2 ⟨v, rfl, ho, hb2⟩
      obtain ⟨A2, cc, rfl, -⟩ := ho.len
      go_wp2_with fail
      refine (l03Make_any _ _ _ _ _).mono ?_
      rintro e w4 ⟨rfl, hb4⟩
      have hb := below_step hb2 hb4
      have hv := V3.out.keep hb
      obtain ⟨q0, q1, q2, q3⟩ := hv.tells2
      obtain ⟨f0, f1, f2, f3⟩ := fin_plane (w := w) hv (ho.keep hb4) (.inl (by have := V3.out.lt; omega)) (by omega) hb4.size (below_step HB.out hb) (.int .i64 m) (.slice A2 T.length cc)
      have F2 := Lib.hid (f2.low (show w.heap.size ≤ W.heap.size from HB.out.size))
      have F3 := Lib.hid f3
      clear f2 f3 hv hb hb4
      go_wp2
      exact bodyPost_ret (v := .tuple #[.agg #[.int .i64 m, .slice A2 T.length cc], .int .i64 0]) (by simp [results, Try.results5, go_sem, f0, f1]) rfl ⟨_, rfl, F2.out, F3.out⟩
    · have h0 : codeTD P m d l = 2 := by unfold codeTD; rw [if_pos hct, if_neg hd]
      have HA : Hid (tlaS P m d l = (0, [], 2)) := Lib.hid (by unfold tlaS; rw [h0]; rfl)
      rw [HA.out]
      have hin : inB d 1 10 = false := by simpa using hd
      clear h0 hct ha hp HA hd
      go_enter Try.func5, Try.ntmps5
      go_wp2_with fail
      rw [HW.out]
      refine HC.out.mono ?_
      rintro e w1 ⟨rfl, rfl⟩
      go_wp2_with fail
      refine (l01In_any _ _ _ _).mono ?_
      rintro e w1 ⟨rfl, rfl⟩
      rw [hin]
      have hv := V3.out.keep (Below.refl _ _)
      obtain ⟨q0, q1, q2, q3⟩ := hv.tells2
      obtain ⟨f0, f1, f2, f3⟩ := fin_plane (w := w) hv (OwnR.nil _ w.heap.size 0) (.inr (Nat.zero_le _)) (by omega) (Nat.zero_le _) (below_step HB.out (Below.refl _ _)) (.int .i64 0) (.slice none 0 0)
      have F2 := Lib.hid f2
      have F3 := Lib.hid f3
      clear f2 f3 hv
      go_wp2
      exact bodyPost_ret (v := .tuple #[.agg #[.int .i64 0, .slice none 0 0], .int .i64 (2)]) (by simp [results, Try.results5, go_sem, f0, f1]) rfl ⟨_, rfl, F2.out, F3.out⟩
  · have h0 : codeTD p m d l = codeT p m l 0 := by unfold codeTD; rw [if_neg hct]
    have HA : Hid (tlaS p m d l = (0, [], codeT p m l 0)) := Lib.hid (by unfold tlaS; rw [h0, if_neg hct])
    rw [HA.out]
    obtain ⟨n1, n2⟩ := ne_facts hct
    clear h0 hct
    go_enter Try.func5, Try.ntmps5
    go_wp2_with fail
    rw [HW.out]
    refine HC.out.mono ?_
    rintro e w1 ⟨rfl, rfl⟩
    have hv := V3.out.keep (Below.refl _ _)
    obtain ⟨q0, q1, q2, q3⟩ := hv.tells2
    obtain ⟨f0, f1, f2, f3⟩ := fin_plane (w := w) hv (OwnR.nil _ w.heap.size 0) (.inr (Nat.zero_le _)) (by omega) (Nat.zero_le _) (below_step HB.out (Below.refl _ _)) (.int .i64 0) (.slice none 0 0)
    have F2 := Lib.hid f2
    have F3 := Lib.hid f3
    clear f2 f3 hv
    go_wp2
    exact bodyPost_ret (v := .tuple #[.agg #[.int .i64 0, .slice none 0 0], .int .i64 (codeT p m l 0)]) (by simp [results, Try.results5, go_sem, f0, f1]) rfl ⟨_, rfl, F2.out, F3.out⟩
end Go.Proofs.Ytfhdgcndiljjcab

/- TypicalLaw: the laws of the program and of the model are one. -/
namespace Go.Proofs.Ytfhdgcndiljjcab
open Go.RowKit

theorem tla_eq (p m d : Int) (l : List Int) : tlaP p m d l = tlaS p m d l := by
  unfold tlaP tlaS
  by_cases h : codeTD p m d l = 0
  · rw [if_pos h, if_pos h]
    obtain ⟨h1, d1, d2⟩ := codeTD_ok h
    obtain ⟨hm, -, hp, -⟩ := codeT_ok h1
    rw [tlw_law (by omega) hm.1 (by omega) (by omega)]
  · rw [if_neg h, if_neg h]
theorem tlaS_len (p m d : Int) (l : List Int) : szT (tlaS p m d l).2.1 ≤ 1048576 := by
  unfold tlaS
  by_cases h : codeTD p m d l = 0
  · rw [if_pos h]
    obtain ⟨h1, d1, d2⟩ := codeTD_ok h
    obtain ⟨hm, -, hp, -⟩ := codeT_ok h1
    exact szT_ok (Pl.Ok.of_tab hm.1 hm.2 (by omega) (by omega) _)
  · rw [if_neg h]; exact Nat.zero_le _
theorem TypicalLaw_any (p m d : Int) (A : Option Addr) (c : Nat) (l : List Int) (w : World) (hl : l.length ≤ 1048576) (hr : RI w A l) :
    Calls Try.prog 7 #[.int .i64 p, .int .i64 m, .int .i64 d, .slice A l.length c] w fun x w' => ∃ s, x = .returned (.tuple #[.agg #[.int .i64 (tlaS p m d l).1, s], .int .i64 (tlaS p m d l).2.2]) ∧ OwnR w' w.heap.size w'.heap.size s (tlaS p m d l).2.1 ∧ Below w.heap.size w w' := by
  rw [← tla_eq]
  exact TypicalLaw_anyP p m d A c l w hl hr
end Go.Proofs.Ytfhdgcndiljjcab

/- A plane among a law's arguments: what its reading tells. -/
namespace Go.Proofs.Ytfhdgcndiljjcab
open Go.RowKit Go.WideShapes Go.ChangeShapes Go.ChangeAt

theorem cells_i64ss : Try.prog.cellsOf 23 = 1 := by kernel_rfl
end Go.Proofs.Ytfhdgcndiljjcab

/- A list among a law's arguments: what its reading tells. -/
namespace Go.Proofs.Ytfhdgcndiljjcab
open Go.RowKit Go.WideShapes Go.ChangeShapes Go.ChangeAt

set_option maxRecDepth 100000 in
theorem open_lst {H : Type} {enc : TypeId × Value → H} {W : World} {base : Nat} {v : Value} {d : DataW H} {p : List MemPlace}
    (hv : Value.okWide Try.prog W .any base 22 v) (h : DataW.Trod enc Try.prog W 0 (fun _ => true) true 22 v d p) :
    ∃ (A : Option Addr) (c : Nat) (l : List Int), v = .slice A l.length c ∧ l.length ≤ maxLen ∧ RA W A l := by
  obtain ⟨a0, n0, c0, rfl⟩ := okWide_slice Try.underlying22 hv
  obtain ⟨fuel, hf⟩ := h
  rcases open_ints Try.underlying22 Try.underlying2 (by kernel_rfl) hf with ⟨hcs, -⟩ | ⟨x, n, c, zs, hcs, -, hl, hm, hz, -, hcell, hwz⟩
  · simp [Value.cells] at hcs
    obtain ⟨rfl, rfl, rfl⟩ := hcs
    exact ⟨none, 0, [], rfl, Nat.zero_le _, fun h => absurd rfl h⟩
  · simp [Value.cells] at hcs
    obtain ⟨rfl, rfl, rfl⟩ := hcs
    obtain ⟨l, rfl, h1, h2⟩ := ra_of_row (w := W) (a := some x) (len := n0) (cap := c0) (zs := zs) (.inr ⟨x, rfl, hl, hm, by simpa using hz, hcell, hwz⟩)
    exact ⟨some x, c0, l, rfl, h1, h2⟩
end Go.Proofs.Ytfhdgcndiljjcab

