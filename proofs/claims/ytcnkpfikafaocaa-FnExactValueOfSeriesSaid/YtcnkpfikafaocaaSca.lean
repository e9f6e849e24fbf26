/- Contracts of ScaleSeries, of the program and of the model. -/
import Derived.Test.YtcnkpfikafaocaaMon
import Derived.Test.YtcnkpfikafaocaaSpc
import Derived.Test.YtcnkpfikafaocaaMod
namespace Go.Proofs.Ytcnkpfikafaocaa
open Go.RowKit Go.WideShapes Go.ChangeShapes Go.ChangeAt

/-- the code of a series and a number -/
def codeSN (m : Int) (l : List Int) (k : Int) : Int := if isS m l = true then codeN m [k] else 1
theorem codeSN_ok {m : Int} {l : List Int} {k : Int} (h : codeSN m l k = 0) : ∃ d, l.length = d + 1 ∧ SerOk m d l ∧ 0 ≤ k ∧ k < m := by
  unfold codeSN at h
  by_cases h1 : isS m l = true
  · rw [if_pos h1] at h
    obtain ⟨d, e, s⟩ := serOk_of h1
    have := (codeN_one m k).1 h
    exact ⟨d, e, s, by omega, by omega⟩
  · rw [if_neg h1] at h; exact absurd h (by decide)

set_option maxHeartbeats 2000000 in
theorem codeOfSeriesAndNumber_any (m : Int) (A : Option Addr) (c : Nat) (l : List Int) (k : Int) (w : World) (hl : l.length ≤ 1048576) (hr : RI w A l) :
    Calls Try.prog 102 #[.agg #[.int .i64 m, .slice A l.length c], .int .i64 k] w fun e w' => e = .returned (.int .i64 (codeSN m l k)) ∧ Below w.heap.size w w' := by
  obtain ⟨W, hW, b1, b4, hwb⟩ := pro0 w m A l.length c
  have B1 := Lib.hid b1
  have HB := Lib.hid hwb
  have HW := Lib.hid hW
  have R1 := Lib.hid (hr.below hwb)
  have HC := Lib.hid (codeOfSeries1_any (w.heap.size + 1) m A c l W (by omega) R1.out b4)
  clear b1 b4 hwb hW hr
  by_cases h0 : isS m l = true
  · have HF := Lib.hid (show codeSN m l k = codeN m [k] by unfold codeSN; rw [if_pos h0])
    have hc := HC.out
    rw [code1_isS h0] at hc
    have HC0 := Lib.hid hc
    clear hc HC h0
    go_enter Try.func102, Try.ntmps102
    go_wp2_with fail
    rw [HW.out]
    refine HC0.out.mono ?_
    rintro e w1 ⟨rfl, hb1⟩
    obtain ⟨x1, x2⟩ := box_in B1.out hb1
    go_wp2_with fail
    refine (codeOfNumbers_any _ _ _ [k] _ (by simp) (RI_one _ _ _)).mono ?_
    rintro e w2 ⟨rfl, rfl⟩
    go_wp2
    go_ret
    exact ⟨ret_int HF.out.symm, below_alloc _ (below_step HB.out hb1)⟩
  · have h0' : isS m l = false := by simpa using h0
    have HF := Lib.hid (show codeSN m l k = 1 by unfold codeSN; rw [if_neg h0])
    have hc := HC.out
    rw [code1_no h0'] at hc
    have HC0 := Lib.hid hc
    clear hc HC h0
    go_enter Try.func102, Try.ntmps102
    go_wp2_with fail
    rw [HW.out]
    refine HC0.out.mono ?_
    rintro e w1 ⟨rfl, hb1⟩
    go_wp2
    go_ret
    exact ⟨ret_int HF.out.symm, below_step HB.out hb1⟩

def scaM (m : Int) (l : List Int) (k : Int) : Int × List Int × Int :=
  if codeSN m l k = 0 then (m, scaL m (l.length - 1) l k, 0) else (0, [], codeSN m l k)
theorem scaM_len (m : Int) (l : List Int) (k : Int) : (scaM m l k).2.1.length ≤ 1048576 := by
  unfold scaM
  split
  · rename_i h
    obtain ⟨d, e, s, _⟩ := codeSN_ok h
    have := s.d2
    dsimp only; unfold scaL; rw [Ser.cut_length]; omega
  · simp

theorem spro2 (w : World) (m : Int) (A : Option Addr) (n c : Nat) : ∃ W, (w.alloc (.cells #[.int .i64 m, .slice A n c] 26)).alloc (.cells #[.int .i64 0, .slice none 0 0] 26) = W ∧
    Box W w.heap.size m A n c ∧ Var2 W (w.heap.size + 1) (.int .i64 0) (.slice none 0 0) ∧ Below w.heap.size w W := spro1 w m A n c
set_option maxHeartbeats 4000000 in
theorem ScaleSeries_any (m : Int) (A : Option Addr) (c : Nat) (l : List Int) (k : Int) (w : World) (hl : l.length ≤ 1048576) (hr : RI w A l) :
    Calls Try.prog 56 #[.agg #[.int .i64 m, .slice A l.length c], .int .i64 k] w fun e w' => ∃ s, e = .returned (.tuple #[.agg #[.int .i64 (scaM m l k).1, s], .int .i64 (scaM m l k).2.2]) ∧ OwnI w' w.heap.size s (scaM m l k).2.1 ∧ Below w.heap.size w w' := by
  obtain ⟨W, hW, b1, v3, hwb⟩ := spro1 w m A l.length c
  have B1 := Lib.hid b1
  have V3 := Lib.hid v3
  have HB := Lib.hid hwb
  have HW := Lib.hid hW
  have R1 := Lib.hid (hr.below hwb)
  have HC := Lib.hid (codeOfSeriesAndNumber_any m A c l k W hl R1.out)
  clear b1 v3 hwb hW hr
  by_cases h0 : codeSN m l k = 0
  · obtain ⟨d, e1, s1, k1, k2⟩ := codeSN_ok h0
    have m2 := s1.m2
    have HA : Hid (scaM m l k = (m, scaL m d l k, 0)) := Lib.hid (by unfold scaM; rw [if_pos h0, e1]; rfl)
    rw [HA.out]
    have hc := HC.out
    rw [h0] at hc
    have HC0 := Lib.hid hc
    have HS := Lib.hid (fun W0 (h0 : Below W.heap.size W W0) => scaled_any m d A c l k W0 s1 (R1.out.below h0) (by omega) (by omega))
    obtain ⟨L, hL⟩ : ∃ L, scaL m d l k = L := ⟨_, rfl⟩
    rw [hL] at HS ⊢
    clear hc HC h0 hL e1 s1
    go_enter Try.func56, Try.ntmps56
    go_wp2_with fail
    rw [HW.out]
    refine HC0.out.mono ?_
    rintro e w1 ⟨rfl, hb1⟩
    obtain ⟨x1, x2⟩ := box_in B1.out hb1
    go_wp2_with fail
    refine (HS.out _ hb1).mono ?_
    rintro e w2 ⟨s, rfl, ho, hb2⟩
    obtain ⟨A2, c2, rfl, _⟩ := ho.form
    have hv := V3.out.keep (below_step hb1 hb2)
    have q0 := hv.c0
    have q1 := hv.c1
    have q2 := hv.fz 0
    have q3 := hv.fz 1
    obtain ⟨f0, f1, f2, f3⟩ := fin_var (w := w) hv ho (by have := V3.out.lt; have := (hb1).size; omega) (by omega) (below_step HB.out (below_step hb1 hb2)) (.int .i64 m) (.slice A2 L.length c2)
    have F2 := Lib.hid f2
    have F3 := Lib.hid f3
    clear f2 f3 hv
    go_wp2
    exact bodyPost_ret (v := .tuple #[.agg #[.int .i64 m, .slice A2 L.length c2], .int .i64 0]) (by simp [results, Try.results56, go_sem, f0, f1]) rfl ⟨_, rfl, F2.out, F3.out⟩
  · have HA : Hid (scaM m l k = (0, [], codeSN m l k)) := Lib.hid (by unfold scaM; rw [if_neg h0])
    rw [HA.out]
    obtain ⟨n1, n2⟩ := ne_facts h0
    obtain ⟨C, hC⟩ : ∃ C, codeSN m l k = C := ⟨_, rfl⟩
    have hc := HC.out
    rw [hC] at n1 n2 h0 hc ⊢
    have HC0 := Lib.hid hc
    clear hc HC hC
    go_enter Try.func56, Try.ntmps56
    go_wp2_with fail
    rw [HW.out]
    refine HC0.out.mono ?_
    rintro e w1 ⟨rfl, hb1⟩
    have hv := V3.out.keep hb1
    have q0 := hv.c0
    have q1 := hv.c1
    have q2 := hv.fz 0
    have q3 := hv.fz 1
    obtain ⟨f0, f1, f2, f3⟩ := fin_var (w := w) hv (OwnI.nil _ (w.heap.size + 1 + 1 + 1)) (by omega) (by omega) (below_step HB.out hb1) (.int .i64 0) (.slice none 0 0)
    have F2 := Lib.hid f2
    have F3 := Lib.hid f3
    clear f2 f3 hv
    go_wp2
    exact bodyPost_ret (v := .tuple #[.agg #[.int .i64 0, .slice none 0 0], .int .i64 C]) (by simp [results, Try.results56, go_sem, f0, f1]) rfl ⟨_, rfl, F2.out, F3.out⟩

/-! the model -/
set_option maxHeartbeats 2000000 in
theorem l02Scale_any (m : Int) (d : Nat) (k : Int) (A : Option Addr) (c : Nat) (l : List Int) (w : World) (hs : SerOk m d l) (hr : RI w A l) (k1 : 0 ≤ k) (k2 : k < m) :
    Calls Try.prog 109 #[.int .i64 m, .int .i64 k, .slice A l.length c] w fun e w' => ∃ v, e = .returned v ∧ OwnI w' w.heap.size v (scaL m d l k) ∧ Below w.heap.size w w' := by
  have HS := Lib.hid hs
  have HR := Lib.hid hr
  have hm1 := hs.m1
  have hm2 := hs.m2
  have hd := hs.d2
  have hm0 : ¬ m = 0 := by omega
  have hll : l.length ≤ 11 := by have := hs.len; omega
  have E1 := Lib.hid hs.len
  clear hs hr
  go_enter Try.func109, Try.ntmps109
  go_wp2
  go_loopw [7, 8] (fun r i wr => ∃ j : Nat, j ≤ l.length ∧ i = .int .i64 j ∧ OwnI wr w.heap.size r ((scaL m d l k).take j) ∧ Below w.heap.size w wr) (fun _ i _ => l.length - (intOf i).toNat)
  case atStart => exact ⟨0, Nat.zero_le _, rfl, OwnI.empty _, below_one _ _⟩
  case round =>
    obtain ⟨j, hj, rfl, hown, hbel⟩ := hrel
    have HB := Lib.hid hbel
    have HO := Lib.hid hown
    have hsz := hbel.size
    have hlk := take_cut_len m d (fun n => Ser.co l n * k) j
    clear hown hbel
    by_cases hlt : j < l.length
    · obtain ⟨b, off, rfl, hb, hc⟩ := HR.out.at j hlt
      have c1 := (HB.out.cell (p := ⟨b, off + j, none⟩) hb).trans hc
      obtain ⟨r1, r2⟩ := HS.out.red j
      have hst : (scaL m d l k).take (j + 1) = (scaL m d l k).take j ++ [Ser.co l j * k % m] := Ser.cut_take_succ _ _ _ _ (by have := E1.out; omega)
      obtain ⟨X, hX⟩ : ∃ X, Ser.co l j = X := ⟨_, rfl⟩
      rw [hX] at c1 r1 r2 hst
      have p1 := Int.mul_nonneg k1 r1
      have p2 := (mul_bd (x := k) (y := X) k1 (by omega) (by omega) (by omega)).2
      have he : X * k = k * X := Int.mul_comm _ _
      rw [he] at hst
      have j0 : (0 : Int) ≤ (j : Int) := by omega
      have j1 : (j : Int) < (l.length : Int) := by omega
      have HST := Lib.hid hst
      clear hX hst hc he
      go_wp2_with (at_builtin; refine wp_push _ _ _ (by rfl) (by rfl) Try.underlying24 w.heap.size _ _ (by rfl) HO.out (k * X % m) (by rfl) (by unfold scaL; omega) hsz ?_; intro v' w1 ho1 hpb)
      have HP := Lib.hid (HB.out.trans hpb)
      have HQ := Lib.hid ho1
      clear hpb ho1
      go_wp2
      go_roundw
      case rel => exact ⟨j + 1, by omega, by go_num, by rw [HST.out]; exact HQ.out, HP.out⟩
      case measure => simp only [intOf]; omega
    · obtain rfl : j = l.length := by omega
      have ho := HO.out
      rw [List.take_of_length_le (by unfold scaL; rw [Ser.cut_length, E1.out]; exact Nat.le_refl _)] at ho
      have HF := Lib.hid ho
      clear ho
      go_wp2
      go_ret
      exact ⟨_, rfl, HF.out, HB.out⟩

theorem codeSN_split (m : Int) (l : List Int) (k : Int) (h : isS m l = true) : codeSN m l k = if inB k 0 (m - 1) = true then 0 else 2 := by
  unfold codeSN codeN
  obtain ⟨d, e, s⟩ := serOk_of h
  rw [if_pos h, if_pos ((isM_iff m).2 ⟨s.m1, s.m2⟩)]
  unfold allIn
  simp

set_option maxHeartbeats 4000000 in
set_option maxRecDepth 100000 in
theorem sScaleSeries_any (m : Int) (A : Option Addr) (c : Nat) (l : List Int) (k : Int) (w : World) (hl : l.length ≤ 1048576) (hr : RI w A l) :
    Calls Try.prog 55 #[.agg #[.int .i64 m, .slice A l.length c], .int .i64 k] w fun e w' => ∃ s, e = .returned (.tuple #[.agg #[.int .i64 (scaM m l k).1, s], .int .i64 (scaM m l k).2.2]) ∧ OwnI w' w.heap.size s (scaM m l k).2.1 ∧ Below w.heap.size w w' := by
  obtain ⟨W, hW, b1, v3, hwb⟩ := spro1 w m A l.length c
  have B1 := Lib.hid b1
  have V3 := Lib.hid v3
  have HB := Lib.hid hwb
  have HW := Lib.hid hW
  have R1 := Lib.hid (hr.below hwb)
  have HC := Lib.hid (l02Is_any m A c l W (by omega) R1.out)
  clear b1 v3 hwb hW hr
  by_cases h0 : isS m l = true
  · have HCS := Lib.hid (codeSN_split m l k h0)
    have hc := HC.out
    rw [h0] at hc
    have HC0 := Lib.hid hc
    clear hc HC
    by_cases hk : inB k 0 (m - 1) = true
    · obtain ⟨d, e1, s1, k1, k2⟩ := codeSN_ok (show codeSN m l k = 0 by rw [HCS.out, if_pos hk])
      have m1 := s1.m1
      have m2 := s1.m2
      have HA : Hid (scaM m l k = (m, scaL m d l k, 0)) := Lib.hid (by unfold scaM; rw [if_pos (by rw [HCS.out, if_pos hk]), e1]; rfl)
      rw [HA.out]
      have HS := Lib.hid (fun W0 (h0 : Below W.heap.size W W0) => l02Scale_any m d k A c l W0 s1 (R1.out.below h0) k1 k2)
      obtain ⟨L, hL⟩ : ∃ L, scaL m d l k = L := ⟨_, rfl⟩
      rw [hL] at HS ⊢
      clear e1 s1 hL h0
      go_enter Try.func55, Try.ntmps55
      go_wp2_with fail
      rw [HW.out]
      refine HC0.out.mono ?_
      rintro e w0 ⟨rfl, hb0⟩
      obtain ⟨x1, x2, x3⟩ := B1.out.keep hb0
      go_wp2_with (go_at_call 99; refine (l01In_any _ _ _ _).mono ?_; rintro e w' ⟨rfl, rfl⟩)
      go_wp2
      go_region_held3 (fun w' => w'.cell? ⟨w.heap.size, 0, none⟩ = some (.int .i64 m) ∧ w'.cell? ⟨w.heap.size, 1, none⟩ = some (.slice A l.length c) ∧ w.heap.size < w'.heap.size) (first | exact ⟨x1, x2, x3⟩ | exact box_store (by omega) (by assumption) | exact box_call (by assumption) (by assumption)) (first
        | (go_at_call 109; refine (HS.out _ (below_step hb0 (below_drew0 _))).mono ?_; rintro e2 w2 ⟨s, rfl, ho, hb2⟩; obtain ⟨A2, c2, rfl, _⟩ := ho.form)
        | (go_at_call 62; refine (l02Make_any _ _ _ _ _).mono ?_; rintro e3 w3 ⟨rfl, hb3⟩; have hv := V3.out.keep (below_step (below_step (below_step hb0 (below_drew0 _)) hb2) hb3); have q0 := hv.c0; have q1 := hv.c1; have q2 := hv.fz 0; have q3 := hv.fz 1))
      all_goals
        have hw3 := below_step (below_step (below_step hb0 (below_drew0 _)) hb2) hb3
        have hz1 := (below_step hb0 (below_drew0 _)).size
        have hz2 := V3.out.lt
        obtain ⟨f0, f1, f2, f3⟩ := fin_var (w := w) hv (ho.keep hb3) (by omega) (by omega) (below_step HB.out hw3) (.int .i64 m) (.slice A2 L.length c2)
        have F2 := Lib.hid f2
        have F3 := Lib.hid f3
        clear f2 f3 ho hb0 hb2 hb3 hv hw3
        go_wp2
        exact bodyPost_ret (v := .tuple #[.agg #[.int .i64 m, .slice A2 L.length c2], .int .i64 0]) (by simp [results, Try.results55, go_sem, f0, f1]) rfl ⟨_, rfl, F2.out, F3.out⟩
    · have HA : Hid (scaM m l k = (0, [], 2)) := Lib.hid (by unfold scaM; rw [if_neg (by rw [HCS.out, if_neg hk]; decide), HCS.out, if_neg hk])
      rw [HA.out]
      have hk' : inB k 0 (m - 1) = false := by simpa using hk
      have mm := (serOk_of h0)
      obtain ⟨d, -, s1⟩ := mm
      have m1 := s1.m1
      have m2 := s1.m2
      clear h0 hk s1
      go_enter Try.func55, Try.ntmps55
      go_wp2_with fail
      rw [HW.out]
      refine HC0.out.mono ?_
      rintro e w1 ⟨rfl, hb1⟩
      obtain ⟨x1, x2⟩ := box_in B1.out hb1
      have hv := V3.out.keep hb1
      have q0 := hv.c0
      have q1 := hv.c1
      have q2 := hv.fz 0
      have q3 := hv.fz 1
      obtain ⟨f0, f1, f2, f3⟩ := fin_var (w := w) hv (OwnI.nil _ (w.heap.size + 1 + 1 + 1)) (by omega) (by omega) (below_step HB.out hb1) (.int .i64 0) (.slice none 0 0)
      have F2 := Lib.hid f2
      have F3 := Lib.hid f3
      clear f2 f3 hv
      go_wp2_with (go_at_call 99; refine (l01In_any _ _ _ _).mono ?_; rintro e w' ⟨rfl, rfl⟩)
      exact bodyPost_ret (v := .tuple #[.agg #[.int .i64 0, .slice none 0 0], .int .i64 2]) (by simp [results, Try.results55, go_sem, f0, f1]) rfl ⟨_, rfl, F2.out, F3.out⟩
  · have h0' : isS m l = false := by simpa using h0
    have HA : Hid (scaM m l k = (0, [], 1)) := Lib.hid (by unfold scaM codeSN; rw [if_neg h0]; rfl)
    rw [HA.out]
    have hc := HC.out
    rw [h0'] at hc
    have HC0 := Lib.hid hc
    clear hc HC h0
    go_enter Try.func55, Try.ntmps55
    go_wp2_with fail
    rw [HW.out]
    refine HC0.out.mono ?_
    rintro e w1 ⟨rfl, hb1⟩
    have hv := V3.out.keep hb1
    have q0 := hv.c0
    have q1 := hv.c1
    have q2 := hv.fz 0
    have q3 := hv.fz 1
    obtain ⟨f0, f1, f2, f3⟩ := fin_var (w := w) hv (OwnI.nil _ (w.heap.size + 1 + 1 + 1)) (by omega) (by omega) (below_step HB.out hb1) (.int .i64 0) (.slice none 0 0)
    have F2 := Lib.hid f2
    have F3 := Lib.hid f3
    clear f2 f3 hv
    go_wp2
    exact bodyPost_ret (v := .tuple #[.agg #[.int .i64 0, .slice none 0 0], .int .i64 1]) (by simp [results, Try.results55, go_sem, f0, f1]) rfl ⟨_, rfl, F2.out, F3.out⟩
end Go.Proofs.Ytcnkpfikafaocaa
