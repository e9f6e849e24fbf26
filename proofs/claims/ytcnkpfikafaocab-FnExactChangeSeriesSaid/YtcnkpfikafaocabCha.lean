/- Contracts of ChangeSeries, of the program and of the model. -/
import Derived.Test.YtcnkpfikafaocabSok
namespace Go.Proofs.Ytcnkpfikafaocab
open Go.RowKit Go.WideShapes Go.ChangeShapes Go.ChangeAt

def chaM (m : Int) (l : List Int) (k : Int) : Int × List Int × Int :=
  if isS m l = true then (if isM k = true ∧ m % k = 0 then (k, Ser.cut k (l.length - 1) (Ser.co l), 0) else (0, [], 2)) else (0, [], 1)
theorem chaM_len (m : Int) (l : List Int) (k : Int) : (chaM m l k).2.1.length ≤ 1048576 := by
  unfold chaM
  split
  · rename_i h
    obtain ⟨d, e, s⟩ := serOk_of h
    have := s.d2
    split
    · dsimp only; rw [Ser.cut_length]; omega
    · simp
  · simp

set_option maxHeartbeats 1000000 in
theorem changeC_any (n : Nat) (g : Nat) (m : Int) (A : Option Addr) (c : Nat) (l : List Int) (W : World) (hb : Box W g m A l.length c) (hr : RI W A l) (h1 : n < l.length) :
    Calls Try.prog 43 #[.int .i64 n, .pointer (some ⟨g, 0, none⟩)] W fun e w' => e = .returned (.int .i64 (Ser.co l n)) ∧ Below W.heap.size W w' := by
  obtain ⟨b, off, rfl, hlt, hc⟩ := hr.at n h1
  obtain ⟨x1, x2, _⟩ := hb
  have j1 : (0 : Int) ≤ (n : Int) := by omega
  have j2 : (n : Int) < (l.length : Int) := by omega
  clear hr
  go_enter Try.func43, Try.ntmps43
  go_wp2
  go_ret
  exact ⟨rfl, Below.refl _ _⟩

set_option maxHeartbeats 4000000 in
theorem ChangeSeries_any (m : Int) (A : Option Addr) (c : Nat) (l : List Int) (k : Int) (w : World) (hl : l.length ≤ 1048576) (hr : RI w A l) :
    Calls Try.prog 20 #[.agg #[.int .i64 m, .slice A l.length c], .int .i64 k] w fun e w' => ∃ s, e = .returned (.tuple #[.agg #[.int .i64 (chaM m l k).1, s], .int .i64 (chaM m l k).2.2]) ∧ OwnI w' w.heap.size s (chaM m l k).2.1 ∧ Below w.heap.size w w' := by
  obtain ⟨W, hW, b1, v3, b4, hwb⟩ := pro1 w m A l.length c
  have B1 := Lib.hid b1
  have V3 := Lib.hid v3
  have HB := Lib.hid hwb
  have HW := Lib.hid hW
  have R1 := Lib.hid (hr.below hwb)
  have HC := Lib.hid (codeOfSeries1_any (w.heap.size + 1 + 1) m A c l W (by omega) R1.out b4)
  clear b1 v3 b4 hwb hW hr
  by_cases h0 : isS m l = true
  · obtain ⟨d, e1, s1⟩ := serOk_of h0
    have hc := HC.out
    rw [code1_isS h0] at hc
    have HC0 := Lib.hid hc
    clear hc HC
    by_cases hk : isM k = true
    · obtain ⟨k1, k2⟩ := (isM_iff k).1 hk
      have m1 := s1.m1
      have m2 := s1.m2
      by_cases hd : m % k = 0
      · have HA : Hid (chaM m l k = (k, Ser.cut k d (Ser.co l), 0)) := Lib.hid (by unfold chaM; rw [if_pos h0, if_pos ⟨hk, hd⟩, e1]; rfl)
        rw [HA.out]
        have HS := Lib.hid (fun W0 (h0 : Below W.heap.size W W0) => seriesOf_any k d 43 #[.pointer (some ⟨w.heap.size, 0, none⟩)] (Ser.co l) W0 (by omega) k2 (by have := s1.d2; omega)
          (fun n _ => by have h1 := s1.red n; omega)
          (enters_fn Try.func43 (of_decide_eq_true (by kernel_rfl)) rfl)
          (fun n W1 hn hb => changeC_any n _ m A c l W1 (B1.out.keep (h0.trans (hb.mono h0.size))) (R1.out.below (h0.trans (hb.mono h0.size))) (by omega)))
        obtain ⟨L, hL⟩ : ∃ L, Ser.cut k d (Ser.co l) = L := ⟨_, rfl⟩
        rw [hL] at HS ⊢
        have HE := Lib.hid e1
        have HD := Lib.hid s1.d2
        clear e1 s1 hL h0
        go_enter Try.func20, Try.ntmps20
        go_wp2_with fail
        rw [HW.out]
        refine HC0.out.mono ?_
        rintro e w1 ⟨rfl, hb1⟩
        obtain ⟨x1, x2⟩ := box_in B1.out hb1
        go_wp2_with (go_at_call 41; refine (IsModulus_any _ _).mono ?_; rintro e w' ⟨rfl, rfl⟩)
        refine (degree_nat _ _ _ _ d _ HE.out (by have := HD.out; omega)).mono ?_
        rintro e w2 ⟨rfl, hb2⟩
        go_wp2_with fail
        refine (HS.out _ (below_step hb1 hb2)).mono ?_
        rintro e w3 ⟨s, rfl, ho, hb3⟩
        obtain ⟨A2, c2, rfl, _⟩ := ho.form
        have hv := V3.out.keep (below_step (below_step hb1 hb2) hb3)
        have q0 := hv.c0
        have q1 := hv.c1
        have q2 := hv.fz 0
        have q3 := hv.fz 1
        obtain ⟨f0, f1, f2, f3⟩ := fin_var (w := w) hv ho (by have := V3.out.lt; have := (below_step hb1 hb2).size; omega) (by omega) (below_step HB.out (below_step (below_step hb1 hb2) hb3)) (.int .i64 k) (.slice A2 L.length c2)
        have F2 := Lib.hid f2
        have F3 := Lib.hid f3
        clear f2 f3 hv
        go_wp2
        exact bodyPost_ret (v := .tuple #[.agg #[.int .i64 k, .slice A2 L.length c2], .int .i64 0]) (by simp [results, Try.results20, go_sem, f0, f1]) rfl ⟨_, rfl, F2.out, F3.out⟩
      · have HA : Hid (chaM m l k = (0, [], 2)) := Lib.hid (by unfold chaM; rw [if_pos h0, if_neg (fun h => hd h.2)])
        rw [HA.out]
        obtain ⟨n1, n2⟩ := ne_facts hd
        clear e1 s1 h0
        go_enter Try.func20, Try.ntmps20
        go_wp2_with fail
        rw [HW.out]
        refine HC0.out.mono ?_
        rintro e w1 ⟨rfl, hb1⟩
        obtain ⟨x1, x2⟩ := box_in B1.out hb1
        have hv := V3.out.keep hb1
        have q0 := hv.c0
        have q1 := hv.c1
        have q2 := hv.fz 0
        have q3 := hv.fz 1
        obtain ⟨f0, f1, f2, f3⟩ := fin_var (w := w) hv (OwnI.nil _ (w.heap.size + 1 + 1 + 1)) (by omega) (by omega) (below_step HB.out hb1) (.int .i64 0) (.slice none 0 0)
        have F2 := Lib.hid f2
        have F3 := Lib.hid f3
        clear f2 f3 hv
        go_wp2_with (go_at_call 41; refine (IsModulus_any _ _).mono ?_; rintro e w' ⟨rfl, rfl⟩)
        exact bodyPost_ret (v := .tuple #[.agg #[.int .i64 0, .slice none 0 0], .int .i64 2]) (by simp [results, Try.results20, go_sem, f0, f1]) rfl ⟨_, rfl, F2.out, F3.out⟩
    · have HA : Hid (chaM m l k = (0, [], 2)) := Lib.hid (by unfold chaM; rw [if_pos h0, if_neg (fun h => hk h.1)])
      rw [HA.out]
      have hk' : isM k = false := by simpa using hk
      clear e1 s1 h0 hk
      go_enter Try.func20, Try.ntmps20
      go_wp2_with fail
      rw [HW.out]
      refine HC0.out.mono ?_
      rintro e w1 ⟨rfl, hb1⟩
      obtain ⟨x1, x2⟩ := box_in B1.out hb1
      have hv := V3.out.keep hb1
      have q0 := hv.c0
      have q1 := hv.c1
      have q2 := hv.fz 0
      have q3 := hv.fz 1
      obtain ⟨f0, f1, f2, f3⟩ := fin_var (w := w) hv (OwnI.nil _ (w.heap.size + 1 + 1 + 1)) (by omega) (by omega) (below_step HB.out hb1) (.int .i64 0) (.slice none 0 0)
      have F2 := Lib.hid f2
      have F3 := Lib.hid f3
      clear f2 f3 hv
      go_wp2_with (go_at_call 41; refine (IsModulus_any _ _).mono ?_; rintro e w' ⟨rfl, rfl⟩)
      exact bodyPost_ret (v := .tuple #[.agg #[.int .i64 0, .slice none 0 0], .int .i64 2]) (by simp [results, Try.results20, go_sem, f0, f1]) rfl ⟨_, rfl, F2.out, F3.out⟩
  · have h0' : isS m l = false := by simpa using h0
    have HA : Hid (chaM m l k = (0, [], 1)) := Lib.hid (by unfold chaM; rw [if_neg h0])
    rw [HA.out]
    have hc := HC.out
    rw [code1_no h0'] at hc
    have HC0 := Lib.hid hc
    clear hc HC h0
    go_enter Try.func20, Try.ntmps20
    go_wp2_with fail
    rw [HW.out]
    refine HC0.out.mono ?_
    rintro e w1 ⟨rfl, hb1⟩
    have hv := V3.out.keep hb1
    have q0 := hv.c0
    have q1 := hv.c1
    have q2 := hv.fz 0
    have q3 := hv.fz 1
    obtain ⟨f0, f1, f2, f3⟩ := fin_var (w := w) hv (OwnI.nil _ (w.heap.size + 1 + 1 + 1)) (by omega) (by omega) (below_step HB.out hb1) (.int .i64 0) (.slice none 0 0)
    have F2 := Lib.hid f2
    have F3 := Lib.hid f3
    clear f2 f3 hv
    go_wp2
    exact bodyPost_ret (v := .tuple #[.agg #[.int .i64 0, .slice none 0 0], .int .i64 1]) (by simp [results, Try.results20, go_sem, f0, f1]) rfl ⟨_, rfl, F2.out, F3.out⟩

set_option maxHeartbeats 2000000 in
theorem l02Rest_any (k : Int) (d : Nat) (m : Int) (A : Option Addr) (c : Nat) (l : List Int) (w : World) (k1 : 2 ≤ k) (hs : SerOk m d l) (hr : RI w A l) :
    Calls Try.prog 40 #[.int .i64 k, .slice A l.length c] w fun e w' => ∃ v, e = .returned v ∧ OwnI w' w.heap.size v (Ser.cut k d (Ser.co l)) ∧ Below w.heap.size w w' := by
  have HS := Lib.hid hs
  have HR := Lib.hid hr
  have hd := hs.d2
  have hll : l.length ≤ 11 := by have := hs.len; omega
  have E1 := Lib.hid hs.len
  clear hs hr
  go_enter Try.func40, Try.ntmps40
  go_wp2
  go_loopw [5, 6] (fun r i wr => ∃ j : Nat, j ≤ l.length ∧ i = .int .i64 j ∧ OwnI wr w.heap.size r ((Ser.cut k d (Ser.co l)).take j) ∧ Below w.heap.size w wr) (fun _ i _ => l.length - (intOf i).toNat)
  case atStart => exact ⟨0, Nat.zero_le _, rfl, OwnI.empty _, below_one _ _⟩
  case round =>
    obtain ⟨j, hj, rfl, hown, hbel⟩ := hrel
    have HB := Lib.hid hbel
    have HO := Lib.hid hown
    have hsz := hbel.size
    have hlk := take_cut_len k d (Ser.co l) j
    clear hown hbel
    by_cases hlt : j < l.length
    · obtain ⟨b, off, rfl, hb, hc⟩ := HR.out.at j hlt
      have c1 := (HB.out.cell (p := ⟨b, off + j, none⟩) hb).trans hc
      obtain ⟨r1, r2⟩ := HS.out.red j
      have hm2 := HS.out.m2
      have hst : (Ser.cut k d (Ser.co l)).take (j + 1) = (Ser.cut k d (Ser.co l)).take j ++ [Ser.co l j % k] := Ser.cut_take_succ _ _ _ _ (by have := E1.out; omega)
      obtain ⟨X, hX⟩ : ∃ X, Ser.co l j = X := ⟨_, rfl⟩
      rw [hX] at c1 r1 r2 hst
      have HST := Lib.hid hst
      clear hX hst hc
      go_wp2_with (at_builtin; refine wp_push _ _ _ (by rfl) (by rfl) Try.underlying22 w.heap.size _ _ (by rfl) HO.out (X % k) (by rfl) (by omega) hsz ?_; intro v' w1 ho1 hpb)
      have HP := Lib.hid (HB.out.trans hpb)
      have HQ := Lib.hid ho1
      clear hpb ho1
      go_wp2
      go_roundw
      case rel => exact ⟨j + 1, by omega, by go_num, by rw [HST.out]; exact HQ.out, HP.out⟩
      case measure => simp only [intOf]; omega
    · obtain rfl : j = l.length := by omega
      have ho := HO.out
      rw [List.take_of_length_le (by rw [Ser.cut_length, E1.out]; exact Nat.le_refl _)] at ho
      have HF := Lib.hid ho
      clear ho
      go_wp2
      go_ret
      exact ⟨_, rfl, HF.out, HB.out⟩

set_option maxHeartbeats 4000000 in
theorem sChangeSeries_any (m : Int) (A : Option Addr) (c : Nat) (l : List Int) (k : Int) (w : World) (hl : l.length ≤ 1048576) (hr : RI w A l) :
    Calls Try.prog 19 #[.agg #[.int .i64 m, .slice A l.length c], .int .i64 k] w fun e w' => ∃ s, e = .returned (.tuple #[.agg #[.int .i64 (chaM m l k).1, s], .int .i64 (chaM m l k).2.2]) ∧ OwnI w' w.heap.size s (chaM m l k).2.1 ∧ Below w.heap.size w w' := by
  obtain ⟨W, hW, b1, v3, hwb⟩ := spro1 w m A l.length c
  have B1 := Lib.hid b1
  have V3 := Lib.hid v3
  have HB := Lib.hid hwb
  have HW := Lib.hid hW
  have R1 := Lib.hid (hr.below hwb)
  have HC := Lib.hid (l02Is_any m A c l W (by omega) R1.out)
  clear b1 v3 hwb hW hr
  by_cases h0 : isS m l = true
  · obtain ⟨d, e1, s1⟩ := serOk_of h0
    have hc := HC.out
    rw [h0] at hc
    have HC0 := Lib.hid hc
    clear hc HC
    by_cases hk : isM k = true
    · obtain ⟨k1, k2⟩ := (isM_iff k).1 hk
      have m1 := s1.m1
      have m2 := s1.m2
      by_cases hd : m % k = 0
      · have HA : Hid (chaM m l k = (k, Ser.cut k d (Ser.co l), 0)) := Lib.hid (by unfold chaM; rw [if_pos h0, if_pos ⟨hk, hd⟩, e1]; rfl)
        rw [HA.out]
        have HS := Lib.hid (fun W0 (h0 : Below W.heap.size W W0) => l02Rest_any k d m A c l W0 k1 s1 (R1.out.below h0))
        obtain ⟨L, hL⟩ : ∃ L, Ser.cut k d (Ser.co l) = L := ⟨_, rfl⟩
        rw [hL] at HS ⊢
        clear e1 s1 hL h0
        go_enter Try.func19, Try.ntmps19
        go_wp2_with fail
        rw [HW.out]
        refine HC0.out.mono ?_
        rintro e w1 ⟨rfl, hb1⟩
        obtain ⟨x1, x2⟩ := box_in B1.out hb1
        go_wp2_with (go_at_call 39; refine (l01Modulus_any _ _).mono ?_; rintro e w' ⟨rfl, rfl⟩)
        refine (HS.out _ hb1).mono ?_
        rintro e w2 ⟨s, rfl, ho, hb2⟩
        obtain ⟨A2, c2, rfl, _⟩ := ho.form
        go_wp2_with fail
        refine (l02Make_any _ _ _ _ _).mono ?_
        rintro e w3 ⟨rfl, hb3⟩
        have hv := V3.out.keep (below_step (below_step hb1 hb2) hb3)
        have q0 := hv.c0
        have q1 := hv.c1
        have q2 := hv.fz 0
        have q3 := hv.fz 1
        obtain ⟨f0, f1, f2, f3⟩ := fin_var (w := w) hv (ho.keep hb3) (by have := V3.out.lt; have := (hb1).size; omega) (by omega) (below_step HB.out (below_step (below_step hb1 hb2) hb3)) (.int .i64 k) (.slice A2 L.length c2)
        have F2 := Lib.hid f2
        have F3 := Lib.hid f3
        clear f2 f3 hv
        go_wp2
        exact bodyPost_ret (v := .tuple #[.agg #[.int .i64 k, .slice A2 L.length c2], .int .i64 0]) (by simp [results, Try.results19, go_sem, f0, f1]) rfl ⟨_, rfl, F2.out, F3.out⟩
      · have HA : Hid (chaM m l k = (0, [], 2)) := Lib.hid (by unfold chaM; rw [if_pos h0, if_neg (fun h => hd h.2)])
        rw [HA.out]
        obtain ⟨n1, n2⟩ := ne_facts hd
        clear e1 s1 h0
        go_enter Try.func19, Try.ntmps19
        go_wp2_with fail
        rw [HW.out]
        refine HC0.out.mono ?_
        rintro e w1 ⟨rfl, hb1⟩
        obtain ⟨x1, x2⟩ := box_in B1.out hb1
        have hv := V3.out.keep hb1
        have q0 := hv.c0
        have q1 := hv.c1
        have q2 := hv.fz 0
        have q3 := hv.fz 1
        obtain ⟨f0, f1, f2, f3⟩ := fin_var (w := w) hv (OwnI.nil _ (w.heap.size + 1 + 1 + 1)) (by omega) (by omega) (below_step HB.out hb1) (.int .i64 0) (.slice none 0 0)
        have F2 := Lib.hid f2
        have F3 := Lib.hid f3
        clear f2 f3 hv
        go_wp2_with (go_at_call 39; refine (l01Modulus_any _ _).mono ?_; rintro e w' ⟨rfl, rfl⟩)
        exact bodyPost_ret (v := .tuple #[.agg #[.int .i64 0, .slice none 0 0], .int .i64 2]) (by simp [results, Try.results19, go_sem, f0, f1]) rfl ⟨_, rfl, F2.out, F3.out⟩
    · have HA : Hid (chaM m l k = (0, [], 2)) := Lib.hid (by unfold chaM; rw [if_pos h0, if_neg (fun h => hk h.1)])
      rw [HA.out]
      have hk' : isM k = false := by simpa using hk
      clear e1 s1 h0 hk
      go_enter Try.func19, Try.ntmps19
      go_wp2_with fail
      rw [HW.out]
      refine HC0.out.mono ?_
      rintro e w1 ⟨rfl, hb1⟩
      obtain ⟨x1, x2⟩ := box_in B1.out hb1
      have hv := V3.out.keep hb1
      have q0 := hv.c0
      have q1 := hv.c1
      have q2 := hv.fz 0
      have q3 := hv.fz 1
      obtain ⟨f0, f1, f2, f3⟩ := fin_var (w := w) hv (OwnI.nil _ (w.heap.size + 1 + 1 + 1)) (by omega) (by omega) (below_step HB.out hb1) (.int .i64 0) (.slice none 0 0)
      have F2 := Lib.hid f2
      have F3 := Lib.hid f3
      clear f2 f3 hv
      go_wp2_with (go_at_call 39; refine (l01Modulus_any _ _).mono ?_; rintro e w' ⟨rfl, rfl⟩)
      exact bodyPost_ret (v := .tuple #[.agg #[.int .i64 0, .slice none 0 0], .int .i64 2]) (by simp [results, Try.results19, go_sem, f0, f1]) rfl ⟨_, rfl, F2.out, F3.out⟩
  · have h0' : isS m l = false := by simpa using h0
    have HA : Hid (chaM m l k = (0, [], 1)) := Lib.hid (by unfold chaM; rw [if_neg h0])
    rw [HA.out]
    have hc := HC.out
    rw [h0'] at hc
    have HC0 := Lib.hid hc
    clear hc HC h0
    go_enter Try.func19, Try.ntmps19
    go_wp2_with fail
    rw [HW.out]
    refine HC0.out.mono ?_
    rintro e w1 ⟨rfl, hb1⟩
    have hv := V3.out.keep hb1
    have q0 := hv.c0
    have q1 := hv.c1
    have q2 := hv.fz 0
    have q3 := hv.fz 1
    obtain ⟨f0, f1, f2, f3⟩ := fin_var (w := w) hv (OwnI.nil _ (w.heap.size + 1 + 1 + 1)) (by omega) (by omega) (below_step HB.out hb1) (.int .i64 0) (.slice none 0 0)
    have F2 := Lib.hid f2
    have F3 := Lib.hid f3
    clear f2 f3 hv
    go_wp2
    exact bodyPost_ret (v := .tuple #[.agg #[.int .i64 0, .slice none 0 0], .int .i64 1]) (by simp [results, Try.results19, go_sem, f0, f1]) rfl ⟨_, rfl, F2.out, F3.out⟩
end Go.Proofs.Ytcnkpfikafaocab
