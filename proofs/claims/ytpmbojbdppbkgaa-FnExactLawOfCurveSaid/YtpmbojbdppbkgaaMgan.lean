/- Texts of contracts, joined. -/
import Derived.Test.YtpmbojbdppbkgaaMgam
import Derived.Test.YtpmbojbdppbkgaaMgal
import Derived.Test.YtpmbojbdppbkgaaMgah
import Derived.Lib.QuietBelow
import Derived.BigQuiet
import Derived.Test.YtpmbojbdppbkgaaMgaf
/- Contracts of LogarithmOf and ExponentialOf, of the model. -/
namespace Go.Proofs.Ytpmbojbdppbkgaa
open Go.RowKit Go.WideShapes Go.ChangeShapes Go.ChangeAt

set_option maxHeartbeats 4000000 in
set_option maxRecDepth 100000 in
theorem sLogarithmOf_any (m : Int) (A : Option Addr) (c : Nat) (t : List (List Int)) (w : World) (hz : szT t ≤ 1048576) (hr : RP w A t) :
    Calls Try.prog 41 #[.agg #[.int .i64 m, .slice A t.length c]] w fun e w' => ∃ s, e = .returned (.tuple #[.agg #[.int .i64 (logM m t).1, s], .int .i64 (logM m t).2.2]) ∧ OwnI w' w.heap.size s (logM m t).2.1 ∧ Below w.heap.size w w' := by
  obtain ⟨W, hW, b1, v3, hwb⟩ := spro1S w m A t.length c
  have B1 := Lib.hid b1
  have V3 := Lib.hid v3
  have HB := Lib.hid hwb
  have HW := Lib.hid hW
  have hc := l05Code_any m A c t W hz (hr.below hwb)
  by_cases h0 : isL m t = true ∧ allU m (t.length - 1) = true
  · have HA : Hid (logM m t = (m, logL m t, 0)) := Lib.hid (by unfold logM; rw [if_pos h0.1, if_pos h0.2])
    rw [HA.out]
    rw [show codeLg m t = 0 by unfold codeLg; rw [if_pos h0.1, if_pos h0.2]] at hc
    obtain ⟨-, d, e1, ok, hf⟩ := isL_of h0.1
    have hu : allU m d = true := by have := h0.2; rwa [e1] at this
    have HI := Lib.hid (fun W0 (h : Below W.heap.size W W0) => l05Logarithm_any m d A c t W0 ok hf hu ((hr.below hwb).below h))
    obtain ⟨T, hT⟩ : ∃ T, logL m t = T := ⟨_, rfl⟩
    rw [hT] at HI ⊢
    obtain ⟨L, hL⟩ : ∃ L, t.length = L := ⟨_, rfl⟩
    rw [hL] at hc HI HW B1 ⊢
    have HC0 := Lib.hid hc
    clear b1 v3 hwb hW hr hc h0 ok hf e1 hz hT hL HA hu
    go_enter Try.func41, Try.ntmps41
    go_wp2_with fail
    rw [HW.out]
    refine HC0.out.mono ?_
    rintro e w1 ⟨rfl, hb1⟩
    obtain ⟨x1, x2, x3⟩ := B1.out.keep hb1
    go_wp2
    go_region_held3 (fun w' => w'.cell? ⟨w.heap.size, 0, none⟩ = some (.int .i64 m) ∧ w'.cell? ⟨w.heap.size, 1, none⟩ = some (.slice A L c) ∧ w.heap.size < w'.heap.size) (first | exact ⟨x1, x2, x3⟩ | exact box_store (by omega) (by assumption) | exact box_call (by assumption) (by assumption)) (first
      | (go_at_call 89; with_reducible refine Calls.mono (HI.out _ (below_step hb1 (below_drew0 _))) ?_; rintro e2 w2 ⟨s, rfl, ho, hb2⟩; obtain ⟨A2, c2, rfl, -⟩ := ho.form)
      | (go_at_call 60; refine (l02Make_any _ _ _ _ _).mono ?_; rintro e3 w3 ⟨rfl, hb3⟩; have hv := V3.out.keep (below_step (below_step (below_step hb1 (below_drew0 _)) hb2) hb3); obtain ⟨q0, q1, q2, q3⟩ := hv.tells2))
    all_goals
      have hw3 := below_step (below_step (below_step hb1 (below_drew0 _)) hb2) hb3
      have hz1 := (below_step hb1 (below_drew0 _)).size
      have hz2 := V3.out.lt
      obtain ⟨f0, f1, f2, f3⟩ := fin_serC (w := w) hv (ho.keep hb3) (by omega) (by omega) (below_step HB.out hw3) (.int .i64 m) (.slice A2 T.length c2)
      have F2 := Lib.hid (OwnI.more (b' := w.heap.size) f2 (by omega))
      have F3 := Lib.hid f3
      clear f2 f3 ho hb1 hb2 hb3 hv hw3
      go_wp2
      exact bodyPost_ret (v := .tuple #[.agg #[.int .i64 m, .slice A2 T.length c2], .int .i64 0]) (by simp [results, Try.results41, go_sem, f0, f1]) rfl ⟨_, rfl, F2.out, F3.out⟩
  · have HA : Hid (logM m t = (0, [], codeLg m t)) := Lib.hid (by
      unfold logM codeLg
      by_cases h1 : isL m t = true
      · rw [if_pos h1, if_pos h1, if_neg (fun e => h0 ⟨h1, e⟩), if_neg (fun e => h0 ⟨h1, e⟩)]
      · rw [if_neg h1, if_neg h1])
    rw [HA.out]
    have hn : ¬ codeLg m t = 0 := by
      unfold codeLg
      by_cases h1 : isL m t = true
      · rw [if_pos h1, if_neg (fun e => h0 ⟨h1, e⟩)]; decide
      · rw [if_neg h1]; decide
    obtain ⟨n1, n2⟩ := ne_facts hn
    obtain ⟨C, hC⟩ : ∃ C, codeLg m t = C := ⟨_, rfl⟩
    rw [hC] at hc n1 n2 hn ⊢
    have HC0 := Lib.hid hc
    clear b1 v3 hwb hW hr hc h0 hz hC HA hn
    go_enter Try.func41, Try.ntmps41
    go_wp2_with fail
    rw [HW.out]
    refine HC0.out.mono ?_
    rintro e w1 ⟨rfl, hb1⟩
    have hv := V3.out.keep (hb1)
    obtain ⟨q0, q1, q2, q3⟩ := hv.tells2
    obtain ⟨f0, f1, f2, f3⟩ := fin_serC (w := w) hv (OwnI.nil _ (w.heap.size + 1 + 1)) (by omega) (by omega) (below_step HB.out (hb1)) (.int .i64 0) (.slice none 0 0)
    have F2 := Lib.hid (OwnI.more (b' := w.heap.size) f2 (by omega))
    have F3 := Lib.hid f3
    clear f2 f3 hv
    go_wp2
    exact bodyPost_ret (v := .tuple #[.agg #[.int .i64 0, .slice none 0 0], .int .i64 (C)]) (by simp [results, Try.results41, go_sem, f0, f1]) rfl ⟨_, rfl, F2.out, F3.out⟩
set_option maxHeartbeats 8000000 in
set_option maxRecDepth 100000 in
theorem sExponentialOf_any (m : Int) (A : Option Addr) (c : Nat) (t : List (List Int)) (w : World) (hz : szT t ≤ 1048576) (hr : RP w A t) :
    Calls Try.prog 43 #[.agg #[.int .i64 m, .slice A t.length c]] w fun e w' => ∃ s, e = .returned (.tuple #[.agg #[.int .i64 (expM m t).1, s], .int .i64 (expM m t).2.2]) ∧ OwnI w' w.heap.size s (expM m t).2.1 ∧ Below w.heap.size w w' := by
  obtain ⟨W, hW, b1, v3, hwb⟩ := spro1S w m A t.length c
  have B1 := Lib.hid b1
  have V3 := Lib.hid v3
  have HB := Lib.hid hwb
  have HW := Lib.hid hW
  have hc := l05Code_any m A c t W hz (hr.below hwb)
  by_cases h0 : isL m t = true ∧ allU m (t.length - 1) = true
  · have HA : Hid (expM m t = (m, exqL m t, 0)) := Lib.hid (by unfold expM; rw [if_pos h0.1, if_pos h0.2])
    rw [HA.out]
    rw [show codeLg m t = 0 by unfold codeLg; rw [if_pos h0.1, if_pos h0.2]] at hc
    obtain ⟨-, d, e1, ok, hf⟩ := isL_of h0.1
    have hu : allU m d = true := by have := h0.2; rwa [e1] at this
    have HI := Lib.hid (fun W0 (h : Below W.heap.size W W0) => l05Logarithm_any m d A c t W0 ok hf hu ((hr.below hwb).below h))
    have HRV := Lib.hid (fun W0 A0 c0 (h : RI W0 A0 (logL m t)) => by
      have := l02Reverse_any m d A0 c0 (logL m t) W0 (logL_ok ok) h (logL_zero m t)
      rw [logL_one ok.m1, eg_one ok.m1, show Ser.revC m 1 (Ser.co (logL m t)) (d - 1) = exqL m t by unfold exqL; rw [e1]; rfl] at this
      exact this)
    obtain ⟨T, hT⟩ : ∃ T, logL m t = T := ⟨_, rfl⟩
    obtain ⟨R, hR⟩ : ∃ R, exqL m t = R := ⟨_, rfl⟩
    rw [hT] at HI HRV
    rw [hR] at HRV ⊢
    obtain ⟨L, hL⟩ : ∃ L, t.length = L := ⟨_, rfl⟩
    obtain ⟨D, hD⟩ : ∃ D : Int, D = (d : Int) := ⟨_, rfl⟩
    rw [hL] at hc HI HW B1 ⊢
    rw [← hD] at HRV
    have hLb : L ≤ 11 := by have := ok.d2; omega
    have hLE : IntKind.i64.wrap ((L : Int) - 1) = D := by rw [IntKind.wrap_i64]; omega
    have HC0 := Lib.hid hc
    clear b1 v3 hwb hW hr hc h0 ok hf e1 hz hT hL HA hu hR hD
    go_enter Try.func43, Try.ntmps43
    go_wp2_with fail
    rw [HW.out]
    refine HC0.out.mono ?_
    rintro e w1 ⟨rfl, hb1⟩
    obtain ⟨x1, x2, x3⟩ := B1.out.keep hb1
    go_wp2
    go_region_held3 (fun w' => w'.cell? ⟨w.heap.size, 0, none⟩ = some (.int .i64 m) ∧ w'.cell? ⟨w.heap.size, 1, none⟩ = some (.slice A L c) ∧ w.heap.size < w'.heap.size) (first | exact ⟨x1, x2, x3⟩ | exact box_store (by omega) (by assumption) | exact box_call hb3 (by assumption) | exact box_call hb5 (by assumption) | exact box_call hb2 (by assumption)) (first
      | (go_at_call 89; with_reducible refine Calls.mono (HI.out _ (below_step hb1 (below_drew0 _))) ?_; rintro e2 w2 ⟨s, rfl, ho, hb2⟩; obtain ⟨A2, c2, rfl, -⟩ := ho.form)
      | (go_at_call 92; with_reducible refine Calls.mono (HRV.out _ _ _ ho.ri) ?_; rintro e5 w5 ⟨s5, rfl, ho5, hb5⟩; obtain ⟨A5, c5, rfl, -⟩ := ho5.form)
      | (go_at_call 60; refine (l02Make_any _ _ _ _ _).mono ?_; rintro e3 w3 ⟨rfl, hb3⟩; have hv := V3.out.keep (below_step (below_step (below_step (below_step hb1 (below_drew0 _)) hb2) hb5) hb3); obtain ⟨q0, q1, q2, q3⟩ := hv.tells2))
    all_goals
      have hw3 := below_step (below_step (below_step (below_step hb1 (below_drew0 _)) hb2) hb5) hb3
      have hz1 := (below_step (below_step hb1 (below_drew0 _)) hb2).size
      have hz2 := V3.out.lt
      obtain ⟨f0, f1, f2, f3⟩ := fin_serC (w := w) hv (ho5.keep hb3) (by omega) (by omega) (below_step HB.out hw3) (.int .i64 m) (.slice A5 R.length c5)
      have F2 := Lib.hid (OwnI.more (b' := w.heap.size) f2 (by omega))
      have F3 := Lib.hid f3
      clear f2 f3 ho ho5 hb1 hb2 hb3 hb5 hv hw3
      go_wp2
      exact bodyPost_ret (v := .tuple #[.agg #[.int .i64 m, .slice A5 R.length c5], .int .i64 0]) (by simp [results, Try.results43, go_sem, f0, f1]) rfl ⟨_, rfl, F2.out, F3.out⟩
  · have HA : Hid (expM m t = (0, [], codeLg m t)) := Lib.hid (by
      unfold expM codeLg
      by_cases h1 : isL m t = true
      · rw [if_pos h1, if_pos h1, if_neg (fun e => h0 ⟨h1, e⟩), if_neg (fun e => h0 ⟨h1, e⟩)]
      · rw [if_neg h1, if_neg h1])
    rw [HA.out]
    have hn : ¬ codeLg m t = 0 := by
      unfold codeLg
      by_cases h1 : isL m t = true
      · rw [if_pos h1, if_neg (fun e => h0 ⟨h1, e⟩)]; decide
      · rw [if_neg h1]; decide
    obtain ⟨n1, n2⟩ := ne_facts hn
    obtain ⟨C, hC⟩ : ∃ C, codeLg m t = C := ⟨_, rfl⟩
    rw [hC] at hc n1 n2 hn ⊢
    have HC0 := Lib.hid hc
    clear b1 v3 hwb hW hr hc h0 hz hC HA hn
    go_enter Try.func43, Try.ntmps43
    go_wp2_with fail
    rw [HW.out]
    refine HC0.out.mono ?_
    rintro e w1 ⟨rfl, hb1⟩
    have hv := V3.out.keep (hb1)
    obtain ⟨q0, q1, q2, q3⟩ := hv.tells2
    obtain ⟨f0, f1, f2, f3⟩ := fin_serC (w := w) hv (OwnI.nil _ (w.heap.size + 1 + 1)) (by omega) (by omega) (below_step HB.out (hb1)) (.int .i64 0) (.slice none 0 0)
    have F2 := Lib.hid (OwnI.more (b' := w.heap.size) f2 (by omega))
    have F3 := Lib.hid f3
    clear f2 f3 hv
    go_wp2
    exact bodyPost_ret (v := .tuple #[.agg #[.int .i64 0, .slice none 0 0], .int .i64 (C)]) (by simp [results, Try.results43, go_sem, f0, f1]) rfl ⟨_, rfl, F2.out, F3.out⟩
end Go.Proofs.Ytpmbojbdppbkgaa

/- Contract of the model's code of a law and series. -/
namespace Go.Proofs.Ytpmbojbdppbkgaa
open Go.RowKit Go.WideShapes Go.ChangeShapes Go.ChangeAt

theorem and_mk {p q : Prop} (h : p) (k : q) : p ∧ q := ⟨h, k⟩
set_option maxHeartbeats 16000000 in
set_option maxRecDepth 100000 in
theorem l04Code_any (g : Nat) (m : Int) (A : Option Addr) (c : Nat) (t : List (List Int)) (xs : List (Int × Option Addr × Nat × List Int)) (w : World) (hz : szT t ≤ 1048576) (hr : RP w A t) (hx : SL w g xs) (hn : xs.length ≤ 1000) :
    Calls Try.prog 72 #[.agg #[.int .i64 m, .slice A t.length c], .slice (some ⟨g, 0, none⟩) xs.length xs.length] w fun e w' => e = .returned (.int .i64 (codeLw m t xs)) ∧ Below w.heap.size w w' := by
  obtain ⟨W, hW, b1, hwb⟩ := start1 31 w m A t.length c
  have HX := Lib.hid (hx.keep hwb)
  have B1 := Lib.hid b1
  have HB := Lib.hid hwb
  have HW := Lib.hid hW
  have HIP := Lib.hid (fun W0 (h : Below W.heap.size W W0) => l04Is_any m A c t W0 hz ((hr.below hwb).below h))
  obtain ⟨C, hC⟩ : ∃ C, codeLw m t xs = C := ⟨_, rfl⟩
  have HC := Lib.hid hC
  rw [hC]
  obtain ⟨n, hxn⟩ : ∃ n, xs.length = n := ⟨_, rfl⟩
  have HN := Lib.hid hxn
  rw [hxn] at hn ⊢
  have HLT := Lib.hid (fun k (hk : k < n) => (by
    obtain ⟨⟨m', A', c', l'⟩, hx⟩ : ∃ x, xs[k]? = some x := ⟨_, List.getElem?_eq_getElem (by omega)⟩
    exact ⟨m', A', c', l', hx⟩ : ∃ m' A' c' l', xs[k]? = some (m', A', c', l')))
  have hlb := lenT hz
  unfold codeLw at HC
  obtain ⟨b, hb⟩ : ∃ b, isL m t = b := ⟨_, rfl⟩
  rw [hb] at HIP HC
  obtain ⟨L, hL⟩ : ∃ L, t.length = L := ⟨_, rfl⟩
  rw [hL] at HIP B1 HW HC hlb ⊢
  clear hC hx hwb hW b1 hxn hr hz hb hL
  cases b with
  | false =>
    have HNO : Hid (C = 1) := Lib.hid (by rw [← HC.out, if_neg (by decide)])
    go_enter Try.func72, Try.ntmps72
    go_wp2_with fail
    rw [HW.out]
    refine (HIP.out _ (Below.refl _ _)).mono ?_
    rintro e w1 ⟨rfl, hb1⟩
    go_wp2
    go_ret
    exact ⟨ret_int HNO.out.symm, below_step HB.out hb1⟩
  | true =>
    have HC' : Hid ((if allS xs = true then (if alkS m L xs = true ∧ curS xs = true then (0 : Int) else 2) else 1) = C) := Lib.hid (by have := HC.out; rwa [if_pos rfl] at this)
    clear HC
    go_enter Try.func72, Try.ntmps72
    go_wp2_with fail
    rw [HW.out]
    refine (HIP.out _ (Below.refl _ _)).mono ?_
    rintro e w1 ⟨rfl, hb1⟩
    have HB1 := Lib.hid hb1
    clear hb1
    go_wp2
    go_loopw [5] (fun i wr => ∃ k : Nat, k ≤ n ∧ i = .int .i64 k ∧ allS (xs.take k) = true ∧ Below W.heap.size W wr) (fun i _ => n - (intOf i).toNat)
    case atStart => exact ⟨0, Nat.zero_le _, rfl, rfl, HB1.out⟩
    case round =>
      clear HB1
      obtain ⟨k, hk, rfl, hall, hbel⟩ := hrel
      have HA := Lib.hid hall
      have HBE := Lib.hid hbel
      clear hall
      by_cases hlt : k < n
      · obtain ⟨m', A', c', l', hxk⟩ := HLT.out k hlt
        obtain ⟨x1, x2, x3, x4⟩ := (HX.out.keep hbel).2 k m' A' c' l' hxk
        have HXK := Lib.hid hxk
        have HIS := Lib.hid (fun W0 (h : Below wr.heap.size wr W0) => l02Is_any m' A' c' l' W0 (by omega) (x3.below h))
        obtain ⟨L', hL'⟩ : ∃ L, l'.length = L := ⟨_, rfl⟩
        obtain ⟨b', hb'⟩ : ∃ b, isS m' l' = b := ⟨_, rfl⟩
        have HBB := Lib.hid hb'
        rw [hL', hb'] at HIS
        rw [hL'] at x2
        have j0 : (0 : Int) ≤ (k : Int) := by omega
        have j1 : (k : Int) < (n : Int) := by omega
        clear hbel hxk x3 x4 hL' hb'
        cases b' with
        | true =>
          have HOK := Lib.hid (show allS (xs.take (k + 1)) = true by unfold allS; rw [all_take _ _ _ _ HXK.out]; exact and_t HA.out HBB.out)
          go_wp2_with fail
          refine (HIS.out _ (Below.refl _ _)).mono ?_
          rintro e w2 ⟨rfl, hb2⟩
          have HB2 := Lib.hid (below_step HBE.out hb2)
          clear hb2 x1 x2
          go_wp2
          go_roundw
          case rel => exact ⟨k + 1, by omega, by go_num, HOK.out, HB2.out⟩
          case measure => simp only [intOf]; omega
        | false =>
          have HNO : Hid (C = 1) := Lib.hid (by rw [← HC'.out, if_neg]; unfold allS; rw [all_bad _ _ _ _ HXK.out HBB.out]; decide)
          go_wp2_with fail
          refine (HIS.out _ (Below.refl _ _)).mono ?_
          rintro e w2 ⟨rfl, hb2⟩
          have HB2 := Lib.hid (below_step HBE.out hb2)
          clear hb2 x1 x2
          go_wp2
          go_ret
          exact ⟨ret_int HNO.out.symm, below_step HB.out HB2.out⟩
      · obtain rfl : k = n := by omega
        have HAL : Hid ((if alkS m L xs = true ∧ curS xs = true then (0 : Int) else 2) = C) := Lib.hid (by
          have ha := HA.out
          rw [List.take_of_length_le (by have := HN.out; omega)] at ha
          have := HC'.out
          rwa [if_pos ha] at this)
        clear HA hbel HC'
        go_wp2
        go_loopw [6] (fun i wr => ∃ j : Nat, j ≤ k ∧ i = .int .i64 j ∧ alkS m L (xs.take j) = true ∧ curS (xs.take j) = true ∧ Below W.heap.size W wr) (fun i _ => k - (intOf i).toNat)
        case atStart => exact ⟨0, Nat.zero_le _, rfl, rfl, rfl, HBE.out⟩
        case round =>
          clear HBE
          obtain ⟨j, hj, rfl, hall, hcur, hbel⟩ := hrel
          have HA := Lib.hid hall
          have HU := Lib.hid hcur
          have HBE := Lib.hid hbel
          clear hall hcur
          by_cases hlt : j < k
          · obtain ⟨m', A', c', l', hxk⟩ := HLT.out j hlt
            obtain ⟨x1, x2, x3, x4⟩ := (HX.out.keep hbel).2 j m' A' c' l' hxk
            have HXK := Lib.hid hxk
            have HIS := Lib.hid (fun W0 (h : Below wr.heap.size wr W0) => l02Curve_any m' A' c' l' W0 (by omega) (x3.below h))
            obtain ⟨L', hL'⟩ : ∃ L, l'.length = L := ⟨_, rfl⟩
            obtain ⟨b', hb'⟩ : ∃ b, isC m' l' = b := ⟨_, rfl⟩
            have HBB := Lib.hid hb'
            rw [hL', hb'] at HIS
            rw [hL'] at x2 x4
            have j0 : (0 : Int) ≤ (j : Int) := by omega
            have j1 : (j : Int) < (k : Int) := by omega
            have CQ := Lib.hid (fun (d : Nat) (os : Array Obj) => Calls.regrown_of (HIS.out _ (below_regrown wr d os)))
            have K1 := cell_regrown x1
            have K2 := cell_regrown x2
            obtain ⟨y1, y2, -⟩ := B1.out.keep HBE.out
            have K3 := cell_regrown y1
            have K4 := cell_regrown y2
            have HL2 := Lib.hid hL'
            clear hbel hxk x3 hL' hb' y1 y2
            cases b' with
            | false =>
              have HNO : Hid (C = 2) := Lib.hid (by rw [← HAL.out, if_neg]; rintro ⟨-, h⟩; unfold curS at h; rw [all_bad _ _ _ _ HXK.out HBB.out] at h; exact absurd h (by decide))
              clear x1 x2
              go_wp2
              refine wp_region_quiet_below (by kernel_rfl) (by kernel_rfl) ?_
              repeat (go_big_quiet_step (exact CQ.out _ _))
              refine wpQuiet_nil ?_
              intro _ hw'
              obtain ⟨⟨dq, osq⟩, hw''⟩ := hw'
              subst hw''
              have HB2 := Lib.hid (below_step HBE.out (below_regrown wr dq osq))
              go_wp2
              go_ret
              exact ⟨ret_int HNO.out.symm, below_step HB.out HB2.out⟩
            | true =>
              clear x1 x2
              by_cases hm : m' = m
              · subst hm
                by_cases hl : L' = L
                · subst hl
                  have HOK := Lib.hid (show alkS m' L' (xs.take (j + 1)) = true by unfold alkS; rw [all_take _ _ _ _ HXK.out]; exact and_t HA.out (by simp [HL2.out]))
                  have HCK := Lib.hid (show curS (xs.take (j + 1)) = true by unfold curS; rw [all_take _ _ _ _ HXK.out]; exact and_t HU.out HBB.out)
                  go_wp2
                  refine wp_region_quiet_below (by kernel_rfl) (by kernel_rfl) ?_
                  repeat (go_big_quiet_step (exact CQ.out _ _))
                  refine wpQuiet_nil ?_
                  intro _ hw'
                  obtain ⟨⟨dq, osq⟩, hw''⟩ := hw'
                  subst hw''
                  have HB2 := Lib.hid (below_step HBE.out (below_regrown wr dq osq))
                  go_wp2
                  go_roundw
                  case rel => exact ⟨j + 1, by omega, by go_num, HOK.out, HCK.out, HB2.out⟩
                  case measure => simp only [intOf]; omega
                · have HNO : Hid (C = 2) := Lib.hid (by rw [← HAL.out, if_neg]; rintro ⟨h, -⟩; unfold alkS at h; rw [all_bad _ _ _ _ HXK.out (by simp [HL2.out]; omega)] at h; exact absurd h (by decide))
                  have hl2 : ¬ (L' : Int) = (L : Int) := by omega
                  obtain ⟨n1, n2⟩ : ((L' : Int) == (L : Int)) = false ∧ ((L' : Int) != (L : Int)) = true := ⟨by simpa using hl2, by simpa using hl2⟩
                  go_wp2
                  refine wp_region_quiet_below (by kernel_rfl) (by kernel_rfl) ?_
                  repeat (go_big_quiet_step (exact CQ.out _ _))
                  refine wpQuiet_nil ?_
                  intro _ hw'
                  obtain ⟨⟨dq, osq⟩, hw''⟩ := hw'
                  subst hw''
                  have HB2 := Lib.hid (below_step HBE.out (below_regrown wr dq osq))
                  go_wp2
                  go_ret
                  exact ⟨ret_int HNO.out.symm, below_step HB.out HB2.out⟩
              · have HNO : Hid (C = 2) := Lib.hid (by rw [← HAL.out, if_neg]; rintro ⟨h, -⟩; unfold alkS at h; rw [all_bad _ _ _ _ HXK.out (by simp [hm])] at h; exact absurd h (by decide))
                obtain ⟨n1, n2⟩ : (m' == m) = false ∧ (m' != m) = true := ⟨by simpa using hm, by simpa using hm⟩
                go_wp2
                refine wp_region_quiet_below (by kernel_rfl) (by kernel_rfl) ?_
                repeat (go_big_quiet_step (exact CQ.out _ _))
                refine wpQuiet_nil ?_
                intro _ hw'
                obtain ⟨⟨dq, osq⟩, hw''⟩ := hw'
                subst hw''
                have HB2 := Lib.hid (below_step HBE.out (below_regrown wr dq osq))
                go_wp2
                go_ret
                exact ⟨ret_int HNO.out.symm, below_step HB.out HB2.out⟩
          · obtain rfl : j = k := by omega
            have HYES : Hid (C = 0) := Lib.hid (by
              have ha := HA.out
              have hu := HU.out
              rw [List.take_of_length_le (by have := HN.out; omega)] at ha hu
              rw [← HAL.out, if_pos ⟨ha, hu⟩])
            clear HA HU hbel
            go_wp2
            go_ret
            exact ⟨ret_int HYES.out.symm, below_step HB.out HBE.out⟩
end Go.Proofs.Ytpmbojbdppbkgaa

/- Contracts of SumUnder, of the program and of the model. -/
namespace Go.Proofs.Ytpmbojbdppbkgaa
open Go.RowKit Go.WideShapes Go.ChangeShapes Go.ChangeAt

/-- the codes of a law and one or two curves -/
def codeS1 (m : Int) (t : List (List Int)) (m1 : Int) (l1 : List Int) : Int := codeLw m t [(m1, none, 0, l1)]
def codeS2 (m : Int) (t : List (List Int)) (m1 : Int) (l1 : List Int) (m2 : Int) (l2 : List Int) : Int := codeLw m t [(m1, none, 0, l1), (m2, none, 0, l2)]
theorem codeLw_zero {m : Int} {t : List (List Int)} {xs : List (Int × Option Addr × Nat × List Int)} (h : codeLw m t xs = 0) : isL m t = true ∧ allS xs = true ∧ alkS m t.length xs = true ∧ curS xs = true := by
  unfold codeLw at h
  by_cases h1 : isL m t = true
  · rw [if_pos h1] at h
    by_cases h2 : allS xs = true
    · rw [if_pos h2] at h
      by_cases h3 : alkS m t.length xs = true ∧ curS xs = true
      · exact ⟨h1, h2, h3.1, h3.2⟩
      · rw [if_neg h3] at h; exact absurd h (by decide)
    · rw [if_neg h2] at h; exact absurd h (by decide)
  · rw [if_neg h1] at h; exact absurd h (by decide)
theorem codeS1_ok {m : Int} {t : List (List Int)} {m1 : Int} {l1 : List Int} (h : codeS1 m t m1 l1 = 0) :
    isL m t = true ∧ m1 = m ∧ ∃ d, t.length = d + 1 ∧ l1.length = d + 1 ∧ Pl.Ok m d t ∧ Pl.fau m d (Pl.pc t) = none ∧ SerOk m d l1 ∧ Ser.co l1 0 = 0 := by
  obtain ⟨h0, h1, h2, h3⟩ := codeLw_zero h
  obtain ⟨-, d, e, ok, hf⟩ := isL_of h0
  unfold allS at h1
  unfold alkS at h2
  unfold curS at h3
  simp only [List.all_cons, List.all_nil, Bool.and_true, decide_eq_true_iff] at h1 h2 h3
  obtain ⟨rfl, e1⟩ := h2
  obtain ⟨d1, f1, s1⟩ := serOk_of h1
  obtain rfl : d1 = d := by omega
  exact ⟨h0, rfl, d1, e, f1, ok, hf, s1, (isC_two h3).2⟩
theorem codeS2_ok {m : Int} {t : List (List Int)} {m1 : Int} {l1 : List Int} {m2 : Int} {l2 : List Int} (h : codeS2 m t m1 l1 m2 l2 = 0) :
    isL m t = true ∧ m1 = m ∧ m2 = m ∧ ∃ d, t.length = d + 1 ∧ l1.length = d + 1 ∧ l2.length = d + 1 ∧ Pl.Ok m d t ∧ Pl.fau m d (Pl.pc t) = none ∧ SerOk m d l1 ∧ SerOk m d l2 ∧ Ser.co l1 0 = 0 ∧ Ser.co l2 0 = 0 := by
  obtain ⟨h0, h1, h2, h3⟩ := codeLw_zero h
  obtain ⟨-, d, e, ok, hf⟩ := isL_of h0
  unfold allS at h1
  unfold alkS at h2
  unfold curS at h3
  simp only [List.all_cons, List.all_nil, Bool.and_true, Bool.and_eq_true, decide_eq_true_iff] at h1 h2 h3
  obtain ⟨⟨rfl, e1⟩, rfl, e2⟩ := h2
  obtain ⟨d1, f1, s1⟩ := serOk_of h1.1
  obtain ⟨d2, f2, s2⟩ := serOk_of h1.2
  obtain rfl : d1 = d := by omega
  obtain rfl : d2 = d1 := by omega
  exact ⟨h0, rfl, rfl, d2, e, f1, f2, ok, hf, s1, s2, (isC_two h3.1).2, (isC_two h3.2).2⟩
/-- the model of SumUnder -/
def sumL (m : Int) (t : List (List Int)) (m1 : Int) (l1 : List Int) (m2 : Int) (l2 : List Int) : Int × List Int × Int :=
  if codeS2 m t m1 l1 m2 l2 = 0 then (m, Pl.putL m (t.length - 1) (Pl.pc t) l1 l2, 0) else (0, [], codeS2 m t m1 l1 m2 l2)
theorem sumL_len (m : Int) (t : List (List Int)) (m1 : Int) (l1 : List Int) (m2 : Int) (l2 : List Int) : (sumL m t m1 l1 m2 l2).2.1.length ≤ 1048576 := by
  unfold sumL
  split
  · rename_i h
    obtain ⟨_, _, _, d, e, _, _, ok, _⟩ := codeS2_ok h
    have := ok.d2
    dsimp only
    rw [Pl.putL_length]; omega
  · simp
set_option maxHeartbeats 16000000 in
set_option maxRecDepth 100000 in
theorem SumUnder_any (m : Int) (A : Option Addr) (c : Nat) (t : List (List Int)) (m1 : Int) (A1 : Option Addr) (c1 : Nat) (l1 : List Int) (m2 : Int) (A2 : Option Addr) (c2 : Nat) (l2 : List Int) (w : World) (hz : szT t ≤ 1048576) (hl1 : l1.length ≤ 1048576) (hl2 : l2.length ≤ 1048576) (hr : RP w A t) (hr1 : RI w A1 l1) (hr2 : RI w A2 l2) :
    Calls Try.prog 30 #[.agg #[.int .i64 m, .slice A t.length c], .agg #[.int .i64 m1, .slice A1 l1.length c1], .agg #[.int .i64 m2, .slice A2 l2.length c2]] w fun e w' => ∃ s, e = .returned (.tuple #[.agg #[.int .i64 (sumL m t m1 l1 m2 l2).1, s], .int .i64 (sumL m t m1 l1 m2 l2).2.2]) ∧ OwnI w' w.heap.size s (sumL m t m1 l1 m2 l2).2.1 ∧ Below w.heap.size w w' := by
  obtain ⟨W, hW, b1, b2, b3, v4, b5, hwb⟩ := proS 28 w m A t.length c m1 A1 l1.length c1 m2 A2 l2.length c2
  have hc : Calls Try.prog 75 #[.agg #[.int .i64 m, .slice A t.length c], .slice (some ⟨w.heap.size + 1 + 1 + 1 + 1, 0, none⟩) 2 2] W fun e w' => e = .returned (.int .i64 (codeS2 m t m1 l1 m2 l2)) ∧ Below W.heap.size W w' :=
    codeLw_any (w.heap.size + 1 + 1 + 1 + 1) m A c t [(m1, A1, c1, l1), (m2, A2, c2, l2)] W hz (hr.below hwb) (SL.two b5 (hr1.below hwb) (hr2.below hwb) hl1 hl2) (by simp)
  have B1 := Lib.hid b1
  have B2 := Lib.hid b2
  have B3 := Lib.hid b3
  have V4 := Lib.hid v4
  have HB := Lib.hid hwb
  have HW := Lib.hid hW
  have hsz4 : w.heap.size + 1 + 1 + 1 < W.heap.size := v4.lt
  by_cases h0 : codeS2 m t m1 l1 m2 l2 = 0
  · obtain ⟨-, rfl, rfl, d, e1, f1, f2, ok, -, s1, s2, z1, z2⟩ := codeS2_ok h0
    rw [h0] at hc
    have HC0 := Lib.hid hc
    have HA : Hid (sumL m2 t m2 l1 m2 l2 = (m2, Pl.putL m2 d (Pl.pc t) l1 l2, 0)) := Lib.hid (by unfold sumL; rw [if_pos h0, e1]; rfl)
    rw [HA.out]
    have HG := Lib.hid (fun W0 => lawOf_nat m2 A t.length c d W0 e1 (by have := ok.d2; omega))
    have HP := Lib.hid (fun W0 (h : Below W.heap.size W W0) => sum_any m2 d A c t A1 c1 l1 A2 c2 l2 W0 ok s1 s2 z1 z2 ((hr.below hwb).below h) ((hr1.below hwb).below h) ((hr2.below hwb).below h))
    obtain ⟨R, hR⟩ : ∃ R, Pl.putL m2 d (Pl.pc t) l1 l2 = R := ⟨_, rfl⟩
    rw [hR] at HP ⊢
    obtain ⟨Lt, hLt⟩ : ∃ L, t.length = L := ⟨_, rfl⟩
    obtain ⟨n1, hn1⟩ : ∃ L, l1.length = L := ⟨_, rfl⟩
    obtain ⟨n2, hn2⟩ : ∃ L, l2.length = L := ⟨_, rfl⟩
    rw [hLt] at HC0 HG HP HW B1 ⊢
    rw [hn1] at HP HW B2 ⊢
    rw [hn2] at HP HW B3 ⊢
    clear b1 b2 b3 v4 b5 hwb hW hr hr1 hr2 hc h0 ok s1 s2 z1 z2 e1 f1 f2 hz hl1 hl2 hR hLt hn1 hn2
    go_enter Try.func30, Try.ntmps30
    go_wp2_with fail
    rw [HW.out]
    refine HC0.out.mono ?_
    rintro e w1 ⟨rfl, hb1⟩
    have hx0 := kb3_call hb1 (⟨B1.out, B2.out, B3.out⟩ : Box W _ _ _ _ _ ∧ Box W _ _ _ _ _ ∧ Box W _ _ _ _ _)
    obtain ⟨⟨x1, x2, -⟩, ⟨y1, y2, -⟩, ⟨y3, y4, -⟩⟩ := hx0
    have X0 := Lib.hid (kb3_call (hb1.trans ((below_drew0 w1).mono hb1.size)) (⟨B1.out, B2.out, B3.out⟩ : Box W _ _ _ _ _ ∧ Box W _ _ _ _ _ ∧ Box W _ _ _ _ _))
    go_wp2
    go_region_held3 (fun w' => (w'.cell? ⟨w.heap.size, 0, none⟩ = some (.int .i64 m2) ∧ w'.cell? ⟨w.heap.size, 1, none⟩ = some (.slice A Lt c) ∧ w.heap.size < w'.heap.size) ∧ (w'.cell? ⟨w.heap.size + 1, 0, none⟩ = some (.int .i64 m2) ∧ w'.cell? ⟨w.heap.size + 1, 1, none⟩ = some (.slice A1 n1 c1) ∧ w.heap.size + 1 < w'.heap.size) ∧ (w'.cell? ⟨w.heap.size + 1 + 1, 0, none⟩ = some (.int .i64 m2) ∧ w'.cell? ⟨w.heap.size + 1 + 1, 1, none⟩ = some (.slice A2 n2 c2) ∧ w.heap.size + 1 + 1 < w'.heap.size)) (first | exact X0.out | exact kb3_call hb3 (by assumption) | exact kb3_call hb2 (by assumption) | exact kb3_store (by omega) (by omega) (by omega) (by assumption)) (first
      | (go_at_call 64; with_reducible refine Calls.mono (HG.out _) ?_; rintro e w2 ⟨rfl, hb2⟩)
      | (go_at_call 76; with_reducible refine Calls.mono (HP.out _ (below_step (below_step hb1 (below_drew0 _)) hb2)) ?_; rintro e w3 ⟨s4, rfl, ho4, hb3⟩; obtain ⟨A4, c4, rfl, -⟩ := ho4.form; have hv := V4.out.keep (below_step (below_step (below_step hb1 (below_drew0 _)) hb2) hb3); obtain ⟨q0, q1, q2, q3⟩ := hv.tells2))
    all_goals
      have hw3 := below_step (below_step (below_step hb1 (below_drew0 _)) hb2) hb3
      have hz1 := (below_step (below_step hb1 (below_drew0 _)) hb2).size
      obtain ⟨f0, f1, f2, f3⟩ := fin_serC (w := w) hv ho4 (by omega) (by omega) (below_step HB.out hw3) (.int .i64 m2) (.slice A4 R.length c4)
      have F2 := Lib.hid (OwnI.more (b' := w.heap.size) f2 (by omega))
      have F3 := Lib.hid f3
      clear f2 f3 hv hw3 ho4 hb2 hb3 hb1
      go_wp2
      exact bodyPost_ret (v := .tuple #[.agg #[.int .i64 m2, .slice A4 R.length c4], .int .i64 0]) (by simp [results, Try.results30, go_sem, f0, f1]) rfl ⟨_, rfl, F2.out, F3.out⟩
  · have HA : Hid (sumL m t m1 l1 m2 l2 = (0, [], codeS2 m t m1 l1 m2 l2)) := Lib.hid (by unfold sumL; rw [if_neg h0])
    rw [HA.out]
    obtain ⟨n1, n2⟩ := ne_facts h0
    obtain ⟨C, hC⟩ : ∃ C, codeS2 m t m1 l1 m2 l2 = C := ⟨_, rfl⟩
    rw [hC] at n1 n2 h0 hc ⊢
    have HC0 := Lib.hid hc
    clear b1 b2 b3 v4 b5 hwb hW hr hr1 hr2 hz hl1 hl2 hc hC
    go_enter Try.func30, Try.ntmps30
    go_wp2_with fail
    rw [HW.out]
    refine HC0.out.mono ?_
    rintro e w1 ⟨rfl, hb1⟩
    have hv := V4.out.keep (hb1)
    obtain ⟨q0, q1, q2, q3⟩ := hv.tells2
    obtain ⟨f0, f1, f2, f3⟩ := fin_serC (w := w) hv (OwnI.nil _ (w.heap.size + 1 + 1 + 1 + 1)) (by omega) (by omega) (below_step HB.out (hb1)) (.int .i64 0) (.slice none 0 0)
    have F2 := Lib.hid (OwnI.more (b' := w.heap.size) f2 (by omega))
    have F3 := Lib.hid f3
    clear f2 f3 hv
    go_wp2
    exact bodyPost_ret (v := .tuple #[.agg #[.int .i64 0, .slice none 0 0], .int .i64 (C)]) (by simp [results, Try.results30, go_sem, f0, f1]) rfl ⟨_, rfl, F2.out, F3.out⟩
set_option maxHeartbeats 16000000 in
set_option maxRecDepth 100000 in
theorem sSumUnder_any (m : Int) (A : Option Addr) (c : Nat) (t : List (List Int)) (m1 : Int) (A1 : Option Addr) (c1 : Nat) (l1 : List Int) (m2 : Int) (A2 : Option Addr) (c2 : Nat) (l2 : List Int) (w : World) (hz : szT t ≤ 1048576) (hl1 : l1.length ≤ 1048576) (hl2 : l2.length ≤ 1048576) (hr : RP w A t) (hr1 : RI w A1 l1) (hr2 : RI w A2 l2) :
    Calls Try.prog 28 #[.agg #[.int .i64 m, .slice A t.length c], .agg #[.int .i64 m1, .slice A1 l1.length c1], .agg #[.int .i64 m2, .slice A2 l2.length c2]] w fun e w' => ∃ s, e = .returned (.tuple #[.agg #[.int .i64 (sumL m t m1 l1 m2 l2).1, s], .int .i64 (sumL m t m1 l1 m2 l2).2.2]) ∧ OwnI w' w.heap.size s (sumL m t m1 l1 m2 l2).2.1 ∧ Below w.heap.size w w' := by
  obtain ⟨W, hW, b1, b2, b3, v4, b5, hwb⟩ := proS 28 w m A t.length c m1 A1 l1.length c1 m2 A2 l2.length c2
  have hc : Calls Try.prog 72 #[.agg #[.int .i64 m, .slice A t.length c], .slice (some ⟨w.heap.size + 1 + 1 + 1 + 1, 0, none⟩) 2 2] W fun e w' => e = .returned (.int .i64 (codeS2 m t m1 l1 m2 l2)) ∧ Below W.heap.size W w' :=
    l04Code_any (w.heap.size + 1 + 1 + 1 + 1) m A c t [(m1, A1, c1, l1), (m2, A2, c2, l2)] W hz (hr.below hwb) (SL.two b5 (hr1.below hwb) (hr2.below hwb) hl1 hl2) (by simp)
  have B1 := Lib.hid b1
  have B2 := Lib.hid b2
  have B3 := Lib.hid b3
  have V4 := Lib.hid v4
  have HB := Lib.hid hwb
  have HW := Lib.hid hW
  have hsz4 : w.heap.size + 1 + 1 + 1 < W.heap.size := v4.lt
  by_cases h0 : codeS2 m t m1 l1 m2 l2 = 0
  · obtain ⟨-, rfl, rfl, d, e1, f1, f2, ok, -, s1, s2, z1, z2⟩ := codeS2_ok h0
    rw [h0] at hc
    have HC0 := Lib.hid hc
    have HA : Hid (sumL m2 t m2 l1 m2 l2 = (m2, Pl.putL m2 d (Pl.pc t) l1 l2, 0)) := Lib.hid (by unfold sumL; rw [if_pos h0, e1]; rfl)
    rw [HA.out]
    have HP := Lib.hid (fun W0 (h : Below W.heap.size W W0) => l03Put_any m2 d A c t A1 c1 l1 A2 c2 l2 W0 ok s1 s2 ((hr.below hwb).below h) ((hr1.below hwb).below h) ((hr2.below hwb).below h))
    obtain ⟨R, hR⟩ : ∃ R, Pl.putL m2 d (Pl.pc t) l1 l2 = R := ⟨_, rfl⟩
    rw [hR] at HP ⊢
    have hT := hR
    obtain ⟨Lt, hLt⟩ : ∃ L, t.length = L := ⟨_, rfl⟩
    obtain ⟨n1, hn1⟩ : ∃ L, l1.length = L := ⟨_, rfl⟩
    obtain ⟨n2, hn2⟩ : ∃ L, l2.length = L := ⟨_, rfl⟩
    rw [hLt] at HC0 HP HW B1 ⊢
    rw [hn1] at HP HW B2 ⊢
    rw [hn2] at HP HW B3 ⊢
    clear b1 b2 b3 v4 b5 hwb hW hr hr1 hr2 hc h0 ok s1 s2 z1 z2 e1 f1 f2 hz hl1 hl2 hT hR hLt hn1 hn2
    go_enter Try.func28, Try.ntmps28
    go_wp2_with fail
    rw [HW.out]
    refine HC0.out.mono ?_
    rintro e w1 ⟨rfl, hb1⟩
    have hx0 := kb3_call hb1 (⟨B1.out, B2.out, B3.out⟩ : Box W _ _ _ _ _ ∧ Box W _ _ _ _ _ ∧ Box W _ _ _ _ _)
    obtain ⟨⟨x1, x2, -⟩, ⟨y1, y2, -⟩, ⟨y3, y4, -⟩⟩ := hx0
    have X0 := Lib.hid (kb3_call (hb1.trans ((below_drew0 w1).mono hb1.size)) (⟨B1.out, B2.out, B3.out⟩ : Box W _ _ _ _ _ ∧ Box W _ _ _ _ _ ∧ Box W _ _ _ _ _))
    go_wp2
    go_region_held3 (fun w' => (w'.cell? ⟨w.heap.size, 0, none⟩ = some (.int .i64 m2) ∧ w'.cell? ⟨w.heap.size, 1, none⟩ = some (.slice A Lt c) ∧ w.heap.size < w'.heap.size) ∧ (w'.cell? ⟨w.heap.size + 1, 0, none⟩ = some (.int .i64 m2) ∧ w'.cell? ⟨w.heap.size + 1, 1, none⟩ = some (.slice A1 n1 c1) ∧ w.heap.size + 1 < w'.heap.size) ∧ (w'.cell? ⟨w.heap.size + 1 + 1, 0, none⟩ = some (.int .i64 m2) ∧ w'.cell? ⟨w.heap.size + 1 + 1, 1, none⟩ = some (.slice A2 n2 c2) ∧ w.heap.size + 1 + 1 < w'.heap.size)) (first | exact X0.out | exact kb3_call hb4 (by assumption) | exact kb3_call hb3 (by assumption) | exact kb3_store (by omega) (by omega) (by omega) (by assumption)) (first
      | (go_at_call 73; with_reducible refine Calls.mono (HP.out _ (below_step hb1 (below_drew0 _))) ?_; rintro e w3 ⟨s3, rfl, ho4, hb3⟩; obtain ⟨A4, c4, rfl, -⟩ := ho4.form)
      | (go_at_call 60; with_reducible refine Calls.mono (l02Make_any _ _ _ _ _) ?_; rintro e w4 ⟨rfl, hb4⟩; have hv := V4.out.keep (below_step (below_step (below_step hb1 (below_drew0 _)) hb3) hb4); obtain ⟨q0, q1, q2, q3⟩ := hv.tells2))
    all_goals
      have hw3 := below_step (below_step (below_step hb1 (below_drew0 _)) hb3) hb4
      have hz1 := (below_step hb1 (below_drew0 _)).size
      obtain ⟨f0, f1, f2, f3⟩ := fin_serC (w := w) hv (ho4.keep hb4) (by omega) (by omega) (below_step HB.out hw3) (.int .i64 m2) (.slice A4 R.length c4)
      have F2 := Lib.hid (OwnI.more (b' := w.heap.size) f2 (by omega))
      have F3 := Lib.hid f3
      clear f2 f3 hv hw3 ho4 hb3 hb4 hb1
      go_wp2
      exact bodyPost_ret (v := .tuple #[.agg #[.int .i64 m2, .slice A4 R.length c4], .int .i64 0]) (by simp [results, Try.results28, go_sem, f0, f1]) rfl ⟨_, rfl, F2.out, F3.out⟩
  · have HA : Hid (sumL m t m1 l1 m2 l2 = (0, [], codeS2 m t m1 l1 m2 l2)) := Lib.hid (by unfold sumL; rw [if_neg h0])
    rw [HA.out]
    obtain ⟨n1, n2⟩ := ne_facts h0
    obtain ⟨C, hC⟩ : ∃ C, codeS2 m t m1 l1 m2 l2 = C := ⟨_, rfl⟩
    rw [hC] at n1 n2 h0 hc ⊢
    have HC0 := Lib.hid hc
    clear b1 b2 b3 v4 b5 hwb hW hr hr1 hr2 hz hl1 hl2 hc hC
    go_enter Try.func28, Try.ntmps28
    go_wp2_with fail
    rw [HW.out]
    refine HC0.out.mono ?_
    rintro e w1 ⟨rfl, hb1⟩
    have hv := V4.out.keep (hb1)
    obtain ⟨q0, q1, q2, q3⟩ := hv.tells2
    obtain ⟨f0, f1, f2, f3⟩ := fin_serC (w := w) hv (OwnI.nil _ (w.heap.size + 1 + 1 + 1 + 1)) (by omega) (by omega) (below_step HB.out (hb1)) (.int .i64 0) (.slice none 0 0)
    have F2 := Lib.hid (OwnI.more (b' := w.heap.size) f2 (by omega))
    have F3 := Lib.hid f3
    clear f2 f3 hv
    go_wp2
    exact bodyPost_ret (v := .tuple #[.agg #[.int .i64 0, .slice none 0 0], .int .i64 (C)]) (by simp [results, Try.results28, go_sem, f0, f1]) rfl ⟨_, rfl, F2.out, F3.out⟩
end Go.Proofs.Ytpmbojbdppbkgaa

