/- Contracts of IntegrateSeries, of the model. -/
import Derived.Test.YtcnkpfikafaocaaIns
import Derived.Test.YtcnkpfikafaocaaSpa
namespace Go.Proofs.Ytcnkpfikafaocaa
open Go.RowKit Go.WideShapes Go.ChangeShapes Go.ChangeAt

theorem l01Unit_i (m : Int) (k : Nat) (w : World) (m1 : 2 ≤ m) (m2 : m ≤ 10000) (hk : k ≤ 1000) :
    Calls Try.prog 77 #[.int .i64 m, .int .i64 k] w fun e w' => e = .returned (.bool (gcdI k m == 1)) ∧ w = w' := by
  go_enter Try.func77, Try.ntmps77
  go_wp2_with (go_at_call 121; refine (l01Gcd_any _ _ _ (by omega) (by omega) (by omega) (by omega)).mono ?_; rintro e w' ⟨rfl, rfl⟩)
  go_ret
  exact ⟨rfl, rfl⟩

set_option maxHeartbeats 2000000 in
theorem l02Integers_any (m : Int) (n : Nat) (w : World) (m1 : 2 ≤ m) (m2 : m ≤ 10000) (hn : n ≤ 900) :
    Calls Try.prog 92 #[.int .i64 m, .int .i64 n] w fun e w' => e = .returned (.bool (allU m n)) ∧ w = w' := by
  go_enter Try.func92, Try.ntmps92
  go_wp2
  go_loop [5] (fun s5 => ∃ N k : Nat, N = k + 1 ∧ k ≤ n ∧ s5 = .int .i64 N ∧ allU m k = true) (fun s5 => n + 2 - (intOf s5).toNat)
  case atStart => exact ⟨1, 0, rfl, Nat.zero_le _, rfl, rfl⟩
  case round =>
    obtain ⟨N, k, hN, hk, rfl, hall⟩ := hrel
    have HALL := Lib.hid hall
    clear hall
    by_cases hlt : N ≤ n
    · have hlt2 : (N : Int) ≤ (n : Int) := by omega
      have hNk : (N : Int) = (k : Int) + 1 := by omega
      have hu := fun W0 => l01Unit_i m N W0 m1 m2 (by omega)
      rw [hNk] at hu
      by_cases hg : gcdI ((k : Int) + 1) m = 1
      · rw [show (gcdI ((k : Int) + 1) m == 1) = true by rw [hg]; rfl, ← hNk] at hu
        have HU := Lib.hid hu
        have HA2 := Lib.hid (show allU m N = true by rw [hN, allU_succ, HALL.out, hg]; rfl)
        clear hu hg hN hNk
        go_wp2_with (go_at_call 77; refine (HU.out _).mono ?_; rintro e w' ⟨rfl, rfl⟩)
        go_round
        case rel => exact ⟨N + 1, N, rfl, hlt, by first | rfl | go_num, HA2.out⟩
        case measure => simp only [intOf]; omega
      · rw [show (gcdI ((k : Int) + 1) m == 1) = false by simpa using hg, ← hNk] at hu
        have HU := Lib.hid hu
        have HNO := Lib.hid (allU_not (m := m) (n := n) (k := k) (by omega) hg)
        clear hu hg hN hNk
        go_wp2_with (go_at_call 77; refine (HU.out _).mono ?_; rintro e w' ⟨rfl, rfl⟩)
        go_ret
        exact ⟨ret_bool HNO.out.symm, rfl⟩
    · have hlt2 : ¬ (N : Int) ≤ (n : Int) := by omega
      obtain rfl : k = n := by omega
      clear hN hlt
      go_wp2
      go_ret
      exact ⟨ret_bool HALL.out.symm, rfl⟩

set_option maxHeartbeats 4000000 in
set_option maxRecDepth 100000 in
theorem l02Integrate_any (m : Int) (d : Nat) (A : Option Addr) (c : Nat) (l : List Int) (w : World) (hs : SerOk m d l) (hr : RI w A l) (hall : allU m l.length = true) :
    Calls Try.prog 93 #[.int .i64 m, .slice A l.length c] w fun e w' => ∃ v, e = .returned v ∧ OwnI w' w.heap.size v (insL m l) ∧ Below w.heap.size w w' := by
  have HS := Lib.hid hs
  have HR := Lib.hid hr
  have m1 := hs.m1
  have m2 := hs.m2
  have hd := hs.d2
  have hm0 : ¬ m = 0 := by omega
  have hlm := allU_lt hall m1
  have hll : l.length ≤ 11 := by have := hs.len; omega
  have h1 : (insL m l).take 1 = [0] := by
    have := Ser.cut_take_succ m l.length (insF m l) 0 (by omega)
    unfold insL
    rw [this]
    simp [insF]
  have HO1 := Lib.hid (show OwnI (w.alloc (.cells #[.int .i64 0] 2)) w.heap.size (.slice (some ⟨w.heap.size, 0, none⟩) 1 1) ((insL m l).take 1) by rw [h1]; exact OwnI.one w 0)
  clear hs hr hall h1
  go_enter Try.func93, Try.ntmps93
  go_wp2
  go_loopw [5, 6] (fun r i wr => ∃ k : Nat, k ≤ l.length ∧ i = .int .i64 k ∧ OwnI wr w.heap.size r ((insL m l).take (k + 1)) ∧ Below w.heap.size w wr) (fun _ i _ => l.length - (intOf i).toNat)
  case atStart => exact ⟨0, Nat.zero_le _, rfl, HO1.out, below_one _ _⟩
  case round =>
    obtain ⟨k, hk, rfl, hown, hbel⟩ := hrel
    have HB := Lib.hid hbel
    have HO := Lib.hid hown
    have hsz := hbel.size
    clear hown hbel HO1
    by_cases hlt : k < l.length
    · obtain ⟨b, off, rfl, hb, hc⟩ := HR.out.at k hlt
      have c1 := (HB.out.cell (p := ⟨b, off + k, none⟩) hb).trans hc
      obtain ⟨r1, r2⟩ := HS.out.red k
      have hst : (insL m l).take (k + 1 + 1) = (insL m l).take (k + 1) ++ [Ser.co l k * inv1 m (k + 1) % m] := by
        have := Ser.cut_take_succ m l.length (insF m l) (k + 1) (by omega)
        unfold insL
        rw [this]
        congr 2
      have hi : inv1 m (k + 1) = (egI m ((k : Int) + 1)).2 := by
        unfold inv1
        rw [show ((k + 1 : Nat) : Int) = (k : Int) + 1 by omega, Int.emod_eq_of_lt (by omega) (by omega)]
      obtain ⟨b2, b3⟩ := inv1_bd m1 (k + 1)
      rw [hi] at hst b2 b3
      obtain ⟨X, hX⟩ : ∃ X, Ser.co l k = X := ⟨_, rfl⟩
      rw [hX] at c1 r1 r2 hst hc
      obtain ⟨Y, hY⟩ : ∃ Y, (egI m ((k : Int) + 1)).2 = Y := ⟨_, rfl⟩
      have HI := Lib.hid (fun W0 => by have := l01Inv_any m ((k : Int) + 1) W0 (by omega) (by omega) m2; rw [hY] at this; exact this)
      rw [hY] at hst b2 b3
      have p1 := Int.mul_nonneg r1 b2
      have p2 := (mul_bd (x := X) (y := Y) r1 (by omega) (by omega) (by omega)).2
      have w1 : IntKind.i64.wrap (X * Y) = X * Y := by rw [IntKind.wrap_i64]; omega
      have w2 : IntKind.i64.wrap ((k : Int) + 1) = (k : Int) + 1 := by rw [IntKind.wrap_i64]; omega
      have j0 : (0 : Int) ≤ (k : Int) := by omega
      have j1 : (k : Int) < (l.length : Int) := by omega
      have HQ := Lib.hid (show (X * Y).tmod m = X * Y % m from Int.tmod_eq_emod_of_nonneg p1)
      have HLK := Lib.hid (take_cut_len m l.length (insF m l) (k + 1))
      have HST := Lib.hid hst
      have C1 := Lib.hid hc
      clear hX hY hst hc hi
      go_wp2
      go_region_held3 (fun w' => w'.cell? ⟨b, off + k, none⟩ = some (.int .i64 X) ∧ ¬ m = 0) (first | exact ⟨c1, hm0⟩ | exact (by assumption) | exact ⟨((((HB.out.alloc hsz _).drew).trans hpb).cell hb).trans C1.out, hm0⟩ | go_keep) (first
        | (go_at_call 122; refine (HI.out _).mono ?_; rintro e w' ⟨rfl, rfl⟩)
        | (refine step_push _ _ _ (by rfl) (by rfl) Try.underlying24 w.heap.size _ _ (by rfl) ((HO.out.alloc _).drew) wr.heap.size (X * Y % m) (by rfl) (by simp; exact HQ.out) (by have := HLK.out; unfold insL; omega) (by simp; omega) ?_; intro v' w1 ho1 hpb))
      all_goals
        have hb1 := (((HB.out.alloc hsz _).drew).trans hpb)
        have HB1 := Lib.hid hb1
        have HO2 := Lib.hid ho1
        clear hb1 ho1 hpb
        go_wp2
        go_roundw
        case rel => exact ⟨k + 1, by omega, by go_num, by rw [HST.out]; exact HO2.out, HB1.out⟩
        case measure => simp only [intOf]; omega
    · obtain rfl : k = l.length := by omega
      have ho := HO.out
      rw [List.take_of_length_le (by unfold insL; rw [Ser.cut_length]; exact Nat.le_refl _)] at ho
      have HF := Lib.hid ho
      clear ho
      go_wp2
      go_ret
      exact ⟨_, rfl, HF.out, HB.out⟩

set_option maxHeartbeats 8000000 in
set_option maxRecDepth 100000 in
theorem sIntegrateSeries_any (m : Int) (A : Option Addr) (c : Nat) (l : List Int) (w : World) (hl : l.length ≤ 1048576) (hr : RI w A l) :
    Calls Try.prog 41 #[.agg #[.int .i64 m, .slice A l.length c]] w fun e w' => ∃ s, e = .returned (.tuple #[.agg #[.int .i64 (insM m l).1, s], .int .i64 (insM m l).2.2]) ∧ OwnI w' w.heap.size s (insM m l).2.1 ∧ Below w.heap.size w w' := by
  obtain ⟨W, hW, b1, v3, hwb⟩ := spro1 w m A l.length c
  have B1 := Lib.hid b1
  have V3 := Lib.hid v3
  have HB := Lib.hid hwb
  have HW := Lib.hid hW
  have R1 := Lib.hid (hr.below hwb)
  have HC := Lib.hid (l02Is_any m A c l W (by omega) R1.out)
  clear b1 v3 hwb hW hr
  by_cases h0 : isS m l = true
  · obtain ⟨d, e1, s1⟩ := serOk_of h0
    have hc := HC.out
    rw [h0] at hc
    have HC0 := Lib.hid hc
    have m1 := s1.m1
    have m2 := s1.m2
    have hd2 := s1.d2
    obtain ⟨D1, hD1⟩ : ∃ D1 : Int, D1 = (d : Int) := ⟨_, rfl⟩
    have HDG := Lib.hid (fun W0 => by have := l02Degree_any m A l.length c d W0 e1 (by omega); rw [← hD1] at this; exact this)
    obtain ⟨n, hn⟩ : ∃ n, n = l.length := ⟨_, rfl⟩
    have hD2 : D1 + 1 = (n : Int) := by omega
    have w9 : IntKind.i64.wrap (n : Int) = (n : Int) := by rw [IntKind.wrap_i64]; omega
    have HIT := Lib.hid (fun W0 => l02Integers_any m n W0 m1 m2 (by omega))
    clear hc HC
    by_cases h10 : n ≤ 10
    · have hD3 : ¬ D1 = 10 := by omega
      obtain ⟨n1, n2⟩ : (D1 == 10) = false ∧ (D1 != 10) = true := ⟨by simpa using hD3, by simpa using hD3⟩
      have hD4 : -100 ≤ D1 ∧ D1 ≤ 100 := by omega
      obtain ⟨hD4, hD5⟩ := hD4
      by_cases hall : allU m n = true
      · have HA : Hid (insM m l = (m, insL m l, 0)) := Lib.hid (by unfold insM; rw [if_pos h0, if_pos ⟨by omega, by rw [← hn]; exact hall⟩])
        rw [HA.out]
        rw [hall] at HIT
        have HS := Lib.hid (fun W0 (h0 : Below W.heap.size W W0) => l02Integrate_any m d A c l W0 s1 (R1.out.below h0) (by rw [← hn]; exact hall))
        obtain ⟨L, hL⟩ : ∃ L, insL m l = L := ⟨_, rfl⟩
        rw [hL] at HS ⊢
        clear hL e1 s1 h0 hD1 hn hall h10
        go_enter Try.func41, Try.ntmps41
        go_wp2_with fail
        rw [HW.out]
        refine HC0.out.mono ?_
        rintro e w0 ⟨rfl, hb0⟩
        obtain ⟨x1, x2, x3⟩ := B1.out.keep hb0
        go_wp2
        go_region_held3 (fun w' => w'.cell? ⟨w.heap.size, 0, none⟩ = some (.int .i64 m) ∧ w'.cell? ⟨w.heap.size, 1, none⟩ = some (.slice A l.length c) ∧ w.heap.size < w'.heap.size) (first | exact ⟨x1, x2, x3⟩ | exact (by assumption) | exact box_call (by assumption) (by assumption)) (first
          | (go_at_call 64; with_reducible refine Calls.mono (HDG.out w0.drew) ?_; rintro e1 w1 ⟨rfl, hb1⟩)
          | (go_at_call 64; with_reducible refine Calls.mono (HDG.out w1) ?_; rintro e1 w1b ⟨rfl, hb1b⟩)
          | (go_at_call 92; refine (HIT.out _).mono ?_; rintro e2 w2 ⟨rfl, rfl⟩))
        all_goals
          have hb2 := below_step hb0 (below_step (below_step (below_drew0 _) hb1) hb1b)
          clear x1 x2 x3 hb0 hb1 hb1b
          obtain ⟨w0, hw0⟩ : ∃ w9, w9 = w1b := ⟨_, rfl⟩
          subst hw0
          have hb0 := hb2
          clear hb2
          obtain ⟨x1, x2, x3⟩ := B1.out.keep hb0
          go_wp2
          go_region_held3 (fun w' => w'.cell? ⟨w.heap.size, 0, none⟩ = some (.int .i64 m) ∧ w'.cell? ⟨w.heap.size, 1, none⟩ = some (.slice A l.length c) ∧ w.heap.size < w'.heap.size) (first | exact ⟨x1, x2, x3⟩ | exact box_store (by omega) (by assumption) | exact box_call (by assumption) (by assumption)) (first
            | (go_at_call 93; refine (HS.out _ (below_step hb0 (below_drew0 _))).mono ?_; rintro e2 w2 ⟨s, rfl, ho, hb2⟩; obtain ⟨A2, c2, rfl, _⟩ := ho.form)
            | (go_at_call 62; refine (l02Make_any _ _ _ _ _).mono ?_; rintro e3 w3 ⟨rfl, hb3⟩; have hv := V3.out.keep (below_step (below_step (below_step hb0 (below_drew0 _)) hb2) hb3); have q0 := hv.c0; have q1 := hv.c1; have q2 := hv.fz 0; have q3 := hv.fz 1))
          all_goals
            have hw3 := below_step (below_step (below_step hb0 (below_drew0 _)) hb2) hb3
            have hz1 := (below_step hb0 (below_drew0 _)).size
            have hz2 := V3.out.lt
            obtain ⟨f0, f1, f2, f3⟩ := fin_var (w := w) hv (ho.keep hb3) (by omega) (by omega) (below_step HB.out hw3) (.int .i64 m) (.slice A2 L.length c2)
            have F2 := Lib.hid f2
            have F3 := Lib.hid f3
            clear f2 f3 ho hb0 hb2 hb3 hv hw3
            go_wp2
            exact bodyPost_ret (v := .tuple #[.agg #[.int .i64 m, .slice A2 L.length c2], .int .i64 0]) (by simp [results, Try.results41, go_sem, f0, f1]) rfl ⟨_, rfl, F2.out, F3.out⟩
      · have HA : Hid (insM m l = (0, [], 5)) := Lib.hid (by unfold insM; rw [if_pos h0, if_neg (fun h => hall (by rw [hn]; exact h.2))])
        rw [HA.out]
        rw [show allU m n = false by simpa using hall] at HIT
        clear e1 s1 h0 hD1 hn hall h10
        go_enter Try.func41, Try.ntmps41
        go_wp2_with fail
        rw [HW.out]
        refine HC0.out.mono ?_
        rintro e w0 ⟨rfl, hb0⟩
        obtain ⟨x1, x2, x3⟩ := B1.out.keep hb0
        go_wp2
        go_region_held3 (fun w' => w'.cell? ⟨w.heap.size, 0, none⟩ = some (.int .i64 m) ∧ w'.cell? ⟨w.heap.size, 1, none⟩ = some (.slice A l.length c) ∧ w.heap.size < w'.heap.size) (first | exact ⟨x1, x2, x3⟩ | exact (by assumption) | exact box_call (by assumption) (by assumption)) (first
          | (go_at_call 64; with_reducible refine Calls.mono (HDG.out w0.drew) ?_; rintro e1 w1 ⟨rfl, hb1⟩)
          | (go_at_call 64; with_reducible refine Calls.mono (HDG.out w1) ?_; rintro e1 w1b ⟨rfl, hb1b⟩)
          | (go_at_call 92; refine (HIT.out _).mono ?_; rintro e2 w2 ⟨rfl, rfl⟩))
        all_goals
          have hb2 := below_step hb0 (below_step (below_step (below_drew0 _) hb1) hb1b)
          clear x1 x2 x3
          have hv := V3.out.keep hb2
          have q0 := hv.c0
          have q1 := hv.c1
          have q2 := hv.fz 0
          have q3 := hv.fz 1
          obtain ⟨f0, f1, f2, f3⟩ := fin_var (w := w) hv (OwnI.nil _ (w.heap.size + 1 + 1 + 1)) (by omega) (by omega) (below_step HB.out hb2) (.int .i64 0) (.slice none 0 0)
          have F2 := Lib.hid f2
          have F3 := Lib.hid f3
          clear f2 f3 hv
          go_wp2
          exact bodyPost_ret (v := .tuple #[.agg #[.int .i64 0, .slice none 0 0], .int .i64 5]) (by simp [results, Try.results41, go_sem, f0, f1]) rfl ⟨_, rfl, F2.out, F3.out⟩
    · have HA : Hid (insM m l = (0, [], 5)) := Lib.hid (by unfold insM; rw [if_pos h0, if_neg (fun h => by omega)])
      rw [HA.out]
      have hD3 : D1 = 10 := by omega
      subst hD3
      clear e1 s1 h0 hD1 hn h10
      go_enter Try.func41, Try.ntmps41
      go_wp2_with fail
      rw [HW.out]
      refine HC0.out.mono ?_
      rintro e w0 ⟨rfl, hb0⟩
      obtain ⟨x1, x2, x3⟩ := B1.out.keep hb0
      go_wp2
      first
        | (go_region_with (first
            | (go_at_call 64; refine (HDG.out _).mono ?_; rintro e1 w1 ⟨rfl, hb1⟩)))
        | fail
      all_goals
        have hb2 := below_step hb0 (below_step (below_drew0 _) hb1)
        clear x1 x2 x3
        have hv := V3.out.keep hb2
        have q0 := hv.c0
        have q1 := hv.c1
        have q2 := hv.fz 0
        have q3 := hv.fz 1
        obtain ⟨f0, f1, f2, f3⟩ := fin_var (w := w) hv (OwnI.nil _ (w.heap.size + 1 + 1 + 1)) (by omega) (by omega) (below_step HB.out hb2) (.int .i64 0) (.slice none 0 0)
        have F2 := Lib.hid f2
        have F3 := Lib.hid f3
        clear f2 f3 hv
        go_wp2
        exact bodyPost_ret (v := .tuple #[.agg #[.int .i64 0, .slice none 0 0], .int .i64 5]) (by simp [results, Try.results41, go_sem, f0, f1]) rfl ⟨_, rfl, F2.out, F3.out⟩
  · have h0' : isS m l = false := by simpa using h0
    have HA : Hid (insM m l = (0, [], 1)) := Lib.hid (by unfold insM; rw [if_neg h0])
    rw [HA.out]
    have hc := HC.out
    rw [h0'] at hc
    have HC0 := Lib.hid hc
    clear hc HC h0
    go_enter Try.func41, Try.ntmps41
    go_wp2_with fail
    rw [HW.out]
    refine HC0.out.mono ?_
    rintro e w1 ⟨rfl, hb1⟩
    have hv := V3.out.keep hb1
    have q0 := hv.c0
    have q1 := hv.c1
    have q2 := hv.fz 0
    have q3 := hv.fz 1
    obtain ⟨f0, f1, f2, f3⟩ := fin_var (w := w) hv (OwnI.nil _ (w.heap.size + 1 + 1 + 1)) (by omega) (by omega) (below_step HB.out hb1) (.int .i64 0) (.slice none 0 0)
    have F2 := Lib.hid f2
    have F3 := Lib.hid f3
    clear f2 f3 hv
    go_wp2
    exact bodyPost_ret (v := .tuple #[.agg #[.int .i64 0, .slice none 0 0], .int .i64 1]) (by simp [results, Try.results41, go_sem, f0, f1]) rfl ⟨_, rfl, F2.out, F3.out⟩
end Go.Proofs.Ytcnkpfikafaocaa
