/- Contracts of InverseOfSeries, of the model. -/
import Derived.Test.YtcnkpfikafaocaaIvs
namespace Go.Proofs.Ytcnkpfikafaocaa
open Go.RowKit Go.WideShapes Go.ChangeShapes Go.ChangeAt

theorem inv_next (m u S : Int) : (m - S % m) * u % m = (-u * S) % m := by
  have h1 : (m - S % m) % m = (0 - S) % m := Ser.sub_cong (by simp) (Int.emod_emod _ _)
  have h2 : (m - S % m) * u % m = (0 - S) * u % m := Ser.mul_cong h1 rfl
  rw [h2, Int.zero_sub, Int.neg_mul, Int.neg_mul, Int.mul_comm]
theorem invC_next (m u : Int) (a : Nat → Int) (k : Nat) : Ser.invC m u a (k + 1) = Ser.invC m u a k ++ [(m - Ser.psum (fun q => a (q + 1) * Ser.co (Ser.invC m u a k) (k - q)) (k + 1) % m) * u % m] := by
  rw [inv_next, Ser.invC, Ser.cv_succ, Ser.co_over (l := Ser.invC m u a k) (by rw [Ser.invC_length]; exact Nat.le_refl _), Int.mul_zero, Int.zero_add, Ser.cv_psum]
  rfl

set_option maxHeartbeats 8000000 in
set_option maxRecDepth 100000 in
theorem l02Inverse_any (m : Int) (d : Nat) (A : Option Addr) (c : Nat) (l : List Int) (w : World) (hs : SerOk m d l) (hr : RI w A l) :
    Calls Try.prog 78 #[.int .i64 m, .slice A l.length c, .int .i64 d] w fun e w' => ∃ v, e = .returned v ∧ OwnI w' w.heap.size v (Ser.invC m (egI m (Ser.co l 0)).2 (Ser.co l) d) ∧ Below w.heap.size w w' := by
  have HS := Lib.hid hs
  have HR := Lib.hid hr
  have m1 := hs.m1
  have m2 := hs.m2
  have hd := hs.d2
  have hd1 := hs.d1
  have hlen := hs.len
  have hm0 : ¬ m = 0 := by omega
  obtain ⟨r1, r2⟩ := hs.red 0
  obtain ⟨-, -, u1, u2⟩ := eg_fact m _ r1 r2
  obtain ⟨b0, off0, rfl, hb0, hc0⟩ := hr.at 0 (by omega)
  have hc0' : w.cell? ⟨b0, off0, none⟩ = some (.int .i64 (Ser.co l 0)) := hc0
  obtain ⟨X, hX⟩ : ∃ X, Ser.co l 0 = X := ⟨_, rfl⟩
  rw [hX] at r1 r2 u1 u2 hc0' ⊢
  have HI := Lib.hid (fun W0 => l01Inv_any m X W0 r1 r2 m2)
  obtain ⟨u, hu⟩ : ∃ u, (egI m X).2 = u := ⟨_, rfl⟩
  rw [hu] at u1 u2 HI ⊢
  have z0 : (0 : Int) < (l.length : Int) := by omega
  obtain ⟨a, ha⟩ : ∃ a, Ser.co l = a := ⟨_, rfl⟩
  rw [ha]
  have HAE := Lib.hid ha
  have HLN := Lib.hid hlen
  clear hs hr hu hX ha hc0 hlen
  go_enter Try.func78, Try.ntmps78
  go_wp2_with (go_at_call 122; refine (HI.out _).mono ?_; rintro e w' ⟨rfl, rfl⟩)
  clear hc0'
  go_loopw [8, 9, 10, 11] (fun s8 s9 _ _ wr => ∃ n k : Nat, n = k + 1 ∧ k ≤ d ∧ s9 = .int .i64 n ∧ OwnI wr w.heap.size s8 (Ser.invC m u a k) ∧ Below w.heap.size w wr) (fun _ s9 _ _ _ => d + 2 - (intOf s9).toNat)
  case atStart => exact ⟨1, 0, rfl, Nat.zero_le _, rfl, OwnI.one w u, below_one _ _⟩
  case round =>
    obtain ⟨n, k, hkn, hk, rfl, own, hbl⟩ := hrel
    have OW := Lib.hid own
    have HB := Lib.hid hbl
    obtain ⟨Ao, co, rfl, ro⟩ := own.form
    have RO := Lib.hid ro
    have HKL := Lib.hid (Ser.invC_length m u a k)
    have HKN := Lib.hid hkn
    have hsz : w.heap.size ≤ wr.heap.size := hbl.size
    clear own hbl ro
    by_cases hlt : n ≤ d
    · have hlt2 : (n : Int) ≤ (d : Int) := by omega
      obtain ⟨f, hf⟩ : ∃ f, f = fun q => a (q + 1) * Ser.co (Ser.invC m u a k) (k - q) := ⟨_, rfl⟩
      have HF := Lib.hid hf
      have hnx := invC_next m u a k
      rw [← hf] at hnx
      have HNX := Lib.hid hnx
      have HRED := Lib.hid (Ser.invC_red (m := m) (u := u) (by omega) u1 u2 a k)
      clear hf hnx hkn
      go_wp2
      go_loopw [10, 11] (fun s10 s11 wx => ∃ i j : Nat, i = j + 1 ∧ j ≤ k + 1 ∧ s11 = .int .i64 i ∧ s10 = .int .i64 (Ser.psum f j % m) ∧ ∃ q, wx = wr.drewN q) (fun _ s11 _ => n + 1 - (intOf s11).toNat)
      case atStart => exact ⟨1, 0, rfl, by omega, rfl, by simp [Ser.psum], 0, rfl⟩
      case round =>
        obtain ⟨i, j, hij, hj, rfl, rfl, q, rfl⟩ := hrel
        have hkn := HKN.out
        have hkl := HKL.out
        by_cases hin : i ≤ n
        · have hin2 : (i : Int) ≤ (n : Int) := by omega
          obtain ⟨b, off, hbe, hb, hc⟩ := HR.out.at i (by have := HLN.out; omega)
          injection hbe with hbe
          injection hbe with hbe1 hbe2
          subst hbe1 hbe2
          have hc1 := (HB.out.cell (p := ⟨b0, off0 + i, none⟩) hb).trans hc
          obtain ⟨b', off', hAo, hb', hc'⟩ := RO.out.at (n - i) (by omega)
          subst hAo
          have r1 := HS.out.red i
          have r2 := HRED.out (n - i)
          rw [HAE.out] at r1 hc1
          have hst : Ser.psum f (j + 1) = Ser.psum f j + a i * Ser.co (Ser.invC m u a k) (n - i) := by rw [Ser.psum, HF.out, hij, hkn, Nat.add_sub_add_right]
          obtain ⟨Y, hY⟩ : ∃ Y, a i = Y := ⟨_, rfl⟩
          obtain ⟨Z, hZ⟩ : ∃ Z, Ser.co (Ser.invC m u a k) (n - i) = Z := ⟨_, rfl⟩
          rw [hY] at r1 hc1 hst
          rw [hZ] at r2 hc' hst
          have hmod : (Ser.psum f j % m + Y * Z) % m = Ser.psum f (j + 1) % m := by rw [hst, Int.emod_add_emod]
          have s1 := Int.emod_nonneg (Ser.psum f j) hm0
          have s2 := Int.emod_lt_of_pos (Ser.psum f j) (show 0 < m by omega)
          obtain ⟨T, hT⟩ : ∃ T, Ser.psum f j % m = T := ⟨_, rfl⟩
          rw [hT] at hmod s1 s2
          have p1 := Int.mul_nonneg r1.1 r2.1
          have p2 := (mul_bd (x := Y) (y := Z) r1.1 (by omega) (by omega) (by omega)).2
          have HMOD := Lib.hid hmod
          have HT := Lib.hid hT
          have j0 : (0 : Int) ≤ (i : Int) := by omega
          have j1 : (i : Int) < (l.length : Int) := by have := HLN.out; omega
          have j2 : (0 : Int) ≤ (n : Int) - (i : Int) := by omega
          have j3 : (n : Int) - (i : Int) < ((Ser.invC m u a k).length : Int) := by omega
          have j5 : ((n : Int) - (i : Int)).toNat = n - i := by omega
          have HIJ := Lib.hid hij
          clear hY hZ hT hst hmod hc hb hb' hkn hkl hij
          rw [HT.out]
          go_wp2
          go_quiet (fail)
          go_wp2
          go_roundw
          case rel => exact ⟨i + 1, j + 1, by have := HIJ.out; omega, by have := HIJ.out; have := HKN.out; omega, by go_num, by rw [← HMOD.out], _, rfl⟩
          case measure => simp only [intOf]; omega
        · obtain rfl : j = k + 1 := by omega
          have HIJ := Lib.hid hij
          have hin2 : ¬ (i : Int) ≤ (n : Int) := by omega
          have s1 := Int.emod_nonneg (Ser.psum f (k + 1)) hm0
          have s2 := Int.emod_lt_of_pos (Ser.psum f (k + 1)) (show 0 < m by omega)
          obtain ⟨T, hT⟩ : ∃ T, Ser.psum f (k + 1) % m = T := ⟨_, rfl⟩
          have HN2 := HNX.out
          rw [hT] at s1 s2 HN2 ⊢
          have HN3 := Lib.hid HN2
          have p1 : 0 ≤ (m - T) * u := Int.mul_nonneg (by omega) u1
          have p2 := (mul_bd (x := m - T) (y := u) (by omega) (by omega) (by omega) (by omega)).2
          obtain ⟨V, hV⟩ : ∃ V, m - T = V := ⟨_, rfl⟩
          rw [hV] at p1 p2 HN2 HN3
          have w1 : IntKind.i64.wrap V = V := by rw [IntKind.wrap_i64]; omega
          have OW2 := Lib.hid (OwnI.drewN OW.out q)
          have HB2 := Lib.hid (below_drewN HB.out q)
          clear hT HN2 hin hkn hkl hij
          go_wp2_with (at_builtin; refine wp_push _ _ _ (by rfl) (by rfl) Try.underlying24 w.heap.size _ _ (by rfl) OW2.out (V * u % m) (by rfl) (by have := HKL.out; omega) hsz ?_; intro v' w1 ho1 hpb)
          have HO3 := Lib.hid ho1
          have HB3 := Lib.hid (HB2.out.trans hpb)
          clear ho1 hpb
          go_wp2
          go_roundw
          case rel => exact ⟨n + 1, n, rfl, hlt, by go_num, by rw [show n = k + 1 from HKN.out, HN3.out]; exact HO3.out, HB3.out⟩
          case measure => simp only [intOf]; omega
    · have hlt2 : ¬ (n : Int) ≤ (d : Int) := by omega
      obtain rfl : k = d := by omega
      clear hkn
      go_wp2
      go_ret
      exact ⟨_, rfl, OW.out, HB.out⟩

set_option maxHeartbeats 8000000 in
set_option maxRecDepth 100000 in
theorem sInverseOfSeries_any (m : Int) (A : Option Addr) (c : Nat) (l : List Int) (w : World) (hl : l.length ≤ 1048576) (hr : RI w A l) :
    Calls Try.prog 28 #[.agg #[.int .i64 m, .slice A l.length c]] w fun e w' => ∃ s, e = .returned (.tuple #[.agg #[.int .i64 (ivsM m l).1, s], .int .i64 (ivsM m l).2.2]) ∧ OwnI w' w.heap.size s (ivsM m l).2.1 ∧ Below w.heap.size w w' := by
  obtain ⟨W, hW, b1, v3, hwb⟩ := spro1 w m A l.length c
  have B1 := Lib.hid b1
  have V3 := Lib.hid v3
  have HB := Lib.hid hwb
  have HW := Lib.hid hW
  have R1 := Lib.hid (hr.below hwb)
  have HC := Lib.hid (l02Is_any m A c l W (by omega) R1.out)
  clear b1 v3 hwb hW hr
  by_cases h0 : isS m l = true
  · obtain ⟨d, e1, s1⟩ := serOk_of h0
    have hc := HC.out
    rw [h0] at hc
    have HC0 := Lib.hid hc
    have m1 := s1.m1
    have m2 := s1.m2
    obtain ⟨b, off, rfl, hb, hcl⟩ := R1.out.at 0 (by omega)
    have hcl0 : W.cell? ⟨b, off, none⟩ = some (.int .i64 (Ser.co l 0)) := hcl
    obtain ⟨X, hX⟩ : ∃ X, Ser.co l 0 = X := ⟨_, rfl⟩
    obtain ⟨r1, r2⟩ := s1.red 0
    rw [hX] at hcl0 r1 r2
    have z0 : (0 : Int) < (l.length : Int) := by omega
    have z1 : 0 < l.length := by omega
    have HU := Lib.hid (fun W0 => l01Unit_any m X W0 r1 r2 m2)
    clear hc HC hcl
    by_cases hg : gcdI X m = 1
    · have HA : Hid (ivsM m l = (m, Ser.invC m (egI m X).2 (Ser.co l) d, 0)) := Lib.hid (by unfold ivsM; rw [if_pos h0, hX, if_pos hg, e1]; rfl)
      rw [HA.out]
      have HI := Lib.hid (fun W0 => by have := HU.out W0; rw [show (gcdI X m == 1) = true by rw [hg]; rfl] at this; exact this)
      have HDG := Lib.hid (fun W0 => l02Degree_any m (some ⟨b, off, none⟩) l.length c d W0 e1 (by have := s1.d2; omega))
      have HS := Lib.hid (fun W0 (h0 : Below W.heap.size W W0) => l02Inverse_any m d (some ⟨b, off, none⟩) c l W0 s1 (R1.out.below h0))
      rw [hX] at HS
      obtain ⟨L, hL⟩ : ∃ L, Ser.invC m (egI m X).2 (Ser.co l) d = L := ⟨_, rfl⟩
      rw [hL] at HS ⊢
      clear e1 s1 hL h0 hX hg HU
      go_enter Try.func28, Try.ntmps28
      go_wp2_with fail
      rw [HW.out]
      refine HC0.out.mono ?_
      rintro e w0 ⟨rfl, hb0⟩
      obtain ⟨x1, x2, x3⟩ := B1.out.keep hb0
      have x4 := (hb0.cell (p := ⟨b, off, none⟩) hb).trans hcl0
      have x5 := Nat.lt_of_lt_of_le hb hb0.size
      go_wp2
      go_region_held3 (fun w' => (w'.cell? ⟨w.heap.size, 0, none⟩ = some (.int .i64 m) ∧ w'.cell? ⟨w.heap.size, 1, none⟩ = some (.slice (some ⟨b, off, none⟩) l.length c) ∧ w.heap.size < w'.heap.size) ∧ (w'.cell? ⟨b, off, none⟩ = some (.int .i64 X) ∧ b < w'.heap.size)) (first | exact ⟨⟨x1, x2, x3⟩, x4, x5⟩ | exact (by assumption)) (first
        | (go_at_call 77; refine (HI.out _).mono ?_; rintro e w2 ⟨rfl, rfl⟩))
      all_goals
        have hb1 := below_step hb0 (below_drew0 _)
        clear x1 x2 x3 x4 x5 hb0
        obtain ⟨w0, hw0⟩ : ∃ w9, w9 = w0.drew := ⟨_, rfl⟩
        rw [← hw0] at hb1 ⊢
        clear hw0
        have hb0 := hb1
        clear hb1
        obtain ⟨x1, x2, x3⟩ := B1.out.keep hb0
        go_wp2
        go_region_held3 (fun w' => w'.cell? ⟨w.heap.size, 0, none⟩ = some (.int .i64 m) ∧ w'.cell? ⟨w.heap.size, 1, none⟩ = some (.slice (some ⟨b, off, none⟩) l.length c) ∧ w.heap.size < w'.heap.size) (first | exact ⟨x1, x2, x3⟩ | exact box_store (by omega) (by assumption) | exact box_call (by assumption) (by assumption)) (first
          | (go_at_call 64; refine (HDG.out _).mono ?_; rintro e1 w1 ⟨rfl, hb1⟩)
          | (go_at_call 78; refine (HS.out _ (below_step (below_step hb0 (below_drew0 _)) hb1)).mono ?_; rintro e2 w2 ⟨s, rfl, ho, hb2⟩; obtain ⟨A2, c2, rfl, _⟩ := ho.form)
          | (go_at_call 62; refine (l02Make_any _ _ _ _ _).mono ?_; rintro e3 w3 ⟨rfl, hb3⟩; have hv := V3.out.keep (below_step (below_step (below_step (below_step hb0 (below_drew0 _)) hb1) hb2) hb3); have q0 := hv.c0; have q1 := hv.c1; have q2 := hv.fz 0; have q3 := hv.fz 1))
        all_goals
          have hw3 := below_step (below_step (below_step (below_step hb0 (below_drew0 _)) hb1) hb2) hb3
          have hz1 := (below_step (below_step hb0 (below_drew0 _)) hb1).size
          have hz2 := V3.out.lt
          obtain ⟨f0, f1, f2, f3⟩ := fin_var (w := w) hv (ho.keep hb3) (by omega) (by omega) (below_step HB.out hw3) (.int .i64 m) (.slice A2 L.length c2)
          have F2 := Lib.hid f2
          have F3 := Lib.hid f3
          clear f2 f3 ho hb0 hb1 hb2 hb3 hv hw3
          go_wp2
          exact bodyPost_ret (v := .tuple #[.agg #[.int .i64 m, .slice A2 L.length c2], .int .i64 0]) (by simp [results, Try.results28, go_sem, f0, f1]) rfl ⟨_, rfl, F2.out, F3.out⟩
    · have HA : Hid (ivsM m l = (0, [], 5)) := Lib.hid (by unfold ivsM; rw [if_pos h0, hX, if_neg hg])
      rw [HA.out]
      have HI := Lib.hid (fun W0 => by have := HU.out W0; rw [show (gcdI X m == 1) = false by simpa using hg] at this; exact this)
      clear e1 s1 h0 hX hg HU
      go_enter Try.func28, Try.ntmps28
      go_wp2_with fail
      rw [HW.out]
      refine HC0.out.mono ?_
      rintro e w0 ⟨rfl, hb0⟩
      obtain ⟨x1, x2, x3⟩ := B1.out.keep hb0
      have x4 := (hb0.cell (p := ⟨b, off, none⟩) hb).trans hcl0
      have x5 := Nat.lt_of_lt_of_le hb hb0.size
      go_wp2
      go_region_held3 (fun w' => (w'.cell? ⟨w.heap.size, 0, none⟩ = some (.int .i64 m) ∧ w'.cell? ⟨w.heap.size, 1, none⟩ = some (.slice (some ⟨b, off, none⟩) l.length c) ∧ w.heap.size < w'.heap.size) ∧ (w'.cell? ⟨b, off, none⟩ = some (.int .i64 X) ∧ b < w'.heap.size)) (first | exact ⟨⟨x1, x2, x3⟩, x4, x5⟩ | exact (by assumption)) (first
        | (go_at_call 77; refine (HI.out _).mono ?_; rintro e w2 ⟨rfl, rfl⟩))
      all_goals
        have hb3 := below_step hb0 (below_drew0 _)
        clear x1 x2 x3 x4 x5 hb0
        obtain ⟨w2, hw2⟩ : ∃ w9, w9 = w0.drew := ⟨_, rfl⟩
        rw [← hw2] at hb3 ⊢
        clear hw2
        have hv := V3.out.keep hb3
        have q0 := hv.c0
        have q1 := hv.c1
        have q2 := hv.fz 0
        have q3 := hv.fz 1
        obtain ⟨f0, f1, f2, f3⟩ := fin_var (w := w) hv (OwnI.nil _ (w.heap.size + 1 + 1 + 1)) (by omega) (by omega) (below_step HB.out hb3) (.int .i64 0) (.slice none 0 0)
        have F2 := Lib.hid f2
        have F3 := Lib.hid f3
        clear f2 f3 hv
        go_wp2
        exact bodyPost_ret (v := .tuple #[.agg #[.int .i64 0, .slice none 0 0], .int .i64 5]) (by simp [results, Try.results28, go_sem, f0, f1]) rfl ⟨_, rfl, F2.out, F3.out⟩
  · have h0' : isS m l = false := by simpa using h0
    have HA : Hid (ivsM m l = (0, [], 1)) := Lib.hid (by unfold ivsM; rw [if_neg h0])
    rw [HA.out]
    have hc := HC.out
    rw [h0'] at hc
    have HC0 := Lib.hid hc
    clear hc HC h0
    go_enter Try.func28, Try.ntmps28
    go_wp2_with fail
    rw [HW.out]
    refine HC0.out.mono ?_
    rintro e w1 ⟨rfl, hb1⟩
    have hv := V3.out.keep hb1
    have q0 := hv.c0
    have q1 := hv.c1
    have q2 := hv.fz 0
    have q3 := hv.fz 1
    obtain ⟨f0, f1, f2, f3⟩ := fin_var (w := w) hv (OwnI.nil _ (w.heap.size + 1 + 1 + 1)) (by omega) (by omega) (below_step HB.out hb1) (.int .i64 0) (.slice none 0 0)
    have F2 := Lib.hid f2
    have F3 := Lib.hid f3
    clear f2 f3 hv
    go_wp2
    exact bodyPost_ret (v := .tuple #[.agg #[.int .i64 0, .slice none 0 0], .int .i64 1]) (by simp [results, Try.results28, go_sem, f0, f1]) rfl ⟨_, rfl, F2.out, F3.out⟩
end Go.Proofs.Ytcnkpfikafaocaa
