/- Contracts of ReverseSeries, of the program and of the model. -/
import Derived.Test.YtcnkpfikafaocaaRvs
import Derived.Test.YtcnkpfikafaocaaCmt
import Derived.Test.YtcnkpfikafaocaaIvt
namespace Go.Proofs.Ytcnkpfikafaocaa
open Go.RowKit Go.WideShapes Go.ChangeShapes Go.ChangeAt

def rvsM (m : Int) (l : List Int) : Int × List Int × Int :=
  if isS m l = true then (if Ser.co l 0 = 0 ∧ gcdI (Ser.co l 1) m = 1 then (m, Ser.revC m (egI m (Ser.co l 1)).2 (Ser.co l) (l.length - 2), 0) else (0, [], 5)) else (0, [], 1)
theorem rvsM_len (m : Int) (l : List Int) : (rvsM m l).2.1.length ≤ 1048576 := by
  unfold rvsM
  split
  · rename_i h
    obtain ⟨d, e, s⟩ := serOk_of h
    have := s.d2
    split
    · dsimp only; rw [Ser.revC_length]; omega
    · simp
  · simp
theorem unit_mul {m a : Int} (h0 : 0 ≤ a) (ha : a < m) (hg : gcdI a m = 1) : (a * (egI m a).2) % m = 1 % m := by
  obtain ⟨-, hd, -, -⟩ := eg_fact m a h0 ha
  rw [hg] at hd
  exact (Ser.modEq _ _ _).2 hd

/-- the model's list while the reversion is made -/
def rvL (m u : Int) (f : Nat → Int) (d n : Nat) : List Int := Ser.revC m u f n ++ List.replicate (d - 1 - n) 0
theorem rvL_len (m u : Int) (f : Nat → Int) (d n : Nat) (h : n + 1 ≤ d) : (rvL m u f d n).length = d + 1 := by
  unfold rvL; rw [List.length_append, Ser.revC_length, List.length_replicate]; omega
theorem rvL_zero (m u : Int) (f : Nat → Int) (d : Nat) (h : 1 ≤ d) : (List.replicate (d + 1) (0 : Int)).set 1 u = rvL m u f d 0 := by
  obtain ⟨e, rfl⟩ : ∃ e, d = e + 1 := ⟨d - 1, by omega⟩
  unfold rvL Ser.revC
  rw [List.replicate_succ, List.replicate_succ, List.set_cons_succ, List.set_cons_zero]
  rfl
theorem rvL_step (m u : Int) (f : Nat → Int) (d n : Nat) (h : n + 2 ≤ d) : (rvL m u f d n).set (n + 2) ((m - Ser.comp f (Ser.co (rvL m u f d n)) (n + 2) % m) * u % m) = rvL m u f d (n + 1) := by
  have e : Ser.co (rvL m u f d n) = Ser.co (Ser.revC m u f n) := by unfold rvL; rw [Ser.co_pad]
  rw [e]
  unfold rvL
  rw [List.set_append_right _ _ (by rw [Ser.revC_length]; omega), Ser.revC_length, Nat.sub_self, show d - 1 - n = (d - 1 - (n + 1)) + 1 by omega, List.replicate_succ, List.set_cons_zero, Ser.revC, List.append_assoc]
  rfl
theorem rvL_curve (m u : Int) (f : Nat → Int) (d n : Nat) : Ser.co (rvL m u f d n) 0 = 0 := by
  unfold rvL; rw [Ser.co_pad]; exact Ser.revC_curve m u f n
theorem rvL_red {m u : Int} (hm : 0 < m) (h1 : 0 ≤ u) (h2 : u < m) (f : Nat → Int) (d n : Nat) : Ser.Red m (rvL m u f d n) := by
  intro i; unfold rvL; rw [Ser.co_pad]; exact Ser.revC_red hm h1 h2 f n i
theorem rvL_all (m u : Int) (f : Nat → Int) (n : Nat) : rvL m u f (n + 1) n = Ser.revC m u f n := by unfold rvL; simp

set_option maxHeartbeats 8000000 in
set_option maxRecDepth 100000 in
theorem l02Reverse_any (m : Int) (d : Nat) (A : Option Addr) (c : Nat) (l : List Int) (w : World) (hs : SerOk m d l) (hr : RI w A l) (hz : Ser.co l 0 = 0) :
    Calls Try.prog 82 #[.int .i64 m, .slice A l.length c, .int .i64 d] w fun e w' => ∃ v, e = .returned v ∧ OwnI w' w.heap.size v (Ser.revC m (egI m (Ser.co l 1)).2 (Ser.co l) (d - 1)) ∧ Below w.heap.size w w' := by
  have HS := Lib.hid hs
  have HR := Lib.hid hr
  have HZ := Lib.hid hz
  have m1 := hs.m1
  have m2 := hs.m2
  have hd := hs.d2
  have hd1 := hs.d1
  have hlen := hs.len
  have hm0 : ¬ m = 0 := by omega
  have hmk : ∀ W : World, (Instr.makeSlice 24 (.int .i64 ((d : Int) + 1)) (.int .i64 ((d : Int) + 1))).run Try.prog W = .ok (.slice (some ⟨W.heap.size, 0, none⟩) (d + 1) (d + 1)) (W.alloc (.cells (madeCells #[.int .i64 0] (d + 1)) 2)) := by
    intro W
    have := run_make_row' (P := Try.prog) 24 2 (.int .i64 0) 8 Try.underlying24 info64 rfl .i64 .i64 (d + 1) (by omega) (by omega) W
    rwa [show ((d + 1 : Nat) : Int) = (d : Int) + 1 by omega] at this
  obtain ⟨r1, r2⟩ := hs.red 1
  obtain ⟨-, -, u1, u2⟩ := eg_fact m _ r1 r2
  obtain ⟨b0, off0, rfl, hb0, hc0⟩ := (hr.below (below_one w (.cells (madeCells #[.int .i64 0] (d + 1)) 2))).at 1 (by omega)
  obtain ⟨X, hX⟩ : ∃ X, Ser.co l 1 = X := ⟨_, rfl⟩
  rw [hX] at r1 r2 u1 u2 hc0 ⊢
  have HI := Lib.hid (fun W0 => l01Inv_any m X W0 r1 r2 m2)
  obtain ⟨u, hu⟩ : ∃ u, (egI m X).2 = u := ⟨_, rfl⟩
  rw [hu] at u1 u2 HI ⊢
  have ho := OwnI.made w (d + 1) (by unfold maxLen; omega)
  obtain ⟨-, -, o3, o4⟩ := ho.cells
  have q1 := o3 1 (by simp; omega)
  have q2 := o4 1
  have q3 : (List.replicate (d + 1) (0 : Int))[1]?.getD 0 = 0 := by rw [List.getElem?_replicate]; split <;> rfl
  rw [q3] at q1
  have hset := ho.set 1 u
  rw [rvL_zero m u (Ser.co l) d hd1, World.setCell_alloc_at _ _ _ _ _ rfl] at hset
  have HSET := Lib.hid hset
  have z0 : (1 : Int) < (l.length : Int) := by omega
  have z1 : 1 < l.length := by omega
  have z2 : (1 : Int) < (d : Int) + 1 := by omega
  have z3 : 0 < d := by omega
  obtain ⟨f, hf⟩ : ∃ f, Ser.co l = f := ⟨_, rfl⟩
  rw [hf] at HSET ⊢
  have HF := Lib.hid hf
  have HLN := Lib.hid hlen
  clear hs hr hz hu hX hf hlen ho o3 o4 q3 hset
  go_enter Try.func82, Try.ntmps82
  go_wp2_with (go_at_call 122; refine (HI.out _).mono ?_; rintro e w' ⟨rfl, rfl⟩)
  clear q1 q2 hc0
  go_loopw [9, 10] (fun s9 _ wr => ∃ N k : Nat, N = k + 2 ∧ k + 1 ≤ d ∧ s9 = .int .i64 N ∧ OwnI wr w.heap.size (.slice (some ⟨w.heap.size, 0, none⟩) (d + 1) (d + 1)) (rvL m u f d k) ∧ Below w.heap.size w wr) (fun s9 _ _ => d + 2 - (intOf s9).toNat)
  case atStart => exact ⟨2, 0, rfl, by omega, rfl, HSET.out, below_one _ _⟩
  case round =>
    obtain ⟨N, k, hN, hk, rfl, own, hbl⟩ := hrel
    have OW := Lib.hid own
    have HB := Lib.hid hbl
    clear own hbl hmk HSET
    by_cases hlt : N ≤ d
    · have hlt2 : (N : Int) ≤ (d : Int) := by omega
      have hll := rvL_len m u f d k hk
      have ht := l02Compose_any m N (some ⟨b0, off0, none⟩) c l (some ⟨w.heap.size, 0, none⟩) (d + 1) (rvL m u f d k) wr m1 m2 (by omega) (by have := HLN.out; omega) (by have := HLN.out; omega) (by omega) HS.out.red (rvL_red (by omega) u1 u2 f d k) (rvL_curve m u f d k) (HR.out.below HB.out) (ri_len OW.out)
      rw [hll, HF.out] at ht
      have HT := Lib.hid ht
      obtain ⟨L3, hL3⟩ : ∃ L3, Ser.horC m N f (Ser.co (rvL m u f d k)) (N + 1) = L3 := ⟨_, rfl⟩
      have hl3 : L3.length = N + 1 := by rw [← hL3, Ser.horC_length]
      have hcN : Ser.co L3 N = Ser.comp f (Ser.co (rvL m u f d k)) N % m := by
        have e1 := Ser.horC_comp (m := m) (d := N) (a := f) (rvL_curve m u f d k) N (Nat.le_refl _)
        rw [hL3] at e1
        have e2 := Ser.horC_red (m := m) (by omega) N f (Ser.co (rvL m u f d k)) (by rw [← HF.out]; exact HS.out.red) (N + 1) N
        rw [hL3] at e2
        rw [← e1, Int.emod_eq_of_lt e2.1 e2.2]
      have hst := rvL_step m u f d k (by omega)
      rw [← hN, ← hcN] at hst
      obtain ⟨T, hT⟩ : ∃ T, Ser.co L3 N = T := ⟨_, rfl⟩
      have hT1 : 0 ≤ T ∧ T < m := by rw [← hT, hcN]; exact ⟨Int.emod_nonneg _ hm0, Int.emod_lt_of_pos _ (by omega)⟩
      obtain ⟨hT1, hT2⟩ := hT1
      rw [hT] at hst
      rw [hL3] at HT
      obtain ⟨V, hV⟩ : ∃ V, m - T = V := ⟨_, rfl⟩
      rw [hV] at hst
      have p1 : 0 ≤ V * u := Int.mul_nonneg (by omega) u1
      have p2 := (mul_bd (x := V) (y := u) (by omega) (by omega) (by omega) (by omega)).2
      have w1 : IntKind.i64.wrap V = V := by rw [IntKind.wrap_i64]; omega
      have HNN := Lib.hid hN
      have HST := Lib.hid hst
      have HTT := Lib.hid hT
      clear ht hL3 hcN hst hT hN
      go_wp2_with fail
      refine HT.out.mono ?_
      rintro e w3 ⟨s3, rfl, ho3, hb3⟩
      obtain ⟨A3, c3, rfl, r3⟩ := ho3.form
      obtain ⟨b, off, hA3, hb, hc⟩ := r3.at N (by omega)
      subst hA3
      rw [HTT.out] at hc
      have ow := OW.out.keep hb3
      obtain ⟨-, -, o3, o4⟩ := ow.cells
      have d1 := o3 N (by omega)
      have f1 := o4 N
      have hset := ow.set N (V * u % m)
      rw [HST.out] at hset
      have HSE := Lib.hid hset
      have HB3 := Lib.hid ((below_step HB.out hb3).setCell (p := ⟨w.heap.size, N, none⟩) (Nat.le_refl _) (.int .i64 (V * u % m)))
      have j0 : (0 : Int) ≤ (N : Int) := by omega
      have j1 : (N : Int) < (L3.length : Int) := by omega
      have j2 : (N : Int) < (d : Int) + 1 := by omega
      clear ho3 hb3 r3 ow o3 o4 hset hb
      go_wp2
      go_roundw
      case rel => exact ⟨N + 1, k + 1, by have := HNN.out; omega, by have := HNN.out; omega, by first | rfl | go_num, HSE.out, HB3.out⟩
      case measure => simp only [intOf]; omega
    · have hlt2 : ¬ (N : Int) ≤ (d : Int) := by omega
      obtain rfl : d = k + 1 := by omega
      have ow := OW.out
      rw [rvL_all] at ow
      have HO := Lib.hid ow
      clear ow hN hlt
      go_wp2
      go_ret
      exact ⟨_, rfl, HO.out, HB.out⟩

theorem isC_is {m : Int} {l : List Int} (h : isC m l = true) : isS m l = true ∧ Ser.co l 0 = 0 := by
  unfold isC at h
  rw [Bool.and_eq_true] at h
  exact ⟨h.1, by simpa [Ser.co] using h.2⟩
theorem rev_same {m : Int} {d : Nat} {l : List Int} (hs : SerOk m d l) (hz : Ser.co l 0 = 0) (hg : gcdI (Ser.co l 1) m = 1) : (Ser.lagG m (egI m (Ser.co l 1)).2 (Ser.co l) d d).1 = Ser.revC m (egI m (Ser.co l 1)).2 (Ser.co l) (d - 1) := by
  obtain ⟨r1, r2⟩ := hs.red 1
  obtain ⟨-, -, u1, u2⟩ := eg_fact m _ r1 r2
  have hd1 := hs.d1
  have hm := hs.m1
  obtain ⟨n, rfl⟩ : ∃ n, d = n + 1 := ⟨d - 1, by omega⟩
  rw [Nat.add_sub_cancel]
  exact Ser.lagG_revC (by omega) u1 u2 hz (unit_mul r1 r2 hg) n

set_option maxHeartbeats 8000000 in
set_option maxRecDepth 100000 in
theorem ReverseSeries_any (m : Int) (A : Option Addr) (c : Nat) (l : List Int) (w : World) (hl : l.length ≤ 1048576) (hr : RI w A l) :
    Calls Try.prog 31 #[.agg #[.int .i64 m, .slice A l.length c]] w fun e w' => ∃ s, e = .returned (.tuple #[.agg #[.int .i64 (rvsM m l).1, s], .int .i64 (rvsM m l).2.2]) ∧ OwnI w' w.heap.size s (rvsM m l).2.1 ∧ Below w.heap.size w w' := by
  obtain ⟨W, hW, b1, v3, b4, hwb⟩ := pro1 w m A l.length c
  have B1 := Lib.hid b1
  have V3 := Lib.hid v3
  have HB := Lib.hid hwb
  have HW := Lib.hid hW
  have R1 := Lib.hid (hr.below hwb)
  have HC := Lib.hid (codeOfSeries1_any (w.heap.size + 1 + 1) m A c l W (by omega) R1.out b4)
  clear b1 v3 b4 hwb hW hr
  by_cases h0 : isS m l = true
  · obtain ⟨d, e1, s1⟩ := serOk_of h0
    have hcf := isC_ok h0
    have hc := HC.out
    rw [code1_isS h0] at hc
    have HC0 := Lib.hid hc
    have m1 := s1.m1
    have m2 := s1.m2
    have hd1 := s1.d1
    have HCV := Lib.hid (fun W0 (h : Below W.heap.size W W0) => IsCurve_any m A c l W0 (by omega) (R1.out.below h))
    rw [hcf] at HCV
    clear hc HC hcf
    by_cases hz : Ser.co l 0 = 0
    · rw [hz] at HCV
      obtain ⟨b, off, rfl, hb, hcl⟩ := R1.out.at 1 (by omega)
      have hre := rev_same s1 hz
      obtain ⟨X, hX⟩ : ∃ X, Ser.co l 1 = X := ⟨_, rfl⟩
      obtain ⟨r1, r2⟩ := s1.red 1
      rw [hX] at hcl r1 r2 hre
      have z0 : (1 : Int) < (l.length : Int) := by omega
      have z1 : 1 < l.length := by omega
      by_cases hg : gcdI X m = 1
      · have HA : Hid (rvsM m l = (m, Ser.revC m (egI m X).2 (Ser.co l) (d - 1), 0)) := Lib.hid (by unfold rvsM; rw [if_pos h0, hX, if_pos ⟨hz, hg⟩, e1]; rfl)
        rw [HA.out, ← hre hg]
        obtain ⟨-, -, u1, u2⟩ := eg_fact m X r1 r2
        have hiv := invM_unit m1 m2 r1 r2 hg
        obtain ⟨u, hu⟩ : ∃ u, (egI m X).2 = u := ⟨_, rfl⟩
        rw [hu] at hiv u1 u2 ⊢
        have HI := Lib.hid (fun W0 => by have := InverseModulo_any m X W0; rw [hiv] at this; exact this)
        have HS := Lib.hid (fun W0 (h0 : Below W.heap.size W W0) => reversed_any m d (some ⟨b, off, none⟩) c l u W0 s1 (R1.out.below h0) u1 u2)
        obtain ⟨L, hL⟩ : ∃ L, (Ser.lagG m u (Ser.co l) d d).1 = L := ⟨_, rfl⟩
        rw [hL] at HS ⊢
        clear e1 s1 hL h0 hu hiv hX hg hre hz
        go_enter Try.func31, Try.ntmps31
        go_wp2_with fail
        rw [HW.out]
        refine HC0.out.mono ?_
        rintro e w0 ⟨rfl, hb0⟩
        obtain ⟨x1, x2⟩ := box_in B1.out hb0
        go_wp2_with fail
        refine (HCV.out _ hb0).mono ?_
        rintro e w1 ⟨rfl, hb9⟩
        have hb1 := below_step hb0 hb9
        clear x1 x2 hb0 hb9
        obtain ⟨x1, x2, x3⟩ := B1.out.keep hb1
        have x4 := (hb1.cell (p := ⟨b, off + 1, none⟩) hb).trans hcl
        have x5 := Nat.lt_of_lt_of_le hb hb1.size
        go_wp2
        go_region_held3 (fun w' => (w'.cell? ⟨w.heap.size, 0, none⟩ = some (.int .i64 m) ∧ w'.cell? ⟨w.heap.size, 1, none⟩ = some (.slice (some ⟨b, off, none⟩) l.length c) ∧ w.heap.size < w'.heap.size) ∧ (w'.cell? ⟨b, off + 1, none⟩ = some (.int .i64 X) ∧ b < w'.heap.size)) (first | exact ⟨⟨x1, x2, x3⟩, x4, x5⟩ | exact bc_call hb2 (by assumption) | exact (by assumption)) (first
          | (go_at_call 75; refine (HI.out _).mono ?_; rintro e w2 ⟨rfl, hb2⟩))
        all_goals
          have hb3 := below_step hb1 (below_step (below_drew0 _) hb2)
          clear x1 x2 x3 x4 x5
          obtain ⟨x1, x2⟩ := box_in B1.out hb3
          go_wp2_with fail
          refine (HS.out _ hb3).mono ?_
          rintro e w4 ⟨s, rfl, ho, hb4⟩
          obtain ⟨A2, c2, rfl, _⟩ := ho.form
          have hv := V3.out.keep (below_step hb3 hb4)
          have q0 := hv.c0
          have q1 := hv.c1
          have q2 := hv.fz 0
          have q3 := hv.fz 1
          obtain ⟨f0, f1, f2, f3⟩ := fin_var (w := w) hv ho (by have := V3.out.lt; have := (hb3).size; omega) (by omega) (below_step HB.out (below_step hb3 hb4)) (.int .i64 m) (.slice A2 L.length c2)
          have F2 := Lib.hid f2
          have F3 := Lib.hid f3
          clear f2 f3 hv
          go_wp2
          exact bodyPost_ret (v := .tuple #[.agg #[.int .i64 m, .slice A2 L.length c2], .int .i64 0]) (by simp [results, Try.results31, go_sem, f0, f1]) rfl ⟨_, rfl, F2.out, F3.out⟩
      · have HA : Hid (rvsM m l = (0, [], 5)) := Lib.hid (by unfold rvsM; rw [if_pos h0, hX, if_neg (fun h => hg h.2)])
        rw [HA.out]
        have hiv := invM_not m1 m2 r1 r2 hg
        have HI := Lib.hid (fun W0 => by have := InverseModulo_any m X W0; rw [hiv] at this; exact this)
        clear e1 s1 h0 hiv hX hg hre hz
        go_enter Try.func31, Try.ntmps31
        go_wp2_with fail
        rw [HW.out]
        refine HC0.out.mono ?_
        rintro e w0 ⟨rfl, hb0⟩
        obtain ⟨x1, x2⟩ := box_in B1.out hb0
        go_wp2_with fail
        refine (HCV.out _ hb0).mono ?_
        rintro e w1 ⟨rfl, hb9⟩
        have hb1 := below_step hb0 hb9
        clear x1 x2 hb0 hb9
        obtain ⟨x1, x2, x3⟩ := B1.out.keep hb1
        have x4 := (hb1.cell (p := ⟨b, off + 1, none⟩) hb).trans hcl
        have x5 := Nat.lt_of_lt_of_le hb hb1.size
        go_wp2
        go_region_held3 (fun w' => (w'.cell? ⟨w.heap.size, 0, none⟩ = some (.int .i64 m) ∧ w'.cell? ⟨w.heap.size, 1, none⟩ = some (.slice (some ⟨b, off, none⟩) l.length c) ∧ w.heap.size < w'.heap.size) ∧ (w'.cell? ⟨b, off + 1, none⟩ = some (.int .i64 X) ∧ b < w'.heap.size)) (first | exact ⟨⟨x1, x2, x3⟩, x4, x5⟩ | exact bc_call hb2 (by assumption) | exact (by assumption)) (first
          | (go_at_call 75; refine (HI.out _).mono ?_; rintro e w2 ⟨rfl, hb2⟩))
        all_goals
          have hb3 := below_step hb1 (below_step (below_drew0 _) hb2)
          clear x1 x2 x3 x4 x5
          have hv := V3.out.keep hb3
          have q0 := hv.c0
          have q1 := hv.c1
          have q2 := hv.fz 0
          have q3 := hv.fz 1
          obtain ⟨f0, f1, f2, f3⟩ := fin_var (w := w) hv (OwnI.nil _ (w.heap.size + 1 + 1 + 1)) (by omega) (by omega) (below_step HB.out hb3) (.int .i64 0) (.slice none 0 0)
          have F2 := Lib.hid f2
          have F3 := Lib.hid f3
          clear f2 f3 hv
          go_wp2
          exact bodyPost_ret (v := .tuple #[.agg #[.int .i64 0, .slice none 0 0], .int .i64 5]) (by simp [results, Try.results31, go_sem, f0, f1]) rfl ⟨_, rfl, F2.out, F3.out⟩
    · have HA : Hid (rvsM m l = (0, [], 5)) := Lib.hid (by unfold rvsM; rw [if_pos h0, if_neg (fun h => hz h.1)])
      rw [HA.out]
      rw [show (Ser.co l 0 == 0) = false by simpa using hz] at HCV
      clear e1 s1 h0 hz
      go_enter Try.func31, Try.ntmps31
      go_wp2_with fail
      rw [HW.out]
      refine HC0.out.mono ?_
      rintro e w0 ⟨rfl, hb0⟩
      obtain ⟨x1, x2⟩ := box_in B1.out hb0
      go_wp2_with fail
      refine (HCV.out _ hb0).mono ?_
      rintro e w1 ⟨rfl, hb9⟩
      have hb1 := below_step hb0 hb9
      clear x1 x2 hb0 hb9
      have hv := V3.out.keep hb1
      have q0 := hv.c0
      have q1 := hv.c1
      have q2 := hv.fz 0
      have q3 := hv.fz 1
      obtain ⟨f0, f1, f2, f3⟩ := fin_var (w := w) hv (OwnI.nil _ (w.heap.size + 1 + 1 + 1)) (by omega) (by omega) (below_step HB.out hb1) (.int .i64 0) (.slice none 0 0)
      have F2 := Lib.hid f2
      have F3 := Lib.hid f3
      clear f2 f3 hv
      go_wp2
      exact bodyPost_ret (v := .tuple #[.agg #[.int .i64 0, .slice none 0 0], .int .i64 5]) (by simp [results, Try.results31, go_sem, f0, f1]) rfl ⟨_, rfl, F2.out, F3.out⟩
  · have h0' : isS m l = false := by simpa using h0
    have HA : Hid (rvsM m l = (0, [], 1)) := Lib.hid (by unfold rvsM; rw [if_neg h0])
    rw [HA.out]
    have hc := HC.out
    rw [code1_no h0'] at hc
    have HC0 := Lib.hid hc
    clear hc HC h0
    go_enter Try.func31, Try.ntmps31
    go_wp2_with fail
    rw [HW.out]
    refine HC0.out.mono ?_
    rintro e w1 ⟨rfl, hb1⟩
    have hv := V3.out.keep hb1
    have q0 := hv.c0
    have q1 := hv.c1
    have q2 := hv.fz 0
    have q3 := hv.fz 1
    obtain ⟨f0, f1, f2, f3⟩ := fin_var (w := w) hv (OwnI.nil _ (w.heap.size + 1 + 1 + 1)) (by omega) (by omega) (below_step HB.out hb1) (.int .i64 0) (.slice none 0 0)
    have F2 := Lib.hid f2
    have F3 := Lib.hid f3
    clear f2 f3 hv
    go_wp2
    exact bodyPost_ret (v := .tuple #[.agg #[.int .i64 0, .slice none 0 0], .int .i64 1]) (by simp [results, Try.results31, go_sem, f0, f1]) rfl ⟨_, rfl, F2.out, F3.out⟩

set_option maxHeartbeats 8000000 in
set_option maxRecDepth 100000 in
theorem sReverseSeries_any (m : Int) (A : Option Addr) (c : Nat) (l : List Int) (w : World) (hl : l.length ≤ 1048576) (hr : RI w A l) :
    Calls Try.prog 32 #[.agg #[.int .i64 m, .slice A l.length c]] w fun e w' => ∃ s, e = .returned (.tuple #[.agg #[.int .i64 (rvsM m l).1, s], .int .i64 (rvsM m l).2.2]) ∧ OwnI w' w.heap.size s (rvsM m l).2.1 ∧ Below w.heap.size w w' := by
  obtain ⟨W, hW, b1, v3, hwb⟩ := spro1 w m A l.length c
  have B1 := Lib.hid b1
  have V3 := Lib.hid v3
  have HB := Lib.hid hwb
  have HW := Lib.hid hW
  have R1 := Lib.hid (hr.below hwb)
  have HC := Lib.hid (l02Is_any m A c l W (by omega) R1.out)
  clear b1 v3 hwb hW hr
  by_cases h0 : isS m l = true
  · obtain ⟨d, e1, s1⟩ := serOk_of h0
    have hcf := isC_ok h0
    have hc := HC.out
    rw [h0] at hc
    have HC0 := Lib.hid hc
    have m1 := s1.m1
    have m2 := s1.m2
    have hd1 := s1.d1
    have HCV := Lib.hid (fun W0 (h : Below W.heap.size W W0) => l02Curve_any m A c l W0 (by omega) (R1.out.below h))
    rw [hcf] at HCV
    obtain ⟨b, off, rfl, hb, hcl⟩ := R1.out.at 1 (by omega)
    obtain ⟨X, hX⟩ : ∃ X, Ser.co l 1 = X := ⟨_, rfl⟩
    obtain ⟨r1, r2⟩ := s1.red 1
    rw [hX] at hcl r1 r2
    have z0 : (1 : Int) < (l.length : Int) := by omega
    have z1 : 1 < l.length := by omega
    have HU := Lib.hid (fun W0 => l01Unit_any m X W0 r1 r2 m2)
    clear hc HC hcf
    by_cases hz : Ser.co l 0 = 0
    · rw [hz] at HCV
      by_cases hg : gcdI X m = 1
      · have HA : Hid (rvsM m l = (m, Ser.revC m (egI m X).2 (Ser.co l) (d - 1), 0)) := Lib.hid (by unfold rvsM; rw [if_pos h0, hX, if_pos ⟨hz, hg⟩, e1]; rfl)
        rw [HA.out]
        have HI := Lib.hid (fun W0 => by have := HU.out W0; rw [show (gcdI X m == 1) = true by rw [hg]; rfl] at this; exact this)
        have HDG := Lib.hid (fun W0 => l02Degree_any m (some ⟨b, off, none⟩) l.length c d W0 e1 (by have := s1.d2; omega))
        have HS := Lib.hid (fun W0 (h0 : Below W.heap.size W W0) => l02Reverse_any m d (some ⟨b, off, none⟩) c l W0 s1 (R1.out.below h0) hz)
        rw [hX] at HS
        obtain ⟨L, hL⟩ : ∃ L, Ser.revC m (egI m X).2 (Ser.co l) (d - 1) = L := ⟨_, rfl⟩
        rw [hL] at HS ⊢
        clear e1 s1 hL h0 hX hg HU hz
        go_enter Try.func32, Try.ntmps32
        go_wp2_with fail
        rw [HW.out]
        refine HC0.out.mono ?_
        rintro e w0 ⟨rfl, hb0⟩
        obtain ⟨x1, x2, x3⟩ := B1.out.keep hb0
        have x4 := (hb0.cell (p := ⟨b, off + 1, none⟩) hb).trans hcl
        have x5 := Nat.lt_of_lt_of_le hb hb0.size
        go_wp2
        go_region_held3 (fun w' => (w'.cell? ⟨w.heap.size, 0, none⟩ = some (.int .i64 m) ∧ w'.cell? ⟨w.heap.size, 1, none⟩ = some (.slice (some ⟨b, off, none⟩) l.length c) ∧ w.heap.size < w'.heap.size) ∧ (w'.cell? ⟨b, off + 1, none⟩ = some (.int .i64 X) ∧ b < w'.heap.size)) (first | exact ⟨⟨x1, x2, x3⟩, x4, x5⟩ | exact bc_call hb1 (by assumption) | exact (by assumption)) (first
          | (go_at_call 71; refine (HCV.out _ (below_step hb0 (below_drew0 _))).mono ?_; rintro e w1 ⟨rfl, hb1⟩)
          | (go_at_call 77; refine (HI.out _).mono ?_; rintro e w2 ⟨rfl, rfl⟩))
        all_goals
          have hb2 := below_step hb0 (below_step (below_drew0 _) hb1)
          clear x1 x2 x3 x4 x5 hb0 hb1
          obtain ⟨w0, hw0⟩ : ∃ w9, w9 = w1 := ⟨_, rfl⟩
          subst hw0
          have hb0 := hb2
          clear hb2
          obtain ⟨x1, x2, x3⟩ := B1.out.keep hb0
          go_wp2
          go_region_held3 (fun w' => w'.cell? ⟨w.heap.size, 0, none⟩ = some (.int .i64 m) ∧ w'.cell? ⟨w.heap.size, 1, none⟩ = some (.slice (some ⟨b, off, none⟩) l.length c) ∧ w.heap.size < w'.heap.size) (first | exact ⟨x1, x2, x3⟩ | exact box_store (by omega) (by assumption) | exact box_call (by assumption) (by assumption)) (first
            | (go_at_call 64; refine (HDG.out _).mono ?_; rintro e1 w1 ⟨rfl, hb1⟩)
            | (go_at_call 82; refine (HS.out _ (below_step (below_step hb0 (below_drew0 _)) hb1)).mono ?_; rintro e2 w2 ⟨s, rfl, ho, hb2⟩; obtain ⟨A2, c2, rfl, _⟩ := ho.form)
            | (go_at_call 62; refine (l02Make_any _ _ _ _ _).mono ?_; rintro e3 w3 ⟨rfl, hb3⟩; have hv := V3.out.keep (below_step (below_step (below_step (below_step hb0 (below_drew0 _)) hb1) hb2) hb3); have q0 := hv.c0; have q1 := hv.c1; have q2 := hv.fz 0; have q3 := hv.fz 1))
          all_goals
            have hw3 := below_step (below_step (below_step (below_step hb0 (below_drew0 _)) hb1) hb2) hb3
            have hz1 := (below_step (below_step hb0 (below_drew0 _)) hb1).size
            have hz2 := V3.out.lt
            obtain ⟨f0, f1, f2, f3⟩ := fin_var (w := w) hv (ho.keep hb3) (by omega) (by omega) (below_step HB.out hw3) (.int .i64 m) (.slice A2 L.length c2)
            have F2 := Lib.hid f2
            have F3 := Lib.hid f3
            clear f2 f3 ho hb0 hb1 hb2 hb3 hv hw3
            go_wp2
            exact bodyPost_ret (v := .tuple #[.agg #[.int .i64 m, .slice A2 L.length c2], .int .i64 0]) (by simp [results, Try.results32, go_sem, f0, f1]) rfl ⟨_, rfl, F2.out, F3.out⟩
      · have HA : Hid (rvsM m l = (0, [], 5)) := Lib.hid (by unfold rvsM; rw [if_pos h0, hX, if_neg (fun h => hg h.2)])
        rw [HA.out]
        have HI := Lib.hid (fun W0 => by have := HU.out W0; rw [show (gcdI X m == 1) = false by simpa using hg] at this; exact this)
        clear e1 s1 h0 hX hg HU hz
        go_enter Try.func32, Try.ntmps32
        go_wp2_with fail
        rw [HW.out]
        refine HC0.out.mono ?_
        rintro e w0 ⟨rfl, hb0⟩
        obtain ⟨x1, x2, x3⟩ := B1.out.keep hb0
        have x4 := (hb0.cell (p := ⟨b, off + 1, none⟩) hb).trans hcl
        have x5 := Nat.lt_of_lt_of_le hb hb0.size
        go_wp2
        go_region_held3 (fun w' => (w'.cell? ⟨w.heap.size, 0, none⟩ = some (.int .i64 m) ∧ w'.cell? ⟨w.heap.size, 1, none⟩ = some (.slice (some ⟨b, off, none⟩) l.length c) ∧ w.heap.size < w'.heap.size) ∧ (w'.cell? ⟨b, off + 1, none⟩ = some (.int .i64 X) ∧ b < w'.heap.size)) (first | exact ⟨⟨x1, x2, x3⟩, x4, x5⟩ | exact bc_call hb1 (by assumption) | exact (by assumption)) (first
          | (go_at_call 71; refine (HCV.out _ (below_step hb0 (below_drew0 _))).mono ?_; rintro e w1 ⟨rfl, hb1⟩)
          | (go_at_call 77; refine (HI.out _).mono ?_; rintro e w2 ⟨rfl, rfl⟩))
        all_goals
          have hb2 := below_step hb0 (below_step (below_drew0 _) hb1)
          clear x1 x2 x3 x4 x5
          have hv := V3.out.keep hb2
          have q0 := hv.c0
          have q1 := hv.c1
          have q2 := hv.fz 0
          have q3 := hv.fz 1
          obtain ⟨f0, f1, f2, f3⟩ := fin_var (w := w) hv (OwnI.nil _ (w.heap.size + 1 + 1 + 1)) (by omega) (by omega) (below_step HB.out hb2) (.int .i64 0) (.slice none 0 0)
          have F2 := Lib.hid f2
          have F3 := Lib.hid f3
          clear f2 f3 hv
          go_wp2
          exact bodyPost_ret (v := .tuple #[.agg #[.int .i64 0, .slice none 0 0], .int .i64 5]) (by simp [results, Try.results32, go_sem, f0, f1]) rfl ⟨_, rfl, F2.out, F3.out⟩
    · have HA : Hid (rvsM m l = (0, [], 5)) := Lib.hid (by unfold rvsM; rw [if_pos h0, if_neg (fun h => hz h.1)])
      rw [HA.out]
      rw [show (Ser.co l 0 == 0) = false by simpa using hz] at HCV
      clear e1 s1 h0 hz hX HU
      go_enter Try.func32, Try.ntmps32
      go_wp2_with fail
      rw [HW.out]
      refine HC0.out.mono ?_
      rintro e w0 ⟨rfl, hb0⟩
      obtain ⟨x1, x2, x3⟩ := B1.out.keep hb0
      have x4 := (hb0.cell (p := ⟨b, off + 1, none⟩) hb).trans hcl
      have x5 := Nat.lt_of_lt_of_le hb hb0.size
      go_wp2
      first
        | (go_region_with (first
            | (go_at_call 71; refine (HCV.out _ (below_step hb0 (below_drew0 _))).mono ?_; rintro e w1 ⟨rfl, hb1⟩)))
        | fail
      all_goals
        have hb2 := below_step hb0 (below_step (below_drew0 _) hb1)
        clear x1 x2 x3 x4 x5
        have hv := V3.out.keep hb2
        have q0 := hv.c0
        have q1 := hv.c1
        have q2 := hv.fz 0
        have q3 := hv.fz 1
        obtain ⟨f0, f1, f2, f3⟩ := fin_var (w := w) hv (OwnI.nil _ (w.heap.size + 1 + 1 + 1)) (by omega) (by omega) (below_step HB.out hb2) (.int .i64 0) (.slice none 0 0)
        have F2 := Lib.hid f2
        have F3 := Lib.hid f3
        clear f2 f3 hv
        go_wp2
        exact bodyPost_ret (v := .tuple #[.agg #[.int .i64 0, .slice none 0 0], .int .i64 5]) (by simp [results, Try.results32, go_sem, f0, f1]) rfl ⟨_, rfl, F2.out, F3.out⟩
  · have h0' : isS m l = false := by simpa using h0
    have HA : Hid (rvsM m l = (0, [], 1)) := Lib.hid (by unfold rvsM; rw [if_neg h0])
    rw [HA.out]
    have hc := HC.out
    rw [h0'] at hc
    have HC0 := Lib.hid hc
    clear hc HC h0
    go_enter Try.func32, Try.ntmps32
    go_wp2_with fail
    rw [HW.out]
    refine HC0.out.mono ?_
    rintro e w1 ⟨rfl, hb1⟩
    have hv := V3.out.keep hb1
    have q0 := hv.c0
    have q1 := hv.c1
    have q2 := hv.fz 0
    have q3 := hv.fz 1
    obtain ⟨f0, f1, f2, f3⟩ := fin_var (w := w) hv (OwnI.nil _ (w.heap.size + 1 + 1 + 1)) (by omega) (by omega) (below_step HB.out hb1) (.int .i64 0) (.slice none 0 0)
    have F2 := Lib.hid f2
    have F3 := Lib.hid f3
    clear f2 f3 hv
    go_wp2
    exact bodyPost_ret (v := .tuple #[.agg #[.int .i64 0, .slice none 0 0], .int .i64 1]) (by simp [results, Try.results32, go_sem, f0, f1]) rfl ⟨_, rfl, F2.out, F3.out⟩
end Go.Proofs.Ytcnkpfikafaocaa
