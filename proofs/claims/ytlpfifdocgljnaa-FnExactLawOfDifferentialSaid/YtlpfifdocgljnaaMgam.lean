/- Texts of contracts, joined. -/
import Derived.Test.YtlpfifdocgljnaaMgak
import Derived.Test.YtlpfifdocgljnaaMgal
import Derived.Test.YtlpfifdocgljnaaMgag
/- Contracts of ReverseSeries, of the program and of the model. -/
namespace Go.Proofs.Ytlpfifdocgljnaa
open Go.RowKit Go.WideShapes Go.ChangeShapes Go.ChangeAt

def rvsM (m : Int) (l : List Int) : Int × List Int × Int :=
  if isS m l = true then (if Ser.co l 0 = 0 ∧ gcdI (Ser.co l 1) m = 1 then (m, Ser.revC m (egI m (Ser.co l 1)).2 (Ser.co l) (l.length - 2), 0) else (0, [], 5)) else (0, [], 1)
theorem rvsM_len (m : Int) (l : List Int) : (rvsM m l).2.1.length ≤ 1048576 := by
  unfold rvsM
  split
  · rename_i h
    obtain ⟨d, e, s⟩ := serOk_of h
    have := s.d2
    split
    · dsimp only; rw [Ser.revC_length]; omega
    · simp
  · simp
theorem unit_mul {m a : Int} (h0 : 0 ≤ a) (ha : a < m) (hg : gcdI a m = 1) : (a * (egI m a).2) % m = 1 % m := by
  obtain ⟨-, hd, -, -⟩ := eg_fact m a h0 ha
  rw [hg] at hd
  exact (Ser.modEq _ _ _).2 hd

/-- the model's list while the reversion is made -/
def rvL (m u : Int) (f : Nat → Int) (d n : Nat) : List Int := Ser.revC m u f n ++ List.replicate (d - 1 - n) 0
theorem rvL_len (m u : Int) (f : Nat → Int) (d n : Nat) (h : n + 1 ≤ d) : (rvL m u f d n).length = d + 1 := by
  unfold rvL; rw [List.length_append, Ser.revC_length, List.length_replicate]; omega
theorem rvL_zero (m u : Int) (f : Nat → Int) (d : Nat) (h : 1 ≤ d) : (List.replicate (d + 1) (0 : Int)).set 1 u = rvL m u f d 0 := by
  obtain ⟨e, rfl⟩ : ∃ e, d = e + 1 := ⟨d - 1, by omega⟩
  unfold rvL Ser.revC
  rw [List.replicate_succ, List.replicate_succ, List.set_cons_succ, List.set_cons_zero]
  rfl
theorem rvL_step (m u : Int) (f : Nat → Int) (d n : Nat) (h : n + 2 ≤ d) : (rvL m u f d n).set (n + 2) ((m - Ser.comp f (Ser.co (rvL m u f d n)) (n + 2) % m) * u % m) = rvL m u f d (n + 1) := by
  have e : Ser.co (rvL m u f d n) = Ser.co (Ser.revC m u f n) := by unfold rvL; rw [Ser.co_pad]
  rw [e]
  unfold rvL
  rw [List.set_append_right _ _ (by rw [Ser.revC_length]; omega), Ser.revC_length, Nat.sub_self, show d - 1 - n = (d - 1 - (n + 1)) + 1 by omega, List.replicate_succ, List.set_cons_zero, Ser.revC, List.append_assoc]
  rfl
theorem rvL_curve (m u : Int) (f : Nat → Int) (d n : Nat) : Ser.co (rvL m u f d n) 0 = 0 := by
  unfold rvL; rw [Ser.co_pad]; exact Ser.revC_curve m u f n
theorem rvL_red {m u : Int} (hm : 0 < m) (h1 : 0 ≤ u) (h2 : u < m) (f : Nat → Int) (d n : Nat) : Ser.Red m (rvL m u f d n) := by
  intro i; unfold rvL; rw [Ser.co_pad]; exact Ser.revC_red hm h1 h2 f n i
theorem rvL_all (m u : Int) (f : Nat → Int) (n : Nat) : rvL m u f (n + 1) n = Ser.revC m u f n := by unfold rvL; simp

set_option maxHeartbeats 8000000 in
set_option maxRecDepth 100000 in
theorem l02Reverse_any (m : Int) (d : Nat) (A : Option Addr) (c : Nat) (l : List Int) (w : World) (hs : SerOk m d l) (hr : RI w A l) (hz : Ser.co l 0 = 0) :
    Calls Try.prog 74 #[.int .i64 m, .slice A l.length c, .int .i64 d] w fun e w' => ∃ v, e = .returned v ∧ OwnI w' w.heap.size v (Ser.revC m (egI m (Ser.co l 1)).2 (Ser.co l) (d - 1)) ∧ Below w.heap.size w w' := by
  have HS := Lib.hid hs
  have HR := Lib.hid hr
  have HZ := Lib.hid hz
  have m1 := hs.m1
  have m2 := hs.m2
  have hd := hs.d2
  have hd1 := hs.d1
  have hlen := hs.len
  have hm0 : ¬ m = 0 := by omega
  have hmk : ∀ W : World, (Instr.makeSlice 25 (.int .i64 ((d : Int) + 1)) (.int .i64 ((d : Int) + 1))).run Try.prog W = .ok (.slice (some ⟨W.heap.size, 0, none⟩) (d + 1) (d + 1)) (W.alloc (.cells (madeCells #[.int .i64 0] (d + 1)) 2)) := by
    intro W
    have := run_make_row' (P := Try.prog) 25 2 (.int .i64 0) 8 Try.underlying25 info64 rfl .i64 .i64 (d + 1) (by omega) (by omega) W
    rwa [show ((d + 1 : Nat) : Int) = (d : Int) + 1 by omega] at this
  obtain ⟨r1, r2⟩ := hs.red 1
  obtain ⟨-, -, u1, u2⟩ := eg_fact m _ r1 r2
  obtain ⟨b0, off0, rfl, hb0, hc0⟩ := (hr.below (below_one w (.cells (madeCells #[.int .i64 0] (d + 1)) 2))).at 1 (by omega)
  obtain ⟨X, hX⟩ : ∃ X, Ser.co l 1 = X := ⟨_, rfl⟩
  rw [hX] at r1 r2 u1 u2 hc0 ⊢
  have HI := Lib.hid (fun W0 => l01Inv_any m X W0 r1 r2 m2)
  obtain ⟨u, hu⟩ : ∃ u, (egI m X).2 = u := ⟨_, rfl⟩
  rw [hu] at u1 u2 HI ⊢
  have ho := OwnI.made w (d + 1) (by unfold maxLen; omega)
  obtain ⟨-, -, o3, o4⟩ := ho.cells
  have q1 := o3 1 (by simp; omega)
  have q2 := o4 1
  have q3 : (List.replicate (d + 1) (0 : Int))[1]?.getD 0 = 0 := by rw [List.getElem?_replicate]; split <;> rfl
  rw [q3] at q1
  have hset := ho.set 1 u
  rw [rvL_zero m u (Ser.co l) d hd1, World.setCell_alloc_at _ _ _ _ _ rfl] at hset
  have HSET := Lib.hid hset
  have z0 : (1 : Int) < (l.length : Int) := by omega
  have z1 : 1 < l.length := by omega
  have z2 : (1 : Int) < (d : Int) + 1 := by omega
  have z3 : 0 < d := by omega
  obtain ⟨f, hf⟩ : ∃ f, Ser.co l = f := ⟨_, rfl⟩
  rw [hf] at HSET ⊢
  have HF := Lib.hid hf
  have HLN := Lib.hid hlen
  clear hs hr hz hu hX hf hlen ho o3 o4 q3 hset
  go_enter Try.func74, Try.ntmps74
  go_wp2_with (go_at_call 75; refine (HI.out _).mono ?_; rintro e w' ⟨rfl, rfl⟩)
  clear q1 q2 hc0
  go_loopw [9, 10] (fun s9 _ wr => ∃ N k : Nat, N = k + 2 ∧ k + 1 ≤ d ∧ s9 = .int .i64 N ∧ OwnI wr w.heap.size (.slice (some ⟨w.heap.size, 0, none⟩) (d + 1) (d + 1)) (rvL m u f d k) ∧ Below w.heap.size w wr) (fun s9 _ _ => d + 2 - (intOf s9).toNat)
  case atStart => exact ⟨2, 0, rfl, by omega, rfl, HSET.out, below_one _ _⟩
  case round =>
    obtain ⟨N, k, hN, hk, rfl, own, hbl⟩ := hrel
    have OW := Lib.hid own
    have HB := Lib.hid hbl
    clear own hbl hmk HSET
    by_cases hlt : N ≤ d
    · have hlt2 : (N : Int) ≤ (d : Int) := by omega
      have hll := rvL_len m u f d k hk
      have ht := l02Compose_any m N (some ⟨b0, off0, none⟩) c l (some ⟨w.heap.size, 0, none⟩) (d + 1) (rvL m u f d k) wr m1 m2 (by omega) (by have := HLN.out; omega) (by have := HLN.out; omega) (by omega) HS.out.red (rvL_red (by omega) u1 u2 f d k) (rvL_curve m u f d k) (HR.out.below HB.out) (ri_len OW.out)
      rw [hll, HF.out] at ht
      have HT := Lib.hid ht
      obtain ⟨L3, hL3⟩ : ∃ L3, Ser.horC m N f (Ser.co (rvL m u f d k)) (N + 1) = L3 := ⟨_, rfl⟩
      have hl3 : L3.length = N + 1 := by rw [← hL3, Ser.horC_length]
      have hcN : Ser.co L3 N = Ser.comp f (Ser.co (rvL m u f d k)) N % m := by
        have e1 := Ser.horC_comp (m := m) (d := N) (a := f) (rvL_curve m u f d k) N (Nat.le_refl _)
        rw [hL3] at e1
        have e2 := Ser.horC_red (m := m) (by omega) N f (Ser.co (rvL m u f d k)) (by rw [← HF.out]; exact HS.out.red) (N + 1) N
        rw [hL3] at e2
        rw [← e1, Int.emod_eq_of_lt e2.1 e2.2]
      have hst := rvL_step m u f d k (by omega)
      rw [← hN, ← hcN] at hst
      obtain ⟨T, hT⟩ : ∃ T, Ser.co L3 N = T := ⟨_, rfl⟩
      have hT1 : 0 ≤ T ∧ T < m := by rw [← hT, hcN]; exact ⟨Int.emod_nonneg _ hm0, Int.emod_lt_of_pos _ (by omega)⟩
      obtain ⟨hT1, hT2⟩ := hT1
      rw [hT] at hst
      rw [hL3] at HT
      obtain ⟨V, hV⟩ : ∃ V, m - T = V := ⟨_, rfl⟩
      rw [hV] at hst
      have p1 : 0 ≤ V * u := Int.mul_nonneg (by omega) u1
      have p2 := (mul_bd (x := V) (y := u) (by omega) (by omega) (by omega) (by omega)).2
      have w1 : IntKind.i64.wrap V = V := by rw [IntKind.wrap_i64]; omega
      have HNN := Lib.hid hN
      have HST := Lib.hid hst
      have HTT := Lib.hid hT
      clear ht hL3 hcN hst hT hN
      go_wp2_with fail
      refine HT.out.mono ?_
      rintro e w3 ⟨s3, rfl, ho3, hb3⟩
      obtain ⟨A3, c3, rfl, r3⟩ := ho3.form
      obtain ⟨b, off, hA3, hb, hc⟩ := r3.at N (by omega)
      subst hA3
      rw [HTT.out] at hc
      have ow := OW.out.keep hb3
      obtain ⟨-, -, o3, o4⟩ := ow.cells
      have d1 := o3 N (by omega)
      have f1 := o4 N
      have hset := ow.set N (V * u % m)
      rw [HST.out] at hset
      have HSE := Lib.hid hset
      have HB3 := Lib.hid ((below_step HB.out hb3).setCell (p := ⟨w.heap.size, N, none⟩) (Nat.le_refl _) (.int .i64 (V * u % m)))
      have j0 : (0 : Int) ≤ (N : Int) := by omega
      have j1 : (N : Int) < (L3.length : Int) := by omega
      have j2 : (N : Int) < (d : Int) + 1 := by omega
      clear ho3 hb3 r3 ow o3 o4 hset hb
      go_wp2
      go_roundw
      case rel => exact ⟨N + 1, k + 1, by have := HNN.out; omega, by have := HNN.out; omega, by first | rfl | go_num, HSE.out, HB3.out⟩
      case measure => simp only [intOf]; omega
    · have hlt2 : ¬ (N : Int) ≤ (d : Int) := by omega
      obtain rfl : d = k + 1 := by omega
      have ow := OW.out
      rw [rvL_all] at ow
      have HO := Lib.hid ow
      clear ow hN hlt
      go_wp2
      go_ret
      exact ⟨_, rfl, HO.out, HB.out⟩

theorem isC_is {m : Int} {l : List Int} (h : isC m l = true) : isS m l = true ∧ Ser.co l 0 = 0 := by
  unfold isC at h
  rw [Bool.and_eq_true] at h
  exact ⟨h.1, by simpa [Ser.co] using h.2⟩
theorem rev_same {m : Int} {d : Nat} {l : List Int} (hs : SerOk m d l) (hz : Ser.co l 0 = 0) (hg : gcdI (Ser.co l 1) m = 1) : (Ser.lagG m (egI m (Ser.co l 1)).2 (Ser.co l) d d).1 = Ser.revC m (egI m (Ser.co l 1)).2 (Ser.co l) (d - 1) := by
  obtain ⟨r1, r2⟩ := hs.red 1
  obtain ⟨-, -, u1, u2⟩ := eg_fact m _ r1 r2
  have hd1 := hs.d1
  have hm := hs.m1
  obtain ⟨n, rfl⟩ : ∃ n, d = n + 1 := ⟨d - 1, by omega⟩
  rw [Nat.add_sub_cancel]
  exact Ser.lagG_revC (by omega) u1 u2 hz (unit_mul r1 r2 hg) n

set_option maxHeartbeats 8000000 in
set_option maxRecDepth 100000 in
theorem ReverseSeries_any (m : Int) (A : Option Addr) (c : Nat) (l : List Int) (w : World) (hl : l.length ≤ 1048576) (hr : RI w A l) :
    Calls Try.prog 80 #[.agg #[.int .i64 m, .slice A l.length c]] w fun e w' => ∃ s, e = .returned (.tuple #[.agg #[.int .i64 (rvsM m l).1, s], .int .i64 (rvsM m l).2.2]) ∧ OwnI w' w.heap.size s (rvsM m l).2.1 ∧ Below w.heap.size w w' := by
  obtain ⟨W, hW, b1, v3, b4, hwb⟩ := pro1 w m A l.length c
  have B1 := Lib.hid b1
  have V3 := Lib.hid v3
  have HB := Lib.hid hwb
  have HW := Lib.hid hW
  have R1 := Lib.hid (hr.below hwb)
  have HC := Lib.hid (codeOfSeries1_any (w.heap.size + 1 + 1) m A c l W (by omega) R1.out b4)
  clear b1 v3 b4 hwb hW hr
  by_cases h0 : isS m l = true
  · obtain ⟨d, e1, s1⟩ := serOk_of h0
    have hcf := isC_ok h0
    have hc := HC.out
    rw [code1_isS h0] at hc
    have HC0 := Lib.hid hc
    have m1 := s1.m1
    have m2 := s1.m2
    have hd1 := s1.d1
    have HCV := Lib.hid (fun W0 (h : Below W.heap.size W W0) => IsCurve_any m A c l W0 (by omega) (R1.out.below h))
    rw [hcf] at HCV
    clear hc HC hcf
    by_cases hz : Ser.co l 0 = 0
    · rw [hz] at HCV
      obtain ⟨b, off, rfl, hb, hcl⟩ := R1.out.at 1 (by omega)
      have hre := rev_same s1 hz
      obtain ⟨X, hX⟩ : ∃ X, Ser.co l 1 = X := ⟨_, rfl⟩
      obtain ⟨r1, r2⟩ := s1.red 1
      rw [hX] at hcl r1 r2 hre
      have z0 : (1 : Int) < (l.length : Int) := by omega
      have z1 : 1 < l.length := by omega
      by_cases hg : gcdI X m = 1
      · have HA : Hid (rvsM m l = (m, Ser.revC m (egI m X).2 (Ser.co l) (d - 1), 0)) := Lib.hid (by unfold rvsM; rw [if_pos h0, hX, if_pos ⟨hz, hg⟩, e1]; rfl)
        rw [HA.out, ← hre hg]
        obtain ⟨-, -, u1, u2⟩ := eg_fact m X r1 r2
        have hiv := invM_unit m1 m2 r1 r2 hg
        obtain ⟨u, hu⟩ : ∃ u, (egI m X).2 = u := ⟨_, rfl⟩
        rw [hu] at hiv u1 u2 ⊢
        have HI := Lib.hid (fun W0 => by have := InverseModulo_any m X W0; rw [hiv] at this; exact this)
        have HS := Lib.hid (fun W0 (h0 : Below W.heap.size W W0) => reversed_any m d (some ⟨b, off, none⟩) c l u W0 s1 (R1.out.below h0) u1 u2)
        obtain ⟨L, hL⟩ : ∃ L, (Ser.lagG m u (Ser.co l) d d).1 = L := ⟨_, rfl⟩
        rw [hL] at HS ⊢
        clear e1 s1 hL h0 hu hiv hX hg hre hz
        go_enter Try.func80, Try.ntmps80
        go_wp2_with fail
        rw [HW.out]
        refine HC0.out.mono ?_
        rintro e w0 ⟨rfl, hb0⟩
        obtain ⟨x1, x2⟩ := box_in B1.out hb0
        go_wp2_with fail
        refine (HCV.out _ hb0).mono ?_
        rintro e w1 ⟨rfl, hb9⟩
        have hb1 := below_step hb0 hb9
        clear x1 x2 hb0 hb9
        obtain ⟨x1, x2, x3⟩ := B1.out.keep hb1
        have x4 := (hb1.cell (p := ⟨b, off + 1, none⟩) hb).trans hcl
        have x5 := Nat.lt_of_lt_of_le hb hb1.size
        go_wp2
        go_region_held3 (fun w' => (w'.cell? ⟨w.heap.size, 0, none⟩ = some (.int .i64 m) ∧ w'.cell? ⟨w.heap.size, 1, none⟩ = some (.slice (some ⟨b, off, none⟩) l.length c) ∧ w.heap.size < w'.heap.size) ∧ (w'.cell? ⟨b, off + 1, none⟩ = some (.int .i64 X) ∧ b < w'.heap.size)) (first | exact ⟨⟨x1, x2, x3⟩, x4, x5⟩ | exact bc_call hb2 (by assumption) | exact (by assumption)) (first
          | (go_at_call 104; refine (HI.out _).mono ?_; rintro e w2 ⟨rfl, hb2⟩))
        all_goals
          have hb3 := below_step hb1 (below_step (below_drew0 _) hb2)
          clear x1 x2 x3 x4 x5
          obtain ⟨x1, x2⟩ := box_in B1.out hb3
          go_wp2_with fail
          refine (HS.out _ hb3).mono ?_
          rintro e w4 ⟨s, rfl, ho, hb4⟩
          obtain ⟨A2, c2, rfl, _⟩ := ho.form
          have hv := V3.out.keep (below_step hb3 hb4)
          have q0 := hv.c0
          have q1 := hv.c1
          have q2 := hv.fz 0
          have q3 := hv.fz 1
          obtain ⟨f0, f1, f2, f3⟩ := fin_var (w := w) hv ho (by have := V3.out.lt; have := (hb3).size; omega) (by omega) (below_step HB.out (below_step hb3 hb4)) (.int .i64 m) (.slice A2 L.length c2)
          have F2 := Lib.hid f2
          have F3 := Lib.hid f3
          clear f2 f3 hv
          go_wp2
          exact bodyPost_ret (v := .tuple #[.agg #[.int .i64 m, .slice A2 L.length c2], .int .i64 0]) (by simp [results, Try.results80, go_sem, f0, f1]) rfl ⟨_, rfl, F2.out, F3.out⟩
      · have HA : Hid (rvsM m l = (0, [], 5)) := Lib.hid (by unfold rvsM; rw [if_pos h0, hX, if_neg (fun h => hg h.2)])
        rw [HA.out]
        have hiv := invM_not m1 m2 r1 r2 hg
        have HI := Lib.hid (fun W0 => by have := InverseModulo_any m X W0; rw [hiv] at this; exact this)
        clear e1 s1 h0 hiv hX hg hre hz
        go_enter Try.func80, Try.ntmps80
        go_wp2_with fail
        rw [HW.out]
        refine HC0.out.mono ?_
        rintro e w0 ⟨rfl, hb0⟩
        obtain ⟨x1, x2⟩ := box_in B1.out hb0
        go_wp2_with fail
        refine (HCV.out _ hb0).mono ?_
        rintro e w1 ⟨rfl, hb9⟩
        have hb1 := below_step hb0 hb9
        clear x1 x2 hb0 hb9
        obtain ⟨x1, x2, x3⟩ := B1.out.keep hb1
        have x4 := (hb1.cell (p := ⟨b, off + 1, none⟩) hb).trans hcl
        have x5 := Nat.lt_of_lt_of_le hb hb1.size
        go_wp2
        go_region_held3 (fun w' => (w'.cell? ⟨w.heap.size, 0, none⟩ = some (.int .i64 m) ∧ w'.cell? ⟨w.heap.size, 1, none⟩ = some (.slice (some ⟨b, off, none⟩) l.length c) ∧ w.heap.size < w'.heap.size) ∧ (w'.cell? ⟨b, off + 1, none⟩ = some (.int .i64 X) ∧ b < w'.heap.size)) (first | exact ⟨⟨x1, x2, x3⟩, x4, x5⟩ | exact bc_call hb2 (by assumption) | exact (by assumption)) (first
          | (go_at_call 104; refine (HI.out _).mono ?_; rintro e w2 ⟨rfl, hb2⟩))
        all_goals
          have hb3 := below_step hb1 (below_step (below_drew0 _) hb2)
          clear x1 x2 x3 x4 x5
          have hv := V3.out.keep hb3
          have q0 := hv.c0
          have q1 := hv.c1
          have q2 := hv.fz 0
          have q3 := hv.fz 1
          obtain ⟨f0, f1, f2, f3⟩ := fin_var (w := w) hv (OwnI.nil _ (w.heap.size + 1 + 1 + 1)) (by omega) (by omega) (below_step HB.out hb3) (.int .i64 0) (.slice none 0 0)
          have F2 := Lib.hid f2
          have F3 := Lib.hid f3
          clear f2 f3 hv
          go_wp2
          exact bodyPost_ret (v := .tuple #[.agg #[.int .i64 0, .slice none 0 0], .int .i64 5]) (by simp [results, Try.results80, go_sem, f0, f1]) rfl ⟨_, rfl, F2.out, F3.out⟩
    · have HA : Hid (rvsM m l = (0, [], 5)) := Lib.hid (by unfold rvsM; rw [if_pos h0, if_neg (fun h => hz h.1)])
      rw [HA.out]
      rw [show (Ser.co l 0 == 0) = false by simpa using hz] at HCV
      clear e1 s1 h0 hz
      go_enter Try.func80, Try.ntmps80
      go_wp2_with fail
      rw [HW.out]
      refine HC0.out.mono ?_
      rintro e w0 ⟨rfl, hb0⟩
      obtain ⟨x1, x2⟩ := box_in B1.out hb0
      go_wp2_with fail
      refine (HCV.out _ hb0).mono ?_
      rintro e w1 ⟨rfl, hb9⟩
      have hb1 := below_step hb0 hb9
      clear x1 x2 hb0 hb9
      have hv := V3.out.keep hb1
      have q0 := hv.c0
      have q1 := hv.c1
      have q2 := hv.fz 0
      have q3 := hv.fz 1
      obtain ⟨f0, f1, f2, f3⟩ := fin_var (w := w) hv (OwnI.nil _ (w.heap.size + 1 + 1 + 1)) (by omega) (by omega) (below_step HB.out hb1) (.int .i64 0) (.slice none 0 0)
      have F2 := Lib.hid f2
      have F3 := Lib.hid f3
      clear f2 f3 hv
      go_wp2
      exact bodyPost_ret (v := .tuple #[.agg #[.int .i64 0, .slice none 0 0], .int .i64 5]) (by simp [results, Try.results80, go_sem, f0, f1]) rfl ⟨_, rfl, F2.out, F3.out⟩
  · have h0' : isS m l = false := by simpa using h0
    have HA : Hid (rvsM m l = (0, [], 1)) := Lib.hid (by unfold rvsM; rw [if_neg h0])
    rw [HA.out]
    have hc := HC.out
    rw [code1_no h0'] at hc
    have HC0 := Lib.hid hc
    clear hc HC h0
    go_enter Try.func80, Try.ntmps80
    go_wp2_with fail
    rw [HW.out]
    refine HC0.out.mono ?_
    rintro e w1 ⟨rfl, hb1⟩
    have hv := V3.out.keep hb1
    have q0 := hv.c0
    have q1 := hv.c1
    have q2 := hv.fz 0
    have q3 := hv.fz 1
    obtain ⟨f0, f1, f2, f3⟩ := fin_var (w := w) hv (OwnI.nil _ (w.heap.size + 1 + 1 + 1)) (by omega) (by omega) (below_step HB.out hb1) (.int .i64 0) (.slice none 0 0)
    have F2 := Lib.hid f2
    have F3 := Lib.hid f3
    clear f2 f3 hv
    go_wp2
    exact bodyPost_ret (v := .tuple #[.agg #[.int .i64 0, .slice none 0 0], .int .i64 1]) (by simp [results, Try.results80, go_sem, f0, f1]) rfl ⟨_, rfl, F2.out, F3.out⟩

end Go.Proofs.Ytlpfifdocgljnaa

/- Contracts of IntegrateSeries, of the program. -/
namespace Go.Proofs.Ytlpfifdocgljnaa
open Go.RowKit Go.WideShapes Go.ChangeShapes Go.ChangeAt

/-- the numbers 1 to n are units -/
def allU (m : Int) (n : Nat) : Bool := (List.range n).all fun i => gcdI ((i : Int) + 1) m == 1
theorem allU_succ (m : Int) (n : Nat) : allU m (n + 1) = (allU m n && (gcdI ((n : Int) + 1) m == 1)) := by
  unfold allU; rw [List.range_succ, List.all_append]; simp
theorem allU_le {m : Int} {n k : Nat} (h : allU m n = true) (hk : k ≤ n) : allU m k = true := by
  unfold allU at h ⊢
  rw [List.all_eq_true] at h ⊢
  intro i hi
  exact h i (List.mem_range.2 (Nat.lt_of_lt_of_le (List.mem_range.1 hi) hk))
theorem allU_at {m : Int} {n k : Nat} (h : allU m n = true) (hk : k < n) : gcdI ((k : Int) + 1) m = 1 := by
  unfold allU at h
  rw [List.all_eq_true] at h
  simpa using h k (List.mem_range.2 hk)
theorem allU_not {m : Int} {n k : Nat} (hk : k < n) (h : ¬ gcdI ((k : Int) + 1) m = 1) : allU m n = false := by
  rw [← Bool.not_eq_true]
  exact fun e => h (allU_at e hk)
theorem allU_lt {m : Int} {n : Nat} (h : allU m n = true) (hm : 2 ≤ m) : (n : Int) < m := by
  by_cases hn : (n : Int) < m
  · exact hn
  · obtain ⟨k, hk⟩ : ∃ k : Nat, m = (k : Int) + 1 := ⟨(m - 1).toNat, by omega⟩
    have := allU_at h (k := k) (by omega)
    rw [← hk] at this
    unfold gcdI at this
    rw [Nat.gcd_self] at this
    omega
theorem gcdI_mod (i m : Int) (hi : 0 ≤ i) (hm : 0 < m) : gcdI (i % m) m = gcdI i m := by
  obtain ⟨a, rfl⟩ := Int.eq_ofNat_of_zero_le hi
  obtain ⟨b, rfl⟩ := Int.eq_ofNat_of_zero_le (show 0 ≤ m by omega)
  unfold gcdI
  rw [emod_nat, Int.natAbs_natCast, Int.natAbs_natCast, Int.natAbs_natCast]
  congr 1
  rw [← Nat.gcd_rec, Nat.gcd_comm]

def inv1 (m : Int) (i : Nat) : Int := (egI m ((i : Int) % m)).2
/-- the list of inverses, made up to k -/
def ivP (m : Int) (n k : Nat) : List Int := (List.range (n + 1)).map fun i => if 1 ≤ i ∧ i ≤ k then inv1 m i else 0
theorem ivP_len (m : Int) (n k : Nat) : (ivP m n k).length = n + 1 := by simp [ivP]
theorem ivP_at (m : Int) (n k i : Nat) (h : i ≤ n) : Ser.co (ivP m n k) i = if 1 ≤ i ∧ i ≤ k then inv1 m i else 0 := by
  unfold Ser.co ivP
  rw [List.getElem?_map, List.getElem?_range (by omega)]; rfl
theorem ivP_zero (m : Int) (n : Nat) : ivP m n 0 = List.replicate (n + 1) 0 := by
  refine Ser.list_ext (by simp [ivP]) (fun i hi => ?_)
  rw [ivP_len] at hi
  rw [ivP_at _ _ _ _ (by omega), if_neg (by omega), Ser.co_zeros]
theorem ivP_step (m : Int) (n k : Nat) (h : k + 1 ≤ n) : (ivP m n k).set (k + 1) (inv1 m (k + 1)) = ivP m n (k + 1) := by
  refine Ser.list_ext (by rw [List.length_set, ivP_len, ivP_len]) (fun i hi => ?_)
  rw [List.length_set, ivP_len] at hi
  rw [Ser.co_set (by rw [ivP_len]; omega), ivP_at _ _ _ _ (by omega), ivP_at _ _ _ _ (by omega)]
  by_cases e : i = k + 1
  · rw [if_pos e, if_pos (by omega), e]
  · rw [if_neg e]
    by_cases c : 1 ≤ i ∧ i ≤ k
    · rw [if_pos c, if_pos (by omega)]
    · rw [if_neg c, if_neg (by omega)]
theorem inv1_bd {m : Int} (hm : 2 ≤ m) (i : Nat) : 0 ≤ inv1 m i ∧ inv1 m i < m := by
  obtain ⟨-, -, u1, u2⟩ := eg_fact m ((i : Int) % m) (Int.emod_nonneg _ (by omega)) (Int.emod_lt_of_pos _ (by omega))
  exact ⟨u1, u2⟩
theorem invM_i {m : Int} (h1 : 2 ≤ m) (h2 : m ≤ 10000) (k : Nat) : invM m ((((k + 1 : Nat) : Int)) % m) = if gcdI ((k : Int) + 1) m = 1 then (inv1 m (k + 1), 0) else (0, 5) := by
  have e : ((k + 1 : Nat) : Int) = (k : Int) + 1 := by omega
  have b1 := Int.emod_nonneg (((k + 1 : Nat) : Int)) (show m ≠ 0 by omega)
  have b2 := Int.emod_lt_of_pos (((k + 1 : Nat) : Int)) (show 0 < m by omega)
  have hgm := gcdI_mod ((k + 1 : Nat) : Int) m (by omega) (by omega)
  by_cases hg : gcdI ((k : Int) + 1) m = 1
  · rw [if_pos hg, invM_unit h1 h2 b1 b2 (by rw [hgm, e, hg])]; rfl
  · rw [if_neg hg, invM_not h1 h2 b1 b2 (by rw [hgm, e]; exact hg)]

set_option maxHeartbeats 4000000 in
theorem inversesUpTo_any (m : Int) (n : Nat) (w : World) (m1 : 2 ≤ m) (m2 : m ≤ 10000) (hn : n ≤ 1000) :
    Calls Try.prog 77 #[.int .i64 m, .int .i64 n] w fun e w' => ∃ v, e = .returned (.tuple #[v, .bool (allU m n)]) ∧ (allU m n = true → OwnI w' w.heap.size v (ivP m n n)) ∧ (∃ A c k, v = .slice A k c) ∧ Below w.heap.size w w' := by
  have hm0 : ¬ m = 0 := by omega
  have hmk : ∀ W : World, (Instr.makeSlice 25 (.int .i64 ((n : Int) + 1)) (.int .i64 ((n : Int) + 1))).run Try.prog W = .ok (.slice (some ⟨W.heap.size, 0, none⟩) (n + 1) (n + 1)) (W.alloc (.cells (madeCells #[.int .i64 0] (n + 1)) 2)) := by
    intro W
    have := run_make_row' (P := Try.prog) 25 2 (.int .i64 0) 8 Try.underlying25 info64 rfl .i64 .i64 (n + 1) (by omega) (by omega) W
    rwa [show ((n + 1 : Nat) : Int) = (n : Int) + 1 by omega] at this
  have HO := Lib.hid (OwnI.made w (n + 1) (by unfold maxLen; omega))
  go_enter Try.func77, Try.ntmps77
  go_wp2
  go_loopw [7, 8, 9] (fun s7 _ _ wr => ∃ N k : Nat, N = k + 1 ∧ k ≤ n ∧ s7 = .int .i64 N ∧ allU m k = true ∧ OwnI wr w.heap.size (.slice (some ⟨w.heap.size, 0, none⟩) (n + 1) (n + 1)) (ivP m n k) ∧ Below w.heap.size w wr) (fun s7 _ _ _ => n + 2 - (intOf s7).toNat)
  case atStart => exact ⟨1, 0, rfl, Nat.zero_le _, rfl, rfl, by rw [ivP_zero]; exact HO.out, below_one _ _⟩
  case round =>
    obtain ⟨N, k, hN, hk, rfl, hall, own, hbl⟩ := hrel
    have OW := Lib.hid own
    have HB := Lib.hid hbl
    have HALL := Lib.hid hall
    have hsz : w.heap.size < wr.heap.size := (own.lt w.heap.size rfl).2
    clear own hbl hall hmk HO
    by_cases hlt : N ≤ n
    · have hlt2 : (N : Int) ≤ (n : Int) := by omega
      have hiv := invM_i m1 m2 k
      rw [← hN] at hiv
      have b1 := Int.emod_nonneg ((N : Int)) hm0
      obtain ⟨R, hR⟩ : ∃ R, ((N : Int)) % m = R := ⟨_, rfl⟩
      rw [hR] at hiv b1
      have hR2 : ((N : Int)).tmod m = R := by rw [Int.tmod_eq_emod_of_nonneg (by omega)]; exact hR
      have hi := fun W0 => InverseModulo_any m R W0
      by_cases hg : gcdI ((k : Int) + 1) m = 1
      · rw [if_pos hg] at hiv
        rw [hiv] at hi
        obtain ⟨I, hI⟩ : ∃ I, inv1 m N = I := ⟨_, rfl⟩
        have hst := ivP_step m n k (by omega)
        rw [← hN, hI] at hst
        rw [hI] at hi
        have HI := Lib.hid hi
        have HST := Lib.hid hst
        have hall2 : allU m N = true := by rw [hN, allU_succ, HALL.out, hg]; rfl
        have HA2 := Lib.hid hall2
        clear hi hst hiv hI hg hall2 hN
        go_wp2_with fail
        refine (HI.out _).mono ?_
        rintro e w3 ⟨rfl, hb3⟩
        have ow := OW.out.keep hb3
        obtain ⟨-, -, o3, o4⟩ := ow.cells
        have d1 := o3 N (by rw [ivP_len]; omega)
        have f1 := o4 N
        have hset := ow.set N I
        rw [HST.out] at hset
        have HSE := Lib.hid hset
        have HB3 := Lib.hid ((below_step HB.out hb3).setCell (p := ⟨w.heap.size, N, none⟩) (Nat.le_refl _) (.int .i64 I))
        have j0 : (0 : Int) ≤ (N : Int) := by omega
        have j2 : (N : Int) < (n : Int) + 1 := by omega
        clear hb3 ow o3 o4 hset
        go_wp2
        go_roundw
        case rel => exact ⟨N + 1, N, rfl, hlt, by first | rfl | go_num, HA2.out, HSE.out, HB3.out⟩
        case measure => simp only [intOf]; omega
      · rw [if_neg hg] at hiv
        rw [hiv] at hi
        have HI := Lib.hid hi
        have hno := allU_not (m := m) (n := n) (k := k) (by omega) hg
        have HNO := Lib.hid hno
        clear hi hiv hg hN hno
        go_wp2_with fail
        refine (HI.out _).mono ?_
        rintro e w3 ⟨rfl, hb3⟩
        have HB3 := Lib.hid (below_step HB.out hb3)
        clear hb3
        go_wp2
        go_ret2
        exact ⟨.slice none 0 0, by rw [HNO.out]; rfl, (fun h => by rw [HNO.out] at h; cases h), ⟨_, _, _, rfl⟩, HB3.out⟩
    · have hlt2 : ¬ (N : Int) ≤ (n : Int) := by omega
      obtain rfl : k = n := by omega
      clear hN hlt
      go_wp2
      go_ret2
      exact ⟨.slice (some ⟨w.heap.size, 0, none⟩) (k + 1) (k + 1), by rw [HALL.out]; rfl, (fun _ => OW.out), ⟨_, _, _, rfl⟩, HB.out⟩

def insF (m : Int) (l : List Int) (n : Nat) : Int := if n = 0 then 0 else Ser.co l (n - 1) * inv1 m n
def insL (m : Int) (l : List Int) : List Int := Ser.cut m l.length (insF m l)
def insM (m : Int) (l : List Int) : Int × List Int × Int :=
  if isS m l = true then (if l.length ≤ 10 ∧ allU m l.length = true then (m, insL m l, 0) else (0, [], 5)) else (0, [], 1)
theorem insM_len (m : Int) (l : List Int) : (insM m l).2.1.length ≤ 1048576 := by
  unfold insM
  split
  · split
    · rename_i h
      dsimp only; unfold insL; rw [Ser.cut_length]; omega
    · simp
  · simp
/-- a block of one slice -/
def Cls (w : World) (g : Nat) (x : Value) : Prop := w.cell? ⟨g, 0, none⟩ = some x ∧ g < w.heap.size
theorem Cls.new (w : World) (x : Value) (t : TypeId) : Cls (w.alloc (.cells #[x] t)) w.heap.size x := by
  refine ⟨?_, by simp⟩
  rw [World.cell?_alloc_at _ _ _ _ rfl]; rfl
theorem Cls.keep {w w' : World} {g : Nat} {x : Value} (h : Cls w g x) (hb : Below w.heap.size w w') : Cls w' g x :=
  ⟨(hb.cell (p := ⟨g, 0, none⟩) h.2).trans h.1, Nat.lt_of_lt_of_le h.2 hb.size⟩

set_option maxHeartbeats 1000000 in
theorem integrateC_any (n : Nat) (g g' : Nat) (m : Int) (d : Nat) (A : Option Addr) (c : Nat) (l : List Int) (A' : Option Addr) (c' : Nat) (W : World)
    (hb : Box W g m A l.length c) (hb' : Cls W g' (.slice A' (l.length + 1) c')) (hs : SerOk m d l) (hr : RI W A l) (hr' : RI W A' (ivP m l.length l.length)) (h1 : n ≤ l.length) :
    Calls Try.prog 79 #[.int .i64 n, .pointer (some ⟨g, 0, none⟩), .pointer (some ⟨g', 0, none⟩)] W fun e w' => e = .returned (.int .i64 (insF m l n)) ∧ Below W.heap.size W w' := by
  obtain ⟨x1, x2, _⟩ := hb
  obtain ⟨y1, _⟩ := hb'
  by_cases h0 : n = 0
  · subst h0
    clear hr hr'
    go_enter Try.func79, Try.ntmps79
    go_wp2
    go_ret
    exact ⟨rfl, Below.refl _ _⟩
  · have hn0 : ¬ (n : Int) = 0 := by omega
    obtain ⟨n1, n2⟩ := ne_facts hn0
    obtain ⟨k, hk⟩ : ∃ k, k = n - 1 := ⟨_, rfl⟩
    obtain ⟨b, off, rfl, hlt, hc⟩ := hr.at k (by omega)
    obtain ⟨b', off', rfl, hlt', hc'⟩ := hr'.at n (by rw [ivP_len]; omega)
    rw [ivP_at _ _ _ _ h1, if_pos (by omega)] at hc'
    have hF : insF m l n = Ser.co l k * inv1 m n := by unfold insF; rw [if_neg h0, hk]
    obtain ⟨X, hX⟩ : ∃ X, Ser.co l k = X := ⟨_, rfl⟩
    obtain ⟨Y, hY⟩ : ∃ Y, inv1 m n = Y := ⟨_, rfl⟩
    have b1 := hs.red k
    have b2 := inv1_bd hs.m1 n
    have m2 := hs.m2
    have hd := hs.d2
    have hlen := hs.len
    rw [hX] at hc b1 hF
    rw [hY] at hc' b2 hF
    obtain ⟨p1, p2⟩ := mul_bd (x := X) (y := Y) b1.1 (by omega) (by omega) (by omega)
    have j1 : (0 : Int) ≤ (n : Int) - 1 := by omega
    have j2 : (n : Int) - 1 < (l.length : Int) := by omega
    have j3 : ((n : Int) - 1).toNat = k := by omega
    have j4 : (n : Int) < (l.length : Int) + 1 := by omega
    have j6 : (0 : Int) ≤ (n : Int) := by omega
    have w1 : IntKind.i64.wrap ((n : Int) - 1) = (n : Int) - 1 := by rw [IntKind.wrap_i64]; omega
    have j5 : (n : Int) - 1 = (k : Int) := by omega
    have HF := Lib.hid hF
    clear hr hr' hX hY hF hk hs hn0 hlen b1 b2
    rw [j5] at j1 j2 j3 w1
    go_enter Try.func79, Try.ntmps79
    go_wp2
    go_quiet (fail)
    go_wp2
    go_ret
    exact ⟨ret_int HF.out.symm, below_drewN (Below.refl _ _) _⟩

theorem insF_bd {m : Int} {d : Nat} {l : List Int} (hs : SerOk m d l) (n : Nat) : 0 ≤ insF m l n ∧ insF m l n ≤ 100000000 := by
  unfold insF
  split
  · omega
  · have b1 := hs.red (n - 1)
    have b2 := inv1_bd hs.m1 n
    have := hs.m2
    exact ⟨Int.mul_nonneg b1.1 b2.1, (mul_bd b1.1 (by omega) (by omega) (by omega)).2⟩

set_option maxHeartbeats 8000000 in
set_option maxRecDepth 100000 in
theorem IntegrateSeries_any (m : Int) (A : Option Addr) (c : Nat) (l : List Int) (w : World) (hl : l.length ≤ 1048576) (hr : RI w A l) :
    Calls Try.prog 45 #[.agg #[.int .i64 m, .slice A l.length c]] w fun e w' => ∃ s, e = .returned (.tuple #[.agg #[.int .i64 (insM m l).1, s], .int .i64 (insM m l).2.2]) ∧ OwnI w' w.heap.size s (insM m l).2.1 ∧ Below w.heap.size w w' := by
  obtain ⟨W, hW, b1, v3, b4, hwb⟩ := pro1 w m A l.length c
  have B1 := Lib.hid b1
  have V3 := Lib.hid v3
  have HB := Lib.hid hwb
  have HW := Lib.hid hW
  have R1 := Lib.hid (hr.below hwb)
  have HC := Lib.hid (codeOfSeries1_any (w.heap.size + 1 + 1) m A c l W (by omega) R1.out b4)
  clear b1 v3 b4 hwb hW hr
  by_cases h0 : isS m l = true
  · obtain ⟨d, e1, s1⟩ := serOk_of h0
    have hc := HC.out
    rw [code1_isS h0] at hc
    have HC0 := Lib.hid hc
    have m1 := s1.m1
    have m2 := s1.m2
    have hd2 := s1.d2
    obtain ⟨D1, hD1⟩ : ∃ D1 : Int, D1 = (d : Int) := ⟨_, rfl⟩
    have HDG := Lib.hid (fun W0 => by have := degree_nat m A l.length c d W0 e1 (by omega); rw [← hD1] at this; exact this)
    obtain ⟨n, hn⟩ : ∃ n, n = l.length := ⟨_, rfl⟩
    have hD2 : D1 + 1 = (n : Int) := by omega
    have w9 : IntKind.i64.wrap (n : Int) = (n : Int) := by rw [IntKind.wrap_i64]; omega
    have hIV := fun W0 => inversesUpTo_any m n W0 m1 m2 (by omega)
    clear hc HC
    by_cases hall : allU m n = true
    · rw [hall] at hIV
      have HIV := Lib.hid hIV
      by_cases h10 : n ≤ 10
      · have HA : Hid (insM m l = (m, insL m l, 0)) := Lib.hid (by unfold insM; rw [if_pos h0, if_pos ⟨by omega, by rw [← hn]; exact hall⟩])
        rw [HA.out]
        have HS := Lib.hid (fun W0 (h0 : Below W.heap.size W W0) g' A' c' (hcl : Cls W0 g' (.slice A' (n + 1) c')) (ri : RI W0 A' (ivP m n n)) => seriesOf_any m n 79 #[.pointer (some ⟨w.heap.size, 0, none⟩), .pointer (some ⟨g', 0, none⟩)] (insF m l) W0 (by omega) m2 (by omega)
          (fun k hk => by have := insF_bd s1 k; omega)
          (enters_fn Try.func79 (of_decide_eq_true (by kernel_rfl)) rfl)
          (fun k W1 hk hb => by
            have hb2 := h0.trans (hb.mono h0.size)
            rw [hn] at hcl ri hk
            exact integrateC_any k _ _ m d A c l A' c' W1 (B1.out.keep hb2) (hcl.keep hb) s1 (R1.out.below hb2) (ri.below hb) hk))
        obtain ⟨L, hL⟩ : ∃ L, insL m l = L := ⟨_, rfl⟩
        have hL2 : Ser.cut m n (insF m l) = L := by rw [hn]; exact hL
        rw [hL2] at HS
        rw [hL]
        have h10' : (n : Int) ≤ 10 := by omega
        clear hL hL2 e1 s1 h0 hD1 hn hall hIV
        go_enter Try.func45, Try.ntmps45
        go_wp2_with fail
        rw [HW.out]
        refine HC0.out.mono ?_
        rintro e w0 ⟨rfl, hb0⟩
        obtain ⟨x1, x2⟩ := box_in B1.out hb0
        go_wp2_with fail
        refine (HDG.out _).mono ?_
        rintro e w1 ⟨rfl, hb1⟩
        have hb2 := below_step hb0 hb1
        clear x1 x2 hb0 hb1
        obtain ⟨x1, x2⟩ := box_in B1.out hb2
        go_wp2_with fail
        refine (HIV.out _).mono ?_
        rintro e w3 ⟨v, rfl, hown, ⟨Ai, ci, ki, rfl⟩, hb3⟩
        have ho := hown (by first | trivial | rfl)
        obtain ⟨A9, c9, he, hri⟩ := ho.form
        rw [ivP_len] at he
        injection he with he1 he2 he3
        subst he1 he2 he3
        have hb4 := below_step hb2 hb3
        have hb5 := below_alloc (.cells #[.slice Ai (n + 1) ci] 25) hb4
        clear x1 x2 hown ho hb2 hb3
        have hcls := Cls.new w3 (.slice Ai (n + 1) ci) 25
        have hri2 := hri.below (below_one w3 (.cells #[.slice Ai (n + 1) ci] 25))
        obtain ⟨x1, x2⟩ := box_in B1.out hb5
        have HS2 := Lib.hid (HS.out _ hb5 _ _ _ hcls hri2)
        have HB5 := Lib.hid hb5
        have hz5 := hb5.size
        clear hb4 hcls hri2 hri hb5
        go_wp2_with fail
        refine HS2.out.mono ?_
        rintro e w6 ⟨s, rfl, ho, hb6⟩
        obtain ⟨A2, c2, rfl, _⟩ := ho.form
        have hv := V3.out.keep (below_step HB5.out hb6)
        have q0 := hv.c0
        have q1 := hv.c1
        have q2 := hv.fz 0
        have q3 := hv.fz 1
        obtain ⟨f0, f1, f2, f3⟩ := fin_var (w := w) hv ho (by have := V3.out.lt; have := (HB5.out).size; omega) (by omega) (below_step HB.out (below_step HB5.out hb6)) (.int .i64 m) (.slice A2 L.length c2)
        have F2 := Lib.hid f2
        have F3 := Lib.hid f3
        clear f2 f3 hv
        go_wp2
        exact bodyPost_ret (v := .tuple #[.agg #[.int .i64 m, .slice A2 L.length c2], .int .i64 0]) (by simp [results, Try.results45, go_sem, f0, f1]) rfl ⟨_, rfl, F2.out, F3.out⟩
      · have HA : Hid (insM m l = (0, [], 5)) := Lib.hid (by unfold insM; rw [if_pos h0, if_neg (fun h => by omega)])
        rw [HA.out]
        have h10' : ¬ (n : Int) ≤ 10 := by omega
        have h11' : (10 : Int) < (n : Int) := by omega
        clear e1 s1 h0 hD1 hn hall hIV h10
        go_enter Try.func45, Try.ntmps45
        go_wp2_with fail
        rw [HW.out]
        refine HC0.out.mono ?_
        rintro e w0 ⟨rfl, hb0⟩
        obtain ⟨x1, x2⟩ := box_in B1.out hb0
        go_wp2_with fail
        refine (HDG.out _).mono ?_
        rintro e w1 ⟨rfl, hb1⟩
        have hb2 := below_step hb0 hb1
        clear x1 x2 hb0 hb1
        obtain ⟨x1, x2⟩ := box_in B1.out hb2
        go_wp2_with fail
        refine (HIV.out _).mono ?_
        rintro e w3 ⟨v, rfl, -, ⟨Ai, ci, ki, rfl⟩, hb3⟩
        have hb5 := below_alloc (.cells #[.slice Ai ki ci] 25) (below_step hb2 hb3)
        clear x1 x2 hb2 hb3
        have hv := V3.out.keep hb5
        have q0 := hv.c0
        have q1 := hv.c1
        have q2 := hv.fz 0
        have q3 := hv.fz 1
        obtain ⟨f0, f1, f2, f3⟩ := fin_var (w := w) hv (OwnI.nil _ (w.heap.size + 1 + 1 + 1)) (by omega) (by omega) (below_step HB.out hb5) (.int .i64 0) (.slice none 0 0)
        have F2 := Lib.hid f2
        have F3 := Lib.hid f3
        clear f2 f3 hv
        go_wp2
        exact bodyPost_ret (v := .tuple #[.agg #[.int .i64 0, .slice none 0 0], .int .i64 5]) (by simp [results, Try.results45, go_sem, f0, f1]) rfl ⟨_, rfl, F2.out, F3.out⟩
    · have HA : Hid (insM m l = (0, [], 5)) := Lib.hid (by unfold insM; rw [if_pos h0, if_neg (fun h => hall (by rw [hn]; exact h.2))])
      rw [HA.out]
      rw [show allU m n = false by simpa using hall] at hIV
      have HIV := Lib.hid hIV
      clear e1 s1 h0 hD1 hn hall hIV
      by_cases h10 : (n : Int) ≤ 10
      all_goals
        go_enter Try.func45, Try.ntmps45
        go_wp2_with fail
        rw [HW.out]
        refine HC0.out.mono ?_
        rintro e w0 ⟨rfl, hb0⟩
        obtain ⟨x1, x2⟩ := box_in B1.out hb0
        go_wp2_with fail
        refine (HDG.out _).mono ?_
        rintro e w1 ⟨rfl, hb1⟩
        have hb2 := below_step hb0 hb1
        clear x1 x2 hb0 hb1
        obtain ⟨x1, x2⟩ := box_in B1.out hb2
        go_wp2_with fail
        refine (HIV.out _).mono ?_
        rintro e w3 ⟨v, rfl, -, ⟨Ai, ci, ki, rfl⟩, hb3⟩
        have hb5 := below_alloc (.cells #[.slice Ai ki ci] 25) (below_step hb2 hb3)
        clear x1 x2 hb2 hb3
        have hv := V3.out.keep hb5
        have q0 := hv.c0
        have q1 := hv.c1
        have q2 := hv.fz 0
        have q3 := hv.fz 1
        obtain ⟨f0, f1, f2, f3⟩ := fin_var (w := w) hv (OwnI.nil _ (w.heap.size + 1 + 1 + 1)) (by omega) (by omega) (below_step HB.out hb5) (.int .i64 0) (.slice none 0 0)
        have F2 := Lib.hid f2
        have F3 := Lib.hid f3
        clear f2 f3 hv
        go_wp2
        exact bodyPost_ret (v := .tuple #[.agg #[.int .i64 0, .slice none 0 0], .int .i64 5]) (by simp [results, Try.results45, go_sem, f0, f1]) rfl ⟨_, rfl, F2.out, F3.out⟩
  · have h0' : isS m l = false := by simpa using h0
    have HA : Hid (insM m l = (0, [], 1)) := Lib.hid (by unfold insM; rw [if_neg h0])
    rw [HA.out]
    have hc := HC.out
    rw [code1_no h0'] at hc
    have HC0 := Lib.hid hc
    clear hc HC h0
    go_enter Try.func45, Try.ntmps45
    go_wp2_with fail
    rw [HW.out]
    refine HC0.out.mono ?_
    rintro e w1 ⟨rfl, hb1⟩
    have hv := V3.out.keep hb1
    have q0 := hv.c0
    have q1 := hv.c1
    have q2 := hv.fz 0
    have q3 := hv.fz 1
    obtain ⟨f0, f1, f2, f3⟩ := fin_var (w := w) hv (OwnI.nil _ (w.heap.size + 1 + 1 + 1)) (by omega) (by omega) (below_step HB.out hb1) (.int .i64 0) (.slice none 0 0)
    have F2 := Lib.hid f2
    have F3 := Lib.hid f3
    clear f2 f3 hv
    go_wp2
    exact bodyPost_ret (v := .tuple #[.agg #[.int .i64 0, .slice none 0 0], .int .i64 1]) (by simp [results, Try.results45, go_sem, f0, f1]) rfl ⟨_, rfl, F2.out, F3.out⟩
end Go.Proofs.Ytlpfifdocgljnaa

/- Contracts of the model's AddSeries. -/
namespace Go.Proofs.Ytlpfifdocgljnaa
open Go.RowKit Go.WideShapes Go.ChangeShapes Go.ChangeAt

theorem wrap_rem {x m : Int} (h1 : 0 ≤ x) (h2 : x ≤ 1000000000000000) : (IntKind.i64.wrap x).tmod m = x % m := by
  have : IntKind.i64.wrap x = x := by rw [IntKind.wrap_i64]; omega
  rw [this, Int.tmod_eq_emod_of_nonneg h1]

end Go.Proofs.Ytlpfifdocgljnaa

