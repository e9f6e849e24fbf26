/- Contracts of DeriveSeries, of the program and of the model. -/
import Derived.Test.YtcnkpfikafaocaaSca
import Derived.Test.YtcnkpfikafaocaaTmS
namespace Go.Proofs.Ytcnkpfikafaocaa
open Go.RowKit Go.WideShapes Go.ChangeShapes Go.ChangeAt

def derL (m : Int) (e : Nat) (l : List Int) : List Int := Ser.cut m e (Ser.der (Ser.co l))
def derM (m : Int) (l : List Int) : Int × List Int × Int :=
  if isS m l = true then (if l.length = 2 then (0, [], 5) else (m, derL m (l.length - 2) l, 0)) else (0, [], 1)
theorem derM_len (m : Int) (l : List Int) : (derM m l).2.1.length ≤ 1048576 := by
  unfold derM
  split
  · rename_i h
    obtain ⟨d, e, s⟩ := serOk_of h
    have := s.d2
    split
    · simp
    · dsimp only; unfold derL; rw [Ser.cut_length]; omega
  · simp
theorem der_bd {m : Int} {d : Nat} {l : List Int} (h : SerOk m d l) (n : Nat) (hn : n ≤ 1000) : 0 ≤ Ser.der (Ser.co l) n ∧ Ser.der (Ser.co l) n ≤ 100000000 := by
  have h1 := h.red (n + 1)
  have h2 := h.m2
  unfold Ser.der
  exact ⟨Int.mul_nonneg (by omega) h1.1, (mul_bd (x := (n : Int) + 1) (by omega) (by omega) (by omega) (by omega)).2⟩

set_option maxHeartbeats 1000000 in
theorem deriveC_any (n : Nat) (g : Nat) (m : Int) (d : Nat) (A : Option Addr) (c : Nat) (l : List Int) (W : World) (hb : Box W g m A l.length c) (hs : SerOk m d l) (hr : RI W A l) (h1 : n + 1 < l.length) :
    Calls Try.prog 86 #[.int .i64 n, .pointer (some ⟨g, 0, none⟩)] W fun e w' => e = .returned (.int .i64 (Ser.der (Ser.co l) n)) ∧ Below W.heap.size W w' := by
  obtain ⟨b, off, rfl, hlt, hc⟩ := hr.at (n + 1) h1
  obtain ⟨x1, x2, _⟩ := hb
  obtain ⟨p1, p2⟩ := der_bd hs n (by have := hs.len; have := hs.d2; omega)
  have hlen := hs.len
  have hd := hs.d2
  unfold Ser.der at p1 p2 ⊢
  obtain ⟨X, hX⟩ : ∃ X, Ser.co l (n + 1) = X := ⟨_, rfl⟩
  obtain ⟨k, hk⟩ : ∃ k, k = n + 1 := ⟨_, rfl⟩
  rw [← hk] at hc h1 hX
  rw [← hk, hX] at p1 p2 ⊢
  rw [hX] at hc
  obtain ⟨N, hN⟩ : ∃ N : Int, (n : Int) + 1 = N := ⟨_, rfl⟩
  have hNk : N = (k : Int) := by omega
  rw [hN] at p1 p2 ⊢
  subst hNk
  have j1 : (0 : Int) ≤ (k : Int) := by omega
  have j2 : (k : Int) < (l.length : Int) := by omega
  have j3 : (n : Int) ≤ 1000 := by omega
  clear hr hX hk hs hlen
  go_enter Try.func86, Try.ntmps86
  go_wp2
  go_ret
  exact ⟨rfl, Below.refl _ _⟩

set_option maxHeartbeats 4000000 in
set_option maxRecDepth 100000 in
theorem DeriveSeries_any (m : Int) (A : Option Addr) (c : Nat) (l : List Int) (w : World) (hl : l.length ≤ 1048576) (hr : RI w A l) :
    Calls Try.prog 37 #[.agg #[.int .i64 m, .slice A l.length c]] w fun e w' => ∃ s, e = .returned (.tuple #[.agg #[.int .i64 (derM m l).1, s], .int .i64 (derM m l).2.2]) ∧ OwnI w' w.heap.size s (derM m l).2.1 ∧ Below w.heap.size w w' := by
  obtain ⟨W, hW, b1, v3, b4, hwb⟩ := pro1 w m A l.length c
  have B1 := Lib.hid b1
  have V3 := Lib.hid v3
  have HB := Lib.hid hwb
  have HW := Lib.hid hW
  have R1 := Lib.hid (hr.below hwb)
  have HC := Lib.hid (codeOfSeries1_any (w.heap.size + 1 + 1) m A c l W (by omega) R1.out b4)
  clear b1 v3 b4 hwb hW hr
  by_cases h0 : isS m l = true
  · obtain ⟨d, e1, s1⟩ := serOk_of h0
    have hc := HC.out
    rw [code1_isS h0] at hc
    have HC0 := Lib.hid hc
    have hd1 := s1.d1
    have hd2 := s1.d2
    clear hc HC
    by_cases h2 : l.length = 2
    · have HA : Hid (derM m l = (0, [], 5)) := Lib.hid (by unfold derM; rw [if_pos h0, if_pos h2])
      rw [HA.out]
      have HDG := Lib.hid (fun W0 => degree_nat m A l.length c 1 W0 h2 (by omega))
      clear h0 e1 s1 h2
      go_enter Try.func37, Try.ntmps37
      go_wp2_with fail
      rw [HW.out]
      refine HC0.out.mono ?_
      rintro e w0 ⟨rfl, hb0⟩
      obtain ⟨x1, x2⟩ := box_in B1.out hb0
      go_wp2_with fail
      refine (HDG.out _).mono ?_
      rintro e w1 ⟨rfl, hb1⟩
      have hv := V3.out.keep (below_step hb0 hb1)
      have q0 := hv.c0
      have q1 := hv.c1
      have q2 := hv.fz 0
      have q3 := hv.fz 1
      obtain ⟨f0, f1, f2, f3⟩ := fin_var (w := w) hv (OwnI.nil _ (w.heap.size + 1 + 1 + 1)) (by omega) (by omega) (below_step HB.out (below_step hb0 hb1)) (.int .i64 0) (.slice none 0 0)
      have F2 := Lib.hid f2
      have F3 := Lib.hid f3
      clear f2 f3 hv
      go_wp2
      exact bodyPost_ret (v := .tuple #[.agg #[.int .i64 0, .slice none 0 0], .int .i64 5]) (by simp [results, Try.results37, go_sem, f0, f1]) rfl ⟨_, rfl, F2.out, F3.out⟩
    · obtain ⟨e, he⟩ : ∃ e, d = e + 1 := ⟨d - 1, by omega⟩
      have hle : l.length - 2 = e := by omega
      have HA : Hid (derM m l = (m, derL m e l, 0)) := Lib.hid (by unfold derM; rw [if_pos h0, if_neg h2, hle])
      rw [HA.out]
      obtain ⟨D1, hD1⟩ : ∃ D1 : Int, D1 = (d : Int) := ⟨_, rfl⟩
      have HDG := Lib.hid (fun W0 => by have := degree_nat m A l.length c d W0 e1 (by omega); rw [← hD1] at this; exact this)
      have hD2 : D1 - 1 = (e : Int) := by omega
      have hD3 : ¬ D1 = 1 := by omega
      obtain ⟨n1, n2⟩ : (D1 == 1) = false ∧ (D1 != 1) = true := ⟨by simpa using hD3, by simpa using hD3⟩
      have hD4 : -100 ≤ D1 ∧ D1 ≤ 100 := by omega
      obtain ⟨hD4, hD5⟩ := hD4
      have w9 : IntKind.i64.wrap (e : Int) = (e : Int) := by rw [IntKind.wrap_i64]; omega
      have HS := Lib.hid (fun W0 (h0 : Below W.heap.size W W0) => seriesOf_any m e 86 #[.pointer (some ⟨w.heap.size, 0, none⟩)] (Ser.der (Ser.co l)) W0 (by have := s1.m1; omega) s1.m2 (by omega)
        (fun n hn => by have := der_bd s1 n (by omega); omega)
        (enters_fn Try.func86 (of_decide_eq_true (by kernel_rfl)) rfl)
        (fun n W1 hn hb => by
          have hb2 := h0.trans (hb.mono h0.size)
          exact deriveC_any n _ m d A c l W1 (B1.out.keep hb2) s1 (R1.out.below hb2) (by omega)))
      obtain ⟨L, hL⟩ : ∃ L, derL m e l = L := ⟨_, rfl⟩
      have hL2 : Ser.cut m e (Ser.der (Ser.co l)) = L := hL
      rw [hL2] at HS
      rw [hL]
      clear hL hL2 e1 s1 h0 h2 hD1 hle he
      go_enter Try.func37, Try.ntmps37
      go_wp2_with fail
      rw [HW.out]
      refine HC0.out.mono ?_
      rintro e w0 ⟨rfl, hb0⟩
      obtain ⟨x1, x2⟩ := box_in B1.out hb0
      go_wp2_with fail
      refine (HDG.out _).mono ?_
      rintro e w1 ⟨rfl, hb1⟩
      have hb2 := below_step hb0 hb1
      clear x1 x2 hb0 hb1
      obtain ⟨x1, x2, x3⟩ := B1.out.keep hb2
      go_wp2
      go_region_held3 (fun w' => w'.cell? ⟨w.heap.size, 0, none⟩ = some (.int .i64 m) ∧ w'.cell? ⟨w.heap.size, 1, none⟩ = some (.slice A l.length c) ∧ w.heap.size < w'.heap.size) (first | exact ⟨x1, x2, x3⟩ | exact (by assumption) | exact box_store (by omega) (by assumption) | exact box_call (by assumption) (by assumption)) (first
        | (go_at_call 68; refine (HDG.out _).mono ?_; rintro e3 w3 ⟨rfl, hb3⟩)
        | (go_at_call 85; refine (HS.out _ (below_step (below_step hb2 (below_drew0 _)) hb3)).mono ?_; rintro e4 w4 ⟨s, rfl, ho, hb4⟩; obtain ⟨A2, c2, rfl, _⟩ := ho.form; have hv := V3.out.keep (below_step (below_step (below_step hb2 (below_drew0 _)) hb3) hb4); have q0 := hv.c0; have q1 := hv.c1; have q2 := hv.fz 0; have q3 := hv.fz 1))
      all_goals
        have hw3 := below_step (below_step (below_step hb2 (below_drew0 _)) hb3) hb4
        have hz1 := (below_step (below_step hb2 (below_drew0 _)) hb3).size
        have hz2 := V3.out.lt
        obtain ⟨f0, f1, f2, f3⟩ := fin_var (w := w) hv ho (by omega) (by omega) (below_step HB.out hw3) (.int .i64 m) (.slice A2 L.length c2)
        have F2 := Lib.hid f2
        have F3 := Lib.hid f3
        clear f2 f3 ho hb2 hb3 hb4 hv hw3
        go_wp2
        exact bodyPost_ret (v := .tuple #[.agg #[.int .i64 m, .slice A2 L.length c2], .int .i64 0]) (by simp [results, Try.results37, go_sem, f0, f1]) rfl ⟨_, rfl, F2.out, F3.out⟩
  · have h0' : isS m l = false := by simpa using h0
    have HA : Hid (derM m l = (0, [], 1)) := Lib.hid (by unfold derM; rw [if_neg h0])
    rw [HA.out]
    have hc := HC.out
    rw [code1_no h0'] at hc
    have HC0 := Lib.hid hc
    clear hc HC h0
    go_enter Try.func37, Try.ntmps37
    go_wp2_with fail
    rw [HW.out]
    refine HC0.out.mono ?_
    rintro e w1 ⟨rfl, hb1⟩
    have hv := V3.out.keep hb1
    have q0 := hv.c0
    have q1 := hv.c1
    have q2 := hv.fz 0
    have q3 := hv.fz 1
    obtain ⟨f0, f1, f2, f3⟩ := fin_var (w := w) hv (OwnI.nil _ (w.heap.size + 1 + 1 + 1)) (by omega) (by omega) (below_step HB.out hb1) (.int .i64 0) (.slice none 0 0)
    have F2 := Lib.hid f2
    have F3 := Lib.hid f3
    clear f2 f3 hv
    go_wp2
    exact bodyPost_ret (v := .tuple #[.agg #[.int .i64 0, .slice none 0 0], .int .i64 1]) (by simp [results, Try.results37, go_sem, f0, f1]) rfl ⟨_, rfl, F2.out, F3.out⟩

/-! the model -/
set_option maxHeartbeats 2000000 in
theorem l02Derive_any (m : Int) (d e : Nat) (A : Option Addr) (c : Nat) (l : List Int) (w : World) (hs : SerOk m d l) (he : d = e + 1) (hr : RI w A l) :
    Calls Try.prog 111 #[.int .i64 m, .slice A l.length c] w fun e' w' => ∃ v, e' = .returned v ∧ OwnI w' w.heap.size v (derL m e l) ∧ Below w.heap.size w w' := by
  have HS := Lib.hid hs
  have HR := Lib.hid hr
  have hm1 := hs.m1
  have hm2 := hs.m2
  have hd := hs.d2
  have hm0 : ¬ m = 0 := by omega
  have hll : l.length ≤ 11 := by have := hs.len; omega
  have E1 := Lib.hid hs.len
  have HE := Lib.hid he
  clear hs hr he
  go_enter Try.func111, Try.ntmps111
  go_wp2
  go_loopw [5, 6] (fun r i wr => ∃ k j : Nat, k = j + 1 ∧ k ≤ l.length ∧ i = .int .i64 k ∧ OwnI wr w.heap.size r ((derL m e l).take j) ∧ Below w.heap.size w wr) (fun _ i _ => l.length - (intOf i).toNat)
  case atStart => exact ⟨1, 0, rfl, by have := E1.out; omega, rfl, OwnI.empty _, below_one _ _⟩
  case round =>
    obtain ⟨k, j, hkj, hk, rfl, hown, hbel⟩ := hrel
    have HB := Lib.hid hbel
    have HO := Lib.hid hown
    have hsz := hbel.size
    have HLK := Lib.hid (take_cut_len m e (Ser.der (Ser.co l)) j)
    clear hown hbel
    by_cases hlt : k < l.length
    · obtain ⟨b, off, rfl, hb, hc⟩ := HR.out.at k hlt
      have c1 := (HB.out.cell (p := ⟨b, off + k, none⟩) hb).trans hc
      obtain ⟨r1, r2⟩ := HS.out.red k
      have hst : (derL m e l).take (j + 1) = (derL m e l).take j ++ [Ser.der (Ser.co l) j % m] := Ser.cut_take_succ _ _ _ _ (by have := E1.out; have := HE.out; omega)
      have hdd : Ser.der (Ser.co l) j = (k : Int) * Ser.co l k := by unfold Ser.der; rw [hkj]; congr 1
      rw [hdd] at hst
      obtain ⟨X, hX⟩ : ∃ X, Ser.co l k = X := ⟨_, rfl⟩
      rw [hX] at c1 r1 r2 hst
      have p1 := Int.mul_nonneg (show 0 ≤ (k : Int) by omega) r1
      have p2 := (mul_bd (x := (k : Int)) (y := X) (by omega) (by omega) (by omega) (by omega)).2
      have j0 : (0 : Int) ≤ (k : Int) := by omega
      have j1 : (k : Int) < (l.length : Int) := by omega
      have HST := Lib.hid hst
      have HKJ := Lib.hid hkj
      clear hX hst hc hdd hkj
      go_wp2_with (at_builtin; refine wp_push _ _ _ (by rfl) (by rfl) Try.underlying24 w.heap.size _ _ (by rfl) HO.out ((k : Int) * X % m) (by rfl) (by have := HLK.out; have := HE.out; unfold derL; omega) hsz ?_; intro v' w1 ho1 hpb)
      have HP := Lib.hid (HB.out.trans hpb)
      have HQ := Lib.hid ho1
      clear hpb ho1
      go_wp2
      go_roundw
      case rel => exact ⟨k + 1, j + 1, by have := HKJ.out; omega, by omega, by go_num, by rw [HST.out]; exact HQ.out, HP.out⟩
      case measure => simp only [intOf]; omega
    · have ho := HO.out
      rw [List.take_of_length_le (by unfold derL; rw [Ser.cut_length]; have := E1.out; have := HE.out; omega)] at ho
      have HF := Lib.hid ho
      clear ho hkj
      go_wp2
      go_ret
      exact ⟨_, rfl, HF.out, HB.out⟩

set_option maxHeartbeats 4000000 in
set_option maxRecDepth 100000 in
theorem sDeriveSeries_any (m : Int) (A : Option Addr) (c : Nat) (l : List Int) (w : World) (hl : l.length ≤ 1048576) (hr : RI w A l) :
    Calls Try.prog 57 #[.agg #[.int .i64 m, .slice A l.length c]] w fun e w' => ∃ s, e = .returned (.tuple #[.agg #[.int .i64 (derM m l).1, s], .int .i64 (derM m l).2.2]) ∧ OwnI w' w.heap.size s (derM m l).2.1 ∧ Below w.heap.size w w' := by
  obtain ⟨W, hW, b1, v3, hwb⟩ := spro1 w m A l.length c
  have B1 := Lib.hid b1
  have V3 := Lib.hid v3
  have HB := Lib.hid hwb
  have HW := Lib.hid hW
  have R1 := Lib.hid (hr.below hwb)
  have HC := Lib.hid (l02Is_any m A c l W (by omega) R1.out)
  clear b1 v3 hwb hW hr
  by_cases h0 : isS m l = true
  · obtain ⟨d, e1, s1⟩ := serOk_of h0
    have hc := HC.out
    rw [h0] at hc
    have HC0 := Lib.hid hc
    have hd1 := s1.d1
    have hd2 := s1.d2
    clear hc HC
    by_cases h2 : l.length = 2
    · have HA : Hid (derM m l = (0, [], 5)) := Lib.hid (by unfold derM; rw [if_pos h0, if_pos h2])
      rw [HA.out]
      have HDG := Lib.hid (fun W0 => l02Degree_any m A l.length c 1 W0 h2 (by omega))
      clear h0 e1 s1 h2
      go_enter Try.func57, Try.ntmps57
      go_wp2_with fail
      rw [HW.out]
      refine HC0.out.mono ?_
      rintro e w0 ⟨rfl, hb0⟩
      obtain ⟨x1, x2⟩ := box_in B1.out hb0
      go_wp2_with fail
      refine (HDG.out _).mono ?_
      rintro e w1 ⟨rfl, hb1⟩
      have hv := V3.out.keep (below_step hb0 hb1)
      have q0 := hv.c0
      have q1 := hv.c1
      have q2 := hv.fz 0
      have q3 := hv.fz 1
      obtain ⟨f0, f1, f2, f3⟩ := fin_var (w := w) hv (OwnI.nil _ (w.heap.size + 1 + 1 + 1)) (by omega) (by omega) (below_step HB.out (below_step hb0 hb1)) (.int .i64 0) (.slice none 0 0)
      have F2 := Lib.hid f2
      have F3 := Lib.hid f3
      clear f2 f3 hv
      go_wp2
      exact bodyPost_ret (v := .tuple #[.agg #[.int .i64 0, .slice none 0 0], .int .i64 5]) (by simp [results, Try.results57, go_sem, f0, f1]) rfl ⟨_, rfl, F2.out, F3.out⟩
    · obtain ⟨e, he⟩ : ∃ e, d = e + 1 := ⟨d - 1, by omega⟩
      have hle : l.length - 2 = e := by omega
      have HA : Hid (derM m l = (m, derL m e l, 0)) := Lib.hid (by unfold derM; rw [if_pos h0, if_neg h2, hle])
      rw [HA.out]
      obtain ⟨D1, hD1⟩ : ∃ D1 : Int, D1 = (d : Int) := ⟨_, rfl⟩
      have HDG := Lib.hid (fun W0 => by have := l02Degree_any m A l.length c d W0 e1 (by omega); rw [← hD1] at this; exact this)
      have hD3 : ¬ D1 = 1 := by omega
      obtain ⟨n1, n2⟩ : (D1 == 1) = false ∧ (D1 != 1) = true := ⟨by simpa using hD3, by simpa using hD3⟩
      have HS := Lib.hid (fun W0 (h0 : Below W.heap.size W W0) => l02Derive_any m d e A c l W0 s1 he (R1.out.below h0))
      obtain ⟨L, hL⟩ : ∃ L, derL m e l = L := ⟨_, rfl⟩
      rw [hL] at HS ⊢
      clear hL e1 s1 h0 h2 hD1 hle he
      go_enter Try.func57, Try.ntmps57
      go_wp2_with fail
      rw [HW.out]
      refine HC0.out.mono ?_
      rintro e w0 ⟨rfl, hb0⟩
      obtain ⟨x1, x2⟩ := box_in B1.out hb0
      go_wp2_with fail
      refine (HDG.out _).mono ?_
      rintro e w1 ⟨rfl, hb1⟩
      have hb2 := below_step hb0 hb1
      clear x1 x2 hb0 hb1
      obtain ⟨x1, x2, x3⟩ := B1.out.keep hb2
      obtain ⟨w0, hw0⟩ : ∃ w9, w9 = w1 := ⟨_, rfl⟩
      subst hw0
      have hb0 := hb2
      clear hb2
      go_wp2
      go_region_held3 (fun w' => w'.cell? ⟨w.heap.size, 0, none⟩ = some (.int .i64 m) ∧ w'.cell? ⟨w.heap.size, 1, none⟩ = some (.slice A l.length c) ∧ w.heap.size < w'.heap.size) (first | exact ⟨x1, x2, x3⟩ | exact box_store (by omega) (by assumption) | exact box_call (by assumption) (by assumption)) (first
        | (go_at_call 111; refine (HS.out _ (below_step hb0 (below_drew0 _))).mono ?_; rintro e2 w2 ⟨s, rfl, ho, hb2⟩; obtain ⟨A2, c2, rfl, _⟩ := ho.form)
        | (go_at_call 62; refine (l02Make_any _ _ _ _ _).mono ?_; rintro e3 w3 ⟨rfl, hb3⟩; have hv := V3.out.keep (below_step (below_step (below_step hb0 (below_drew0 _)) hb2) hb3); have q0 := hv.c0; have q1 := hv.c1; have q2 := hv.fz 0; have q3 := hv.fz 1))
      all_goals
        have hw3 := below_step (below_step (below_step hb0 (below_drew0 _)) hb2) hb3
        have hz1 := (below_step hb0 (below_drew0 _)).size
        have hz2 := V3.out.lt
        obtain ⟨f0, f1, f2, f3⟩ := fin_var (w := w) hv (ho.keep hb3) (by omega) (by omega) (below_step HB.out hw3) (.int .i64 m) (.slice A2 L.length c2)
        have F2 := Lib.hid f2
        have F3 := Lib.hid f3
        clear f2 f3 ho hb0 hb2 hb3 hv hw3
        go_wp2
        exact bodyPost_ret (v := .tuple #[.agg #[.int .i64 m, .slice A2 L.length c2], .int .i64 0]) (by simp [results, Try.results57, go_sem, f0, f1]) rfl ⟨_, rfl, F2.out, F3.out⟩
  · have h0' : isS m l = false := by simpa using h0
    have HA : Hid (derM m l = (0, [], 1)) := Lib.hid (by unfold derM; rw [if_neg h0])
    rw [HA.out]
    have hc := HC.out
    rw [h0'] at hc
    have HC0 := Lib.hid hc
    clear hc HC h0
    go_enter Try.func57, Try.ntmps57
    go_wp2_with fail
    rw [HW.out]
    refine HC0.out.mono ?_
    rintro e w1 ⟨rfl, hb1⟩
    have hv := V3.out.keep hb1
    have q0 := hv.c0
    have q1 := hv.c1
    have q2 := hv.fz 0
    have q3 := hv.fz 1
    obtain ⟨f0, f1, f2, f3⟩ := fin_var (w := w) hv (OwnI.nil _ (w.heap.size + 1 + 1 + 1)) (by omega) (by omega) (below_step HB.out hb1) (.int .i64 0) (.slice none 0 0)
    have F2 := Lib.hid f2
    have F3 := Lib.hid f3
    clear f2 f3 hv
    go_wp2
    exact bodyPost_ret (v := .tuple #[.agg #[.int .i64 0, .slice none 0 0], .int .i64 1]) (by simp [results, Try.results57, go_sem, f0, f1]) rfl ⟨_, rfl, F2.out, F3.out⟩
end Go.Proofs.Ytcnkpfikafaocaa
