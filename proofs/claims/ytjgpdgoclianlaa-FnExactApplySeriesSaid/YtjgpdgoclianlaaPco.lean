/- Contracts of CoefficientOf, of the program and of the model. -/
import Derived.Test.YtjgpdgoclianlaaGop
namespace Go.Proofs.Ytjgpdgoclianlaa
open Go.RowKit Go.WideShapes Go.ChangeShapes Go.ChangeAt

/-- the model of CoefficientOf -/
def coeP (m : Int) (t : List (List Int)) (i j : Int) : Int × Int :=
  if isP m t = true then (if inB i 0 ((t.length : Int) - 1) = true ∧ inB j 0 ((t.length : Int) - 1 - i) = true then (Pl.pc t i.toNat j.toNat, 0) else (0, 2)) else (0, 1)
/-- what the load of one number of a plane reads -/
theorem Box.num {W : World} {g : Nat} {m : Int} {d b off c : Nat} {t : List (List Int)} (hb : Box W g m (some ⟨b, off, none⟩) t.length c) (hs : Pl.Ok m d t) (hr : RP W (some ⟨b, off, none⟩) t) (i j : Nat) (hij : i + j ≤ d) :
    ∃ b' off' c' L N, L = d + 1 ∧ N = d - i + 1 ∧ W.cell? ⟨g, 1, none⟩ = some (.slice (some ⟨b, off, none⟩) L c) ∧ W.cell? ⟨b, off + i, none⟩ = some (.slice (some ⟨b', off', none⟩) N c') ∧ W.cell? ⟨b', off' + j, none⟩ = some (.int .i64 (Pl.pc t i j)) := by
  obtain ⟨_, x2, _⟩ := hb
  obtain ⟨b0, off0, b', off', c', e, -, k1, -, k2⟩ := hr.num i j (by rw [hs.len]; omega) (by rw [hs.row i (by omega)]; omega)
  injection e with e
  injection e with e1 e2
  subst e1 e2
  exact ⟨b', off', c', t.length, _, hs.len, hs.row i (by omega), x2, k1, k2⟩
theorem pro0P (w : World) (m : Int) (A : Option Addr) (n c : Nat) : ∃ W, (w.alloc (.cells #[.int .i64 m, .slice A n c] 27)).alloc (.cells #[.int .i64 m, .slice A n c] 27) = W ∧
    Box W w.heap.size m A n c ∧ Box W (w.heap.size + 1) m A n c ∧ Below w.heap.size w W := startB2 _ _ w m A n c m A n c
theorem field_deg (a b : Value) (W : World) : (Instr.field 64 (.agg #[a, b]) 1).run Try.prog W = .ok b W := by kernel_rfl
set_option maxHeartbeats 4000000 in
set_option maxRecDepth 100000 in
theorem CoefficientOf_any (m : Int) (A : Option Addr) (c : Nat) (t : List (List Int)) (i j : Int) (w : World) (hz : szT t ≤ 1048576) (hr : RP w A t) :
    Calls Try.prog 34 #[.agg #[.int .i64 m, .slice A t.length c], .int .i64 i, .int .i64 j] w fun e w' => e = .returned (.tuple #[.int .i64 (coeP m t i j).1, .int .i64 (coeP m t i j).2]) ∧ Below w.heap.size w w' := by
  obtain ⟨W, hW, b1, b4, hwb⟩ := pro0P w m A t.length c
  have B1 := Lib.hid b1
  have HB := Lib.hid hwb
  have HW := Lib.hid hW
  have HC := Lib.hid (codeOfPlanes1_any (w.heap.size + 1) m A c t W hz (hr.below hwb) b4)
  have hfd := field_frame
  have hfd2 := field_deg
  have HCC : Hid (coeP m t i j = if isP m t = true then (if inB i 0 ((t.length : Int) - 1) = true ∧ inB j 0 ((t.length : Int) - 1 - i) = true then (Pl.pc t i.toNat j.toNat, 0) else (0, 2)) else (0, 1)) := Lib.hid rfl
  obtain ⟨X, C, hXC⟩ : ∃ X C, coeP m t i j = (X, C) := ⟨_, _, rfl⟩
  rw [hXC] at HCC ⊢
  by_cases h0 : isP m t = true
  · obtain ⟨d, e1, ok⟩ := plOk_of h0
    have hc := HC.out
    rw [codeP1_yes h0] at hc
    have HC0 := Lib.hid hc
    have HG := Lib.hid (fun W0 => gridOf_nat m A t.length c d W0 e1 (by have := ok.d2; omega))
    have hcc := HCC.out
    rw [if_pos h0, show (t.length : Int) - 1 = (d : Int) by omega] at hcc
    have hd2 := ok.d2
    by_cases hi : inB i 0 (d : Int) = true
    · obtain ⟨i1, i2⟩ := (inB_iff _ _ _).1 hi
      have HI := Lib.hid (fun W0 => by have := isWithin_any i 0 (d : Int) W0; rw [hi] at this; exact this)
      by_cases hj : inB j 0 ((d : Int) - i) = true
      · obtain ⟨j1, j2⟩ := (inB_iff _ _ _).1 hj
        have HJ := Lib.hid (fun W0 => by have := isWithin_any j 0 ((d : Int) - i) W0; rw [hj] at this; exact this)
        rw [if_pos ⟨hi, hj⟩] at hcc
        injection hcc with hX hC
        subst hC
        obtain ⟨a, ha⟩ : ∃ a : Nat, (a : Int) = i := ⟨i.toNat, by omega⟩
        obtain ⟨b, hb⟩ : ∃ b : Nat, (b : Int) = j := ⟨j.toNat, by omega⟩
        subst ha hb
        rw [show (a : Int).toNat = a by omega, show (b : Int).toNat = b by omega] at hX
        obtain ⟨g0, off, rfl⟩ := hr.some (by omega)
        have HN := Lib.hid (fun W0 (h : Below W.heap.size W W0) => (b1.keep h).num ok ((hr.below hwb).below h) a b (by omega))
        have HX := Lib.hid hX
        clear b1 b4 hwb hW hr hc HC h0 ok e1 hz hi hj hX HCC hXC
        go_enter Try.func34, Try.ntmps34
        go_wp2_with fail
        rw [HW.out]
        refine HC0.out.mono ?_
        rintro e w1 ⟨rfl, hb1⟩
        obtain ⟨x1, x2, x3⟩ := B1.out.keep hb1
        go_wp2_with fail
        refine (HG.out _).mono ?_
        rintro e w2 ⟨rfl, hb2⟩
        go_wp2_with fail
        refine (HI.out _).mono ?_
        rintro e w' ⟨rfl, rfl⟩
        go_wp2_with fail
        refine (HJ.out _).mono ?_
        rintro e w' ⟨rfl, rfl⟩
        obtain ⟨b', off', c', L, N, hL, hN, k1, k2, k3⟩ := HN.out _ (below_step hb1 hb2)
        rw [← HX.out] at k3
        have z1 : (a : Int) < (L : Int) := by omega
        have z2 : (b : Int) < (N : Int) := by omega
        clear hL hN x1 x2 x3
        go_wp2
        go_ret2
        exact ⟨rfl, below_step HB.out (below_step hb1 hb2)⟩
      · rw [if_neg (fun h => hj h.2)] at hcc
        injection hcc with hX hC
        subst hC hX
        have hj' : inB j 0 ((d : Int) - i) = false := by simpa using hj
        have HJ := Lib.hid (fun W0 => by have := isWithin_any j 0 ((d : Int) - i) W0; rw [hj'] at this; exact this)
        clear b1 b4 hwb hW hr hc HC h0 ok e1 hz hi hj hj' HCC hXC
        go_enter Try.func34, Try.ntmps34
        go_wp2_with fail
        rw [HW.out]
        refine HC0.out.mono ?_
        rintro e w1 ⟨rfl, hb1⟩
        obtain ⟨x1, x2, x3⟩ := B1.out.keep hb1
        go_wp2_with fail
        refine (HG.out _).mono ?_
        rintro e w2 ⟨rfl, hb2⟩
        go_wp2_with fail
        refine (HI.out _).mono ?_
        rintro e w' ⟨rfl, rfl⟩
        go_wp2_with fail
        refine (HJ.out _).mono ?_
        rintro e w' ⟨rfl, rfl⟩
        go_wp2
        go_ret2
        exact ⟨rfl, below_step HB.out (below_step hb1 hb2)⟩
    · rw [if_neg (fun h => hi h.1)] at hcc
      injection hcc with hX hC
      subst hC hX
      have hi' : inB i 0 (d : Int) = false := by simpa using hi
      have HI := Lib.hid (fun W0 => by have := isWithin_any i 0 (d : Int) W0; rw [hi'] at this; exact this)
      clear b1 b4 hwb hW hr hc HC h0 ok e1 hz hi hi' HCC hXC
      go_enter Try.func34, Try.ntmps34
      go_wp2_with fail
      rw [HW.out]
      refine HC0.out.mono ?_
      rintro e w1 ⟨rfl, hb1⟩
      obtain ⟨x1, x2, x3⟩ := B1.out.keep hb1
      go_wp2_with fail
      refine (HG.out _).mono ?_
      rintro e w2 ⟨rfl, hb2⟩
      go_wp2_with fail
      refine (HI.out _).mono ?_
      rintro e w' ⟨rfl, rfl⟩
      go_wp2
      go_ret2
      exact ⟨rfl, below_step HB.out (below_step hb1 hb2)⟩
  · have h0' : isP m t = false := by simpa using h0
    have hc := HC.out
    rw [codeP1_no h0'] at hc
    have HC0 := Lib.hid hc
    have hcc := HCC.out
    rw [if_neg h0] at hcc
    injection hcc with hX hC
    subst hC hX
    clear b1 b4 hwb hW hr hz hc HC h0 h0' HCC hXC
    go_enter Try.func34, Try.ntmps34
    go_wp2_with fail
    rw [HW.out]
    refine HC0.out.mono ?_
    rintro e w1 ⟨rfl, hb1⟩
    go_wp2
    go_ret2
    exact ⟨rfl, below_step HB.out hb1⟩
set_option maxHeartbeats 4000000 in
set_option maxRecDepth 100000 in
theorem sCoefficientOf_any (m : Int) (A : Option Addr) (c : Nat) (t : List (List Int)) (i j : Int) (w : World) (hz : szT t ≤ 1048576) (hr : RP w A t) :
    Calls Try.prog 33 #[.agg #[.int .i64 m, .slice A t.length c], .int .i64 i, .int .i64 j] w fun e w' => e = .returned (.tuple #[.int .i64 (coeP m t i j).1, .int .i64 (coeP m t i j).2]) ∧ Below w.heap.size w w' := by
  obtain ⟨W, hW, b1, hwb⟩ := start1 27 w m A t.length c
  have B1 := Lib.hid b1
  have HB := Lib.hid hwb
  have HW := Lib.hid hW
  have HC := Lib.hid (l03Is_z m A c t W hz (hr.below hwb))
  have HCC : Hid (coeP m t i j = if isP m t = true then (if inB i 0 ((t.length : Int) - 1) = true ∧ inB j 0 ((t.length : Int) - 1 - i) = true then (Pl.pc t i.toNat j.toNat, 0) else (0, 2)) else (0, 1)) := Lib.hid rfl
  obtain ⟨X, C, hXC⟩ : ∃ X C, coeP m t i j = (X, C) := ⟨_, _, rfl⟩
  rw [hXC] at HCC ⊢
  by_cases h0 : isP m t = true
  · obtain ⟨d, e1, ok⟩ := plOk_of h0
    have hc := HC.out
    rw [h0] at hc
    have HC0 := Lib.hid hc
    have HG := Lib.hid (fun W0 => l03Degree_any m A t.length c d W0 e1 (by have := ok.d2; omega))
    have hcc := HCC.out
    rw [if_pos h0, show (t.length : Int) - 1 = (d : Int) by omega] at hcc
    have hd2 := ok.d2
    by_cases hi : inB i 0 (d : Int) = true
    · obtain ⟨i1, i2⟩ := (inB_iff _ _ _).1 hi
      have HI := Lib.hid (fun W0 => by have := l01In_any i 0 (d : Int) W0; rw [hi] at this; exact this)
      by_cases hj : inB j 0 ((d : Int) - i) = true
      · obtain ⟨j1, j2⟩ := (inB_iff _ _ _).1 hj
        have HJ := Lib.hid (fun W0 => by have := l01In_any j 0 ((d : Int) - i) W0; rw [hj] at this; exact this)
        rw [if_pos ⟨hi, hj⟩] at hcc
        injection hcc with hX hC
        subst hC
        obtain ⟨a, ha⟩ : ∃ a : Nat, (a : Int) = i := ⟨i.toNat, by omega⟩
        obtain ⟨b, hb⟩ : ∃ b : Nat, (b : Int) = j := ⟨j.toNat, by omega⟩
        subst ha hb
        rw [show (a : Int).toNat = a by omega, show (b : Int).toNat = b by omega] at hX
        obtain ⟨g0, off, rfl⟩ := hr.some (by omega)
        have HN := Lib.hid (fun W0 (h : Below W.heap.size W W0) => (b1.keep h).num ok ((hr.below hwb).below h) a b (by omega))
        have HX := Lib.hid hX
        clear b1 hwb hW hr hc HC h0 ok e1 hz hi hj hX HCC hXC
        go_enter Try.func33, Try.ntmps33
        go_wp2_with fail
        rw [HW.out]
        refine HC0.out.mono ?_
        rintro e w1 ⟨rfl, hb1⟩
        obtain ⟨x1, x2, x3⟩ := B1.out.keep hb1
        go_wp2_with fail
        refine (HG.out _).mono ?_
        rintro e w2 ⟨rfl, hb2⟩
        go_wp2_with fail
        refine (HI.out _).mono ?_
        rintro e w' ⟨rfl, rfl⟩
        obtain ⟨y1, y2, y3⟩ := B1.out.keep (below_step hb1 hb2)
        go_wp2_with fail
        refine (HG.out _).mono ?_
        rintro e w3 ⟨rfl, hb3⟩
        go_wp2_with fail
        refine (HJ.out _).mono ?_
        rintro e w' ⟨rfl, rfl⟩
        obtain ⟨b', off', c', L, N, hL, hN, k1, k2, k3⟩ := HN.out _ (below_step (below_step hb1 hb2) hb3)
        rw [← HX.out] at k3
        have z1 : (a : Int) < (L : Int) := by omega
        have z2 : (b : Int) < (N : Int) := by omega
        clear hL hN x1 x2 x3 y1 y2 y3
        go_wp2
        go_ret2
        exact ⟨rfl, below_step HB.out (below_step (below_step hb1 hb2) hb3)⟩
      · rw [if_neg (fun h => hj h.2)] at hcc
        injection hcc with hX hC
        subst hC hX
        have hj' : inB j 0 ((d : Int) - i) = false := by simpa using hj
        have HJ := Lib.hid (fun W0 => by have := l01In_any j 0 ((d : Int) - i) W0; rw [hj'] at this; exact this)
        clear b1 hwb hW hr hc HC h0 ok e1 hz hi hj hj' HCC hXC
        go_enter Try.func33, Try.ntmps33
        go_wp2_with fail
        rw [HW.out]
        refine HC0.out.mono ?_
        rintro e w1 ⟨rfl, hb1⟩
        obtain ⟨x1, x2, x3⟩ := B1.out.keep hb1
        go_wp2_with fail
        refine (HG.out _).mono ?_
        rintro e w2 ⟨rfl, hb2⟩
        go_wp2_with fail
        refine (HI.out _).mono ?_
        rintro e w' ⟨rfl, rfl⟩
        obtain ⟨y1, y2, y3⟩ := B1.out.keep (below_step hb1 hb2)
        go_wp2_with fail
        refine (HG.out _).mono ?_
        rintro e w3 ⟨rfl, hb3⟩
        go_wp2_with fail
        refine (HJ.out _).mono ?_
        rintro e w' ⟨rfl, rfl⟩
        go_wp2
        go_ret2
        exact ⟨rfl, below_step HB.out (below_step (below_step hb1 hb2) hb3)⟩
    · rw [if_neg (fun h => hi h.1)] at hcc
      injection hcc with hX hC
      subst hC hX
      have hi' : inB i 0 (d : Int) = false := by simpa using hi
      have HI := Lib.hid (fun W0 => by have := l01In_any i 0 (d : Int) W0; rw [hi'] at this; exact this)
      clear b1 hwb hW hr hc HC h0 ok e1 hz hi hi' HCC hXC
      go_enter Try.func33, Try.ntmps33
      go_wp2_with fail
      rw [HW.out]
      refine HC0.out.mono ?_
      rintro e w1 ⟨rfl, hb1⟩
      obtain ⟨x1, x2, x3⟩ := B1.out.keep hb1
      go_wp2_with fail
      refine (HG.out _).mono ?_
      rintro e w2 ⟨rfl, hb2⟩
      go_wp2_with fail
      refine (HI.out _).mono ?_
      rintro e w' ⟨rfl, rfl⟩
      go_wp2
      go_ret2
      exact ⟨rfl, below_step HB.out (below_step hb1 hb2)⟩
  · have h0' : isP m t = false := by simpa using h0
    have hc := HC.out
    rw [h0'] at hc
    have HC0 := Lib.hid hc
    have hcc := HCC.out
    rw [if_neg h0] at hcc
    injection hcc with hX hC
    subst hC hX
    clear b1 hwb hW hr hz hc HC h0 h0' HCC hXC
    go_enter Try.func33, Try.ntmps33
    go_wp2_with fail
    rw [HW.out]
    refine HC0.out.mono ?_
    rintro e w1 ⟨rfl, hb1⟩
    go_wp2
    go_ret2
    exact ⟨rfl, below_step HB.out hb1⟩
end Go.Proofs.Ytjgpdgoclianlaa
