/- Contracts of sums and multiples of grids. -/
import Derived.Test.YtjgpdgoclianlaaGrd
import Derived.Test.YtjgpdgoclianlaaMon
namespace Go.Proofs.Ytjgpdgoclianlaa
open Go.RowKit Go.WideShapes Go.ChangeShapes Go.ChangeAt

theorem RP.some {w : World} {A : Option Addr} {t : List (List Int)} (h : RP w A t) (ht : 0 < t.length) : ∃ b off, A = some ⟨b, off, none⟩ := by
  obtain ⟨b, off, _, _, e, _⟩ := h.at 0 ht
  exact ⟨b, off, e⟩
/-- one number of a grid: what the walk reads -/
theorem GBox.num {W : World} {g : Nat} {m : Int} {d b off c : Nat} {t : List (List Int)} (hb : GBox W g m d (some ⟨b, off, none⟩) t.length c) (hs : Pl.Ok m d t) (hr : RP W (some ⟨b, off, none⟩) t) (i j : Nat) (hij : i + j ≤ d) :
    ∃ b' off' c' L N, L = d + 1 ∧ N = d - i + 1 ∧ W.cell? ⟨g, 2, none⟩ = some (.slice (some ⟨b, off, none⟩) L c) ∧ W.cell? ⟨b, off + i, none⟩ = some (.slice (some ⟨b', off', none⟩) N c') ∧ W.cell? ⟨b', off' + j, none⟩ = some (.int .i64 (Pl.pc t i j)) := by
  obtain ⟨_, _, x2, _⟩ := hb
  obtain ⟨b0, off0, b', off', c', e, -, k1, -, k2⟩ := hr.num i j (by rw [hs.len]; omega) (by rw [hs.row i (by omega)]; omega)
  injection e with e
  injection e with e1 e2
  subst e1 e2
  exact ⟨b', off', c', t.length, _, hs.len, hs.row i (by omega), x2, k1, k2⟩
set_option maxHeartbeats 1000000 in
theorem gplusC_any (i j g g' : Nat) (m : Int) (d : Nat) (A : Option Addr) (c : Nat) (t : List (List Int)) (A' : Option Addr) (c' : Nat) (t' : List (List Int)) (W : World) (hb : GBox W g m d A t.length c) (hb' : GBox W g' m d A' t'.length c') (hs : Pl.Ok m d t) (hs' : Pl.Ok m d t') (hr : RP W A t) (hr' : RP W A' t') (hij : i + j ≤ d) :
    Calls Try.prog 107 #[.int .i64 i, .int .i64 j, .pointer (some ⟨g, 0, none⟩), .pointer (some ⟨g', 0, none⟩)] W fun e w' => e = .returned (.int .i64 (Pl.pc t i j + Pl.pc t' i j)) ∧ Below W.heap.size W w' := by
  obtain ⟨b, off, rfl⟩ := hr.some (by rw [hs.len]; omega)
  obtain ⟨b', off', rfl⟩ := hr'.some (by rw [hs'.len]; omega)
  obtain ⟨p1, p2, p3, L, N, hL, hN, x1, x2, x3⟩ := hb.num hs hr i j hij
  obtain ⟨q1, q2, q3, L', N', hL', hN', y1, y2, y3⟩ := hb'.num hs' hr' i j hij
  have r1 := hs.pc i j
  have r2 := hs'.pc i j
  have hm := hs.m2
  obtain ⟨X, hX⟩ : ∃ X, Pl.pc t i j = X := ⟨_, rfl⟩
  obtain ⟨Y, hY⟩ : ∃ Y, Pl.pc t' i j = Y := ⟨_, rfl⟩
  rw [hX] at x3 r1 ⊢
  rw [hY] at y3 r2 ⊢
  obtain ⟨r1, r3⟩ := r1
  obtain ⟨r2, r4⟩ := r2
  have j1 : (0 : Int) ≤ (i : Int) := by omega
  have j2 : (i : Int) < (L : Int) := by omega
  have j3 : (0 : Int) ≤ (j : Int) := by omega
  have j4 : (j : Int) < (N : Int) := by omega
  have j5 : (i : Int) < (L' : Int) := by omega
  have j6 : (j : Int) < (N' : Int) := by omega
  clear hb hb' hr hr' hs hs' hX hY hL hN hL' hN'
  go_enter Try.func107, Try.ntmps107
  go_wp2
  go_quiet (fail)
  go_wp2
  go_ret
  exact ⟨rfl, below_drewN (Below.refl _ _) _⟩
set_option maxHeartbeats 2000000 in
set_option maxRecDepth 100000 in
theorem gplus_any (m : Int) (d : Nat) (A : Option Addr) (c : Nat) (t : List (List Int)) (A' : Option Addr) (c' : Nat) (t' : List (List Int)) (w : World) (hs : Pl.Ok m d t) (hs' : Pl.Ok m d t') (hr : RP w A t) (hr' : RP w A' t') :
    Calls Try.prog 64 #[.agg #[.int .i64 m, .int .i64 d, .slice A t.length c], .agg #[.int .i64 m, .int .i64 d, .slice A' t'.length c']] w fun e w' => ∃ v, e = .returned (.agg #[.int .i64 m, .int .i64 d, v]) ∧ OwnR w' w.heap.size w'.heap.size v (Pl.tab m d (fun i j => Pl.pc t i j + Pl.pc t' i j)) ∧ Below w.heap.size w w' := by
  obtain ⟨W, hW, b1, b2, v3, hwb⟩ := gpro2 w m d A t.length c m d A' t'.length c'
  have HS := Lib.hid (filled_any m d 107 #[.pointer (some ⟨w.heap.size, 0, none⟩), .pointer (some ⟨w.heap.size + 1, 0, none⟩)] (fun i j => Pl.pc t i j + Pl.pc t' i j) W (by have := hs.m1; omega) hs.m2 (by have := hs.d2; omega)
    (fun i j hij => by have := hs.pc i j; have := hs'.pc i j; have := hs.m2; omega) (enters_fn Try.func107 (of_decide_eq_true (by kernel_rfl)) rfl)
    (fun i j W1 hij hb => gplusC_any i j _ _ m d A c t A' c' t' W1 (b1.keep hb) (b2.keep hb) hs hs' ((hr.below hwb).below hb) ((hr'.below hwb).below hb) hij))
  have HB := Lib.hid hwb
  have HW := Lib.hid hW
  have V3 := Lib.hid v3
  obtain ⟨T, hT⟩ : ∃ T, Pl.tab m d (fun i j => Pl.pc t i j + Pl.pc t' i j) = T := ⟨_, rfl⟩
  rw [hT] at HS ⊢
  clear b1 b2 v3 hwb hW hr hr' hs hs' hT
  go_enter Try.func64, Try.ntmps64
  go_wp2_with fail
  rw [HW.out]
  refine HS.out.mono ?_
  rintro e w2 ⟨v, rfl, ho, hb⟩
  obtain ⟨A2, c2, rfl, -⟩ := ho.len
  have hv := V3.out.keep hb
  obtain ⟨q0, q1, q2, q3, q4, q5⟩ := hv.tells3
  obtain ⟨f0, f1, f2, f3, f4⟩ := fin_grid (w := w) hv ho (by have := V3.out.lt; omega) (by omega) (Nat.le_refl _) (below_step HB.out hb) (.int .i64 m) (.int .i64 d) (.slice A2 T.length c2)
  have F3 := Lib.hid (f3.low (show w.heap.size ≤ W.heap.size from HB.out.size))
  have F4 := Lib.hid f4
  unfold set3 at f0 f1 f2
  clear f3 f4 ho hv hb
  go_wp2
  exact bodyPost_ret (v := .agg #[.int .i64 m, .int .i64 d, .slice A2 T.length c2]) (by simp [results, Try.results64, go_sem, f0, f1, f2]) rfl ⟨_, rfl, F3.out, F4.out⟩
theorem pc_mul_bd {m : Int} {d : Nat} {t : List (List Int)} (hs : Pl.Ok m d t) (i j : Nat) {k : Int} (h1 : -10000 ≤ k) (h2 : k ≤ 10000) : -100000000 ≤ Pl.pc t i j * k ∧ Pl.pc t i j * k ≤ 100000000 := by
  have := hs.pc i j
  have := hs.m2
  exact mul_bd (by omega) (by omega) h1 h2
set_option maxHeartbeats 1000000 in
theorem gscaledC_any (i j g g' : Nat) (m : Int) (d : Nat) (A : Option Addr) (c : Nat) (t : List (List Int)) (k : Int) (W : World) (hb : GBox W g m d A t.length c) (hb' : Cel W g' k) (hs : Pl.Ok m d t) (hr : RP W A t) (hij : i + j ≤ d) (h5 : -10000 ≤ k) (h6 : k ≤ 10000) :
    Calls Try.prog 109 #[.int .i64 i, .int .i64 j, .pointer (some ⟨g, 0, none⟩), .pointer (some ⟨g', 0, none⟩)] W fun e w' => e = .returned (.int .i64 (Pl.pc t i j * k)) ∧ Below W.heap.size W w' := by
  obtain ⟨b, off, rfl⟩ := hr.some (by rw [hs.len]; omega)
  obtain ⟨p1, p2, p3, L, N, hL, hN, x1, x2, x3⟩ := hb.num hs hr i j hij
  obtain ⟨y1, _⟩ := hb'
  have hp := pc_mul_bd hs i j h5 h6
  obtain ⟨X, hX⟩ : ∃ X, Pl.pc t i j = X := ⟨_, rfl⟩
  rw [hX] at x3 hp ⊢
  obtain ⟨r1, r3⟩ := hp
  have j1 : (0 : Int) ≤ (i : Int) := by omega
  have j2 : (i : Int) < (L : Int) := by omega
  have j3 : (0 : Int) ≤ (j : Int) := by omega
  have j4 : (j : Int) < (N : Int) := by omega
  clear hb hr hs hX hL hN
  go_enter Try.func109, Try.ntmps109
  go_wp2
  go_quiet (fail)
  go_wp2
  go_ret
  exact ⟨rfl, below_drewN (Below.refl _ _) _⟩
set_option maxHeartbeats 2000000 in
set_option maxRecDepth 100000 in
theorem gscaled_any (m : Int) (d : Nat) (A : Option Addr) (c : Nat) (t : List (List Int)) (k : Int) (w : World) (hs : Pl.Ok m d t) (hr : RP w A t) (h5 : -10000 ≤ k) (h6 : k ≤ 10000) :
    Calls Try.prog 70 #[.agg #[.int .i64 m, .int .i64 d, .slice A t.length c], .int .i64 k] w fun e w' => ∃ v, e = .returned (.agg #[.int .i64 m, .int .i64 d, v]) ∧ OwnR w' w.heap.size w'.heap.size v (Pl.tab m d fun i j => Pl.pc t i j * k) ∧ Below w.heap.size w w' := by
  obtain ⟨W, hW⟩ : ∃ W, ((w.alloc (.cells #[.int .i64 m, .int .i64 d, .slice A t.length c] 66)).alloc (.cells #[.int .i64 k] 2)).alloc (.cells #[.int .i64 0, .int .i64 0, .slice none 0 0] 66) = W := ⟨_, rfl⟩
  have hwb : Below w.heap.size w W := by rw [← hW]; exact below_alloc _ (below_alloc _ (below_one _ _))
  have b1 : GBox W w.heap.size m d A t.length c := by rw [← hW]; exact ((GBox.new _ _ _ _ _ _ _).keep (below_one _ _)).keep (below_one _ _)
  have b2 : Cel W (w.heap.size + 1) k := by
    rw [← hW]
    have := (Cel.new (w.alloc (.cells #[.int .i64 m, .int .i64 d, .slice A t.length c] 66)) k).keep (below_one _ (.cells #[.int .i64 0, .int .i64 0, .slice none 0 0] 66))
    simpa using this
  have v3 : VarC 66 W (w.heap.size + 1 + 1) #[.int .i64 0, .int .i64 0, .slice none 0 0] := by
    rw [← hW]
    have := VarC.new 66 ((w.alloc (.cells #[.int .i64 m, .int .i64 d, .slice A t.length c] 66)).alloc (.cells #[.int .i64 k] 2)) #[.int .i64 0, .int .i64 0, .slice none 0 0]
    simpa using this
  have HS := Lib.hid (filled_any m d 109 #[.pointer (some ⟨w.heap.size, 0, none⟩), .pointer (some ⟨w.heap.size + 1, 0, none⟩)] (fun i j => Pl.pc t i j * k) W (by have := hs.m1; omega) hs.m2 (by have := hs.d2; omega)
    (fun i j hij => by have := pc_mul_bd hs i j h5 h6; omega) (enters_fn Try.func109 (of_decide_eq_true (by kernel_rfl)) rfl)
    (fun i j W1 hij hb => gscaledC_any i j _ _ m d A c t k W1 (b1.keep hb) (b2.keep hb) hs ((hr.below hwb).below hb) hij h5 h6))
  have HB := Lib.hid hwb
  have HW := Lib.hid hW
  have V3 := Lib.hid v3
  obtain ⟨T, hT⟩ : ∃ T, Pl.tab m d (fun i j => Pl.pc t i j * k) = T := ⟨_, rfl⟩
  rw [hT] at HS ⊢
  clear b1 b2 v3 hwb hW hr hs hT
  go_enter Try.func70, Try.ntmps70
  go_wp2_with fail
  rw [HW.out]
  refine HS.out.mono ?_
  rintro e w2 ⟨v, rfl, ho, hb⟩
  obtain ⟨A2, c2, rfl, -⟩ := ho.len
  have hv := V3.out.keep hb
  obtain ⟨q0, q1, q2, q3, q4, q5⟩ := hv.tells3
  obtain ⟨f0, f1, f2, f3, f4⟩ := fin_grid (w := w) hv ho (by have := V3.out.lt; omega) (by omega) (Nat.le_refl _) (below_step HB.out hb) (.int .i64 m) (.int .i64 d) (.slice A2 T.length c2)
  have F3 := Lib.hid (f3.low (show w.heap.size ≤ W.heap.size from HB.out.size))
  have F4 := Lib.hid f4
  unfold set3 at f0 f1 f2
  clear f3 f4 ho hv hb
  go_wp2
  exact bodyPost_ret (v := .agg #[.int .i64 m, .int .i64 d, .slice A2 T.length c2]) (by simp [results, Try.results70, go_sem, f0, f1, f2]) rfl ⟨_, rfl, F3.out, F4.out⟩
end Go.Proofs.Ytjgpdgoclianlaa
