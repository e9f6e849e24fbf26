/- Contracts of the grids of series. -/
import Derived.Test.YtjgpdgoclianlaaGop
import Derived.Test.YtjgpdgoclianlaaGtu
namespace Go.Proofs.Ytjgpdgoclianlaa
open Go.RowKit Go.WideShapes Go.ChangeShapes Go.ChangeAt

set_option maxHeartbeats 2000000 in
set_option maxRecDepth 100000 in
theorem frameOfSeries_any (m : Int) (A : Option Addr) (n c d : Nat) (w : World) (hn : n = d + 1) (hd : d ≤ 1000) :
    Calls Try.prog 113 #[.agg #[.int .i64 m, .slice A n c]] w fun e w' => e = .returned (.agg #[.int .i64 m, .int .i64 d]) ∧ Below w.heap.size w w' := by
  obtain ⟨W, hW⟩ : ∃ W, (w.alloc (.cells #[.int .i64 m, .slice A n c] 49)).alloc (.cells #[.int .i64 0, .int .i64 0] 64) = W := ⟨_, rfl⟩
  have hwb : Below w.heap.size w W := by rw [← hW]; exact below_alloc _ (below_one _ _)
  have b1 : Box W w.heap.size m A n c := by rw [← hW]; exact (Box.newT _ _ _ _ _ _).keep (below_one _ _)
  have v2 : VarC 64 W (w.heap.size + 1) #[.int .i64 0, .int .i64 0] := by
    rw [← hW]
    have := VarC.new 64 (w.alloc (.cells #[.int .i64 m, .slice A n c] 49)) #[.int .i64 0, .int .i64 0]
    simpa using this
  have HG := Lib.hid (fun W0 => degree_nat m A n c d W0 hn hd)
  have HB := Lib.hid hwb
  have HW := Lib.hid hW
  have V2 := Lib.hid v2
  obtain ⟨x1, x2, x3⟩ := b1
  clear hwb hW v2 hn
  go_enter Try.func113, Try.ntmps113
  go_wp2
  rw [HW.out]
  go_region_held3 (fun w' => w'.cell? ⟨w.heap.size, 0, none⟩ = some (.int .i64 m) ∧ w'.cell? ⟨w.heap.size, 1, none⟩ = some (.slice A n c) ∧ w.heap.size < w'.heap.size) (first | exact ⟨x1, x2, x3⟩ | exact box_store (by omega) (by assumption) | exact box_call (by assumption) (by assumption)) (first
    | (go_at_call 124; refine (HG.out _).mono ?_; rintro e1 w1 ⟨rfl, hb1⟩; have hv := V2.out.keep (below_step (below_drew0 _) hb1); obtain ⟨q0, q1, q2, q3⟩ := hv.tells2))
  all_goals
    have h2 := (hv.set 0 (.int .i64 m)).set 1 (.int .i64 d)
    obtain ⟨f0, f1, _⟩ := h2.tells2
    have HF := Lib.hid (((below_step HB.out (below_step (below_drew0 _) hb1)).setCell (p := ⟨w.heap.size + 1, 0, none⟩) (by show w.heap.size ≤ w.heap.size + 1; omega) (.int .i64 m)).setCell (p := ⟨w.heap.size + 1, 1, none⟩) (by show w.heap.size ≤ w.heap.size + 1; omega) (.int .i64 d))
    clear h2 hb1 hv
    go_wp2
    exact bodyPost_ret (v := .agg #[.int .i64 m, .int .i64 d]) (by simp [results, Try.results113, go_sem, f0, f1]) rfl ⟨rfl, HF.out⟩

theorem gosC_any (i j g : Nat) (m : Int) (d : Nat) (A : Option Addr) (c : Nat) (l : List Int) (W : World) (hb : Box W g m A l.length c) (hs : SerOk m d l) (hr : RI W A l) (hij : i + j ≤ d) :
    Calls Try.prog 114 #[.int .i64 i, .int .i64 j, .pointer (some ⟨g, 0, none⟩)] W fun e w' => e = .returned (.int .i64 (if i = 0 then Ser.co l j else 0)) ∧ Below W.heap.size W w' := by
  obtain ⟨_, x2, _⟩ := hb
  by_cases hi : i = 0
  · rw [if_pos hi]
    subst hi
    obtain ⟨b, off, rfl, hlt, hc⟩ := hr.at j (by rw [hs.len]; omega)
    obtain ⟨X, hX⟩ : ∃ X, Ser.co l j = X := ⟨_, rfl⟩
    rw [hX] at hc ⊢
    have j0 : (0 : Int) ≤ (j : Int) := by omega
    have j1 : (j : Int) < (l.length : Int) := by have := hs.len; omega
    clear hX hr hs
    go_enter Try.func114, Try.ntmps114
    go_wp2
    go_ret
    exact ⟨rfl, Below.refl _ _⟩
  · rw [if_neg hi]
    have hi2 : ¬ (i : Int) = 0 := by omega
    obtain ⟨n1, n2⟩ := ne_facts hi2
    clear hi hr hs
    go_enter Try.func114, Try.ntmps114
    go_wp2
    go_ret
    exact ⟨rfl, Below.refl _ _⟩
/-- the table of a(x) for k = 0, of a(y) else -/
def gosF (l : List Int) (k : Int) : Nat → Nat → Int := fun i j => if k = 0 then (if j = 0 then Ser.co l i else 0) else (if i = 0 then Ser.co l j else 0)
theorem gosF_turned (m : Int) (d : Nat) (l : List Int) : (Pl.tab m d fun i j => Pl.pc (Pl.tab m d fun i j => if i = 0 then Ser.co l j else 0) j i) = Pl.tab m d (gosF l 0) :=
  Pl.tab_congr (fun i j h => by
    rw [Pl.pc_tab (by omega), Int.emod_emod]
    unfold gosF
    rw [if_pos rfl])
theorem gosF_plain (m : Int) (d : Nat) (l : List Int) (k : Int) (hk : ¬ k = 0) : (Pl.tab m d fun i j => if i = 0 then Ser.co l j else 0) = Pl.tab m d (gosF l k) :=
  Pl.tab_congr (fun i j h => by unfold gosF; rw [if_neg hk])
set_option maxHeartbeats 2000000 in
set_option maxRecDepth 100000 in
theorem gridOfSeries_any (m : Int) (d : Nat) (A : Option Addr) (c : Nat) (l : List Int) (k : Int) (w : World) (hs : SerOk m d l) (hr : RI w A l) :
    Calls Try.prog 81 #[.agg #[.int .i64 m, .slice A l.length c], .int .i64 k] w fun e w' => ∃ v, e = .returned (.agg #[.int .i64 m, .int .i64 d, v]) ∧ OwnR w' w.heap.size w'.heap.size v (Pl.tab m d (gosF l k)) ∧ Below w.heap.size w w' := by
  obtain ⟨W, hW⟩ : ∃ W, (w.alloc (.cells #[.int .i64 m, .slice A l.length c] 49)).alloc (.cells #[.int .i64 0, .int .i64 0, .slice none 0 0] 66) = W := ⟨_, rfl⟩
  have hwb : Below w.heap.size w W := by rw [← hW]; exact below_alloc _ (below_one _ _)
  have b1 : Box W w.heap.size m A l.length c := by rw [← hW]; exact (Box.newT _ _ _ _ _ _).keep (below_one _ _)
  have v2 : VarC 66 W (w.heap.size + 1) #[.int .i64 0, .int .i64 0, .slice none 0 0] := by
    rw [← hW]
    have := VarC.new 66 (w.alloc (.cells #[.int .i64 m, .slice A l.length c] 49)) #[.int .i64 0, .int .i64 0, .slice none 0 0]
    simpa using this
  have HG := Lib.hid (fun W0 => frameOfSeries_any m A l.length c d W0 hs.len (by have := hs.d2; omega))
  have hm1 := hs.m1
  have HS := Lib.hid (fun W0 (h : Below W.heap.size W W0) => filled_any m d 114 #[.pointer (some ⟨w.heap.size, 0, none⟩)] (fun i j => if i = 0 then Ser.co l j else 0) W0 (by omega) hs.m2 (by have := hs.d2; omega)
    (fun i j hij => by have := hs.red j; have := hs.m2; split <;> omega) (enters_fn Try.func114 (of_decide_eq_true (by kernel_rfl)) rfl)
    (fun i j W1 hij hb => gosC_any i j _ m d A c l W1 ((b1.keep h).keep hb) hs (((hr.below hwb).below h).below hb) hij))
  have HT := Lib.hid (fun (W0 : World) (A0 : Option Addr) (c0 : Nat) (h : RP W0 A0 (Pl.tab m d fun i j => if i = 0 then Ser.co l j else 0)) => turned_any m d A0 c0 _ W0 (Pl.Ok.of_tab hs.m1 hs.m2 hs.d1 hs.d2 _) h)
  have HB := Lib.hid hwb
  have HW := Lib.hid hW
  have V3 := Lib.hid v2
  obtain ⟨x1, x2, x3⟩ := b1
  by_cases hk : k = 0
  · subst hk
    rw [gosF_turned] at HT
    obtain ⟨T0, hT0⟩ : ∃ T0, (Pl.tab m d fun i j => if i = 0 then Ser.co l j else 0) = T0 := ⟨_, rfl⟩
    obtain ⟨T, hT⟩ : ∃ T, Pl.tab m d (gosF l 0) = T := ⟨_, rfl⟩
    rw [hT0] at HS HT
    rw [hT] at HT ⊢
    clear hwb hW v2 hr hs hT hT0
    go_enter Try.func81, Try.ntmps81
    go_wp2_with fail
    rw [HW.out]
    refine (HG.out _).mono ?_
    rintro e w1 ⟨rfl, hb1⟩
    go_wp2_with fail
    refine (HS.out _ hb1).mono ?_
    rintro e w2 ⟨v, rfl, ho2, hb2⟩
    obtain ⟨A1, c1, rfl, hp⟩ := ho2.len
    have HP := Lib.hid (hp.below (below_one w2 (.cells #[.int .i64 m, .int .i64 d, .slice A1 T0.length c1] 66)))
    have hb12 := below_alloc (.cells #[.int .i64 m, .int .i64 d, .slice A1 T0.length c1] 66) (below_step hb1 hb2)
    clear ho2 hp
    go_wp2_with fail
    refine (HT.out _ _ _ HP.out).mono ?_
    rintro e w3 ⟨v, rfl, ho, hb3⟩
    obtain ⟨A2, c2, rfl, -⟩ := ho.len
    have hb := below_step hb12 hb3
    have hv := V3.out.keep hb
    obtain ⟨q0, q1, q2, q3, q4, q5⟩ := hv.tells3
    obtain ⟨f0, f1, f2, f3, f4⟩ := fin_grid (w := w) hv ho (by have := V3.out.lt; have := hb12.size; omega) (by omega) (Nat.le_refl _) (below_step HB.out hb) (.int .i64 m) (.int .i64 d) (.slice A2 T.length c2)
    have F3 := Lib.hid (f3.low (lo' := w.heap.size) (by have := V3.out.lt; have := hb12.size; omega))
    have F4 := Lib.hid f4
    unfold set3 at f0 f1 f2
    clear f3 f4 ho hv hb hb12
    go_wp2
    exact bodyPost_ret (v := .agg #[.int .i64 m, .int .i64 d, .slice A2 T.length c2]) (by simp [results, Try.results81, go_sem, f0, f1, f2]) rfl ⟨_, rfl, F3.out, F4.out⟩
  · obtain ⟨n1, n2⟩ := ne_facts hk
    rw [← gosF_plain m d l k hk]
    obtain ⟨T, hT⟩ : ∃ T0, (Pl.tab m d fun i j => if i = 0 then Ser.co l j else 0) = T0 := ⟨_, rfl⟩
    rw [hT] at HS ⊢
    clear hwb hW v2 hr hs hT HT
    go_enter Try.func81, Try.ntmps81
    go_wp2_with fail
    rw [HW.out]
    refine (HG.out _).mono ?_
    rintro e w1 ⟨rfl, hb1⟩
    go_wp2_with fail
    refine (HS.out _ hb1).mono ?_
    rintro e w2 ⟨v, rfl, ho2, hb2⟩
    obtain ⟨A2, c2, rfl, hp⟩ := ho2.len
    have hb := below_alloc (.cells #[.int .i64 m, .int .i64 d, .slice A2 T.length c2] 66) (below_step hb1 hb2)
    have ho := ho2.keep (below_one w2 (.cells #[.int .i64 m, .int .i64 d, .slice A2 T.length c2] 66))
    have hv := V3.out.keep hb
    obtain ⟨q0, q1, q2, q3, q4, q5⟩ := hv.tells3
    obtain ⟨f0, f1, f2, f3, f4⟩ := fin_grid (w := w) hv ho (by have := V3.out.lt; have := hb1.size; omega) (by omega) (below_one w2 _).size (below_step HB.out hb) (.int .i64 m) (.int .i64 d) (.slice A2 T.length c2)
    have F3 := Lib.hid (f3.low (lo' := w.heap.size) (by have := V3.out.lt; have := hb1.size; omega))
    have F4 := Lib.hid f4
    unfold set3 at f0 f1 f2
    clear f3 f4 ho hv hb ho2 hp
    go_wp2
    exact bodyPost_ret (v := .agg #[.int .i64 m, .int .i64 d, .slice A2 T.length c2]) (by simp [results, Try.results81, go_sem, f0, f1, f2]) rfl ⟨_, rfl, F3.out, F4.out⟩
end Go.Proofs.Ytjgpdgoclianlaa
