/- Texts of contracts, joined. -/
import Derived.Test.YtlpfifdocgljnaaMgag
import Derived.Test.YtlpfifdocgljnaaMgac
import Derived.Test.YtlpfifdocgljnaaMgaf
import Derived.StillTailTactics
import Derived.Deep.DeepCutAuto
/- Contracts of a grid with curves put into both variables, and of its diagonal. -/
namespace Go.Proofs.Ytlpfifdocgljnaa
open Go.RowKit Go.WideShapes Go.ChangeShapes Go.ChangeAt

/-- a grid's box, two series' boxes, the result's variable -/
theorem gproC (w : World) (m : Int) (d : Nat) (A : Option Addr) (n c : Nat) (m1 : Int) (A1 : Option Addr) (n1 c1 : Nat) (m2 : Int) (A2 : Option Addr) (n2 c2 : Nat) :
    ∃ W, (((w.alloc (.cells #[.int .i64 m, .int .i64 d, .slice A n c] 59)).alloc (.cells #[.int .i64 m1, .slice A1 n1 c1] 34)).alloc (.cells #[.int .i64 m2, .slice A2 n2 c2] 34)).alloc (.cells #[.int .i64 0, .int .i64 0, .slice none 0 0] 59) = W ∧
    GBox W w.heap.size m d A n c ∧ Box W (w.heap.size + 1) m1 A1 n1 c1 ∧ Box W (w.heap.size + 1 + 1) m2 A2 n2 c2 ∧ VarC 59 W (w.heap.size + 1 + 1 + 1) #[.int .i64 0, .int .i64 0, .slice none 0 0] ∧ Below w.heap.size w W := by
  refine ⟨_, rfl, (((GBox.new _ _ _ _ _ _ _).keep (below_one _ _)).keep (below_one _ _)).keep (below_one _ _), ?_, ?_, ?_, below_alloc _ (below_alloc _ (below_alloc _ (below_one _ _)))⟩
  · have := ((Box.newT 34 (w.alloc (.cells #[.int .i64 m, .int .i64 d, .slice A n c] 59)) m1 A1 n1 c1).keep (below_one _ (.cells #[.int .i64 m2, .slice A2 n2 c2] 34))).keep (below_one _ (.cells #[.int .i64 0, .int .i64 0, .slice none 0 0] 59))
    simpa using this
  · have := (Box.newT 34 ((w.alloc (.cells #[.int .i64 m, .int .i64 d, .slice A n c] 59)).alloc (.cells #[.int .i64 m1, .slice A1 n1 c1] 34)) m2 A2 n2 c2).keep (below_one _ (.cells #[.int .i64 0, .int .i64 0, .slice none 0 0] 59))
    simpa using this
  · have := VarC.new 59 (((w.alloc (.cells #[.int .i64 m, .int .i64 d, .slice A n c] 59)).alloc (.cells #[.int .i64 m1, .slice A1 n1 c1] 34)).alloc (.cells #[.int .i64 m2, .slice A2 n2 c2] 34)) #[.int .i64 0, .int .i64 0, .slice none 0 0]
    simpa using this
theorem GBox.far {w : World} {g : Nat} {m : Int} {d : Nat} {A : Option Addr} {n c : Nat} (h : GBox w g m d A n c) (b i : Nat) (u : Value) (hne : b ≠ g) : GBox (w.setCell ⟨b, i, none⟩ u) g m d A n c := by
  have hb := Below.heap_setCell w ⟨b, i, none⟩ u g (fun e => hne e.symm)
  exact ⟨(World.cell?_of_block (a := ⟨g, 0, none⟩) hb).trans h.1, (World.cell?_of_block (a := ⟨g, 1, none⟩) hb).trans h.2.1, (World.cell?_of_block (a := ⟨g, 2, none⟩) hb).trans h.2.2.1, by simpa [World.setCell] using h.2.2.2⟩
theorem Box.far {w : World} {g : Nat} {m : Int} {A : Option Addr} {n c : Nat} (h : Box w g m A n c) (b i : Nat) (u : Value) (hne : b ≠ g) : Box (w.setCell ⟨b, i, none⟩ u) g m A n c := by
  have hb := Below.heap_setCell w ⟨b, i, none⟩ u g (fun e => hne e.symm)
  exact ⟨(World.cell?_of_block (a := ⟨g, 0, none⟩) hb).trans h.1, (World.cell?_of_block (a := ⟨g, 1, none⟩) hb).trans h.2.1, by simpa [World.setCell] using h.2.2⟩
/-- what lies in three boxes is kept by a call and by a store elsewhere -/
theorem k3_call {w w' : World} {g g1 g2 : Nat} {m : Int} {d : Nat} {A : Option Addr} {n c : Nat} {m1 : Int} {A1 : Option Addr} {n1 c1 : Nat} {m2 : Int} {A2 : Option Addr} {n2 c2 : Nat} (hb : Below w.heap.size w w')
    (h : (w.cell? ⟨g, 0, none⟩ = some (.int .i64 m) ∧ w.cell? ⟨g, 1, none⟩ = some (.int .i64 d) ∧ w.cell? ⟨g, 2, none⟩ = some (.slice A n c) ∧ g < w.heap.size) ∧ (w.cell? ⟨g1, 0, none⟩ = some (.int .i64 m1) ∧ w.cell? ⟨g1, 1, none⟩ = some (.slice A1 n1 c1) ∧ g1 < w.heap.size) ∧ (w.cell? ⟨g2, 0, none⟩ = some (.int .i64 m2) ∧ w.cell? ⟨g2, 1, none⟩ = some (.slice A2 n2 c2) ∧ g2 < w.heap.size)) :
    (w'.cell? ⟨g, 0, none⟩ = some (.int .i64 m) ∧ w'.cell? ⟨g, 1, none⟩ = some (.int .i64 d) ∧ w'.cell? ⟨g, 2, none⟩ = some (.slice A n c) ∧ g < w'.heap.size) ∧ (w'.cell? ⟨g1, 0, none⟩ = some (.int .i64 m1) ∧ w'.cell? ⟨g1, 1, none⟩ = some (.slice A1 n1 c1) ∧ g1 < w'.heap.size) ∧ (w'.cell? ⟨g2, 0, none⟩ = some (.int .i64 m2) ∧ w'.cell? ⟨g2, 1, none⟩ = some (.slice A2 n2 c2) ∧ g2 < w'.heap.size) :=
  ⟨GBox.keep (show GBox w g m d A n c from h.1) hb, Box.keep (show Box w g1 m1 A1 n1 c1 from h.2.1) hb, Box.keep (show Box w g2 m2 A2 n2 c2 from h.2.2) hb⟩
theorem k3_store {w : World} {b g g1 g2 : Nat} {m : Int} {d : Nat} {A : Option Addr} {n c : Nat} {m1 : Int} {A1 : Option Addr} {n1 c1 : Nat} {m2 : Int} {A2 : Option Addr} {n2 c2 : Nat} {x y z : Value} (e0 : b ≠ g) (e1 : b ≠ g1) (e2 : b ≠ g2)
    (h : (w.cell? ⟨g, 0, none⟩ = some (.int .i64 m) ∧ w.cell? ⟨g, 1, none⟩ = some (.int .i64 d) ∧ w.cell? ⟨g, 2, none⟩ = some (.slice A n c) ∧ g < w.heap.size) ∧ (w.cell? ⟨g1, 0, none⟩ = some (.int .i64 m1) ∧ w.cell? ⟨g1, 1, none⟩ = some (.slice A1 n1 c1) ∧ g1 < w.heap.size) ∧ (w.cell? ⟨g2, 0, none⟩ = some (.int .i64 m2) ∧ w.cell? ⟨g2, 1, none⟩ = some (.slice A2 n2 c2) ∧ g2 < w.heap.size)) :
    let w' := ((w.setCell ⟨b, 0, none⟩ x).setCell ⟨b, 1, none⟩ y).setCell ⟨b, 2, none⟩ z
    (w'.cell? ⟨g, 0, none⟩ = some (.int .i64 m) ∧ w'.cell? ⟨g, 1, none⟩ = some (.int .i64 d) ∧ w'.cell? ⟨g, 2, none⟩ = some (.slice A n c) ∧ g < w'.heap.size) ∧ (w'.cell? ⟨g1, 0, none⟩ = some (.int .i64 m1) ∧ w'.cell? ⟨g1, 1, none⟩ = some (.slice A1 n1 c1) ∧ g1 < w'.heap.size) ∧ (w'.cell? ⟨g2, 0, none⟩ = some (.int .i64 m2) ∧ w'.cell? ⟨g2, 1, none⟩ = some (.slice A2 n2 c2) ∧ g2 < w'.heap.size) :=
  ⟨(((show GBox w g m d A n c from h.1).far b 0 x e0).far b 1 y e0).far b 2 z e0, (((show Box w g1 m1 A1 n1 c1 from h.2.1).far b 0 x e1).far b 1 y e1).far b 2 z e1, (((show Box w g2 m2 A2 n2 c2 from h.2.2).far b 0 x e2).far b 1 y e2).far b 2 z e2⟩

theorem wc_tables {m : Int} {d : Nat} {t : List (List Int)} {l1 l2 : List Int} (z1 : Ser.co l1 0 = 0) (z2 : Ser.co l2 0 = 0) :
    Pl.tab m d (fun i j => Pl.pc (Pl.tab m d (wcyF (Pl.tab m d fun i j => Pl.pc (Pl.tab m d (wcyF t l2)) j i) l1)) j i) = Pl.botT m d (Pl.pc t) l1 l2 := by
  unfold Pl.botT
  rw [← Pl.steps (m := m) (d := d) (F := Pl.pc t) z1 z2]
  have e : (Pl.tab m d fun i j => Pl.pc (Pl.tab m d (wcyF t l2)) j i) = Pl.tab m d fun q' i => Ser.comp (Pl.pc t i) (Ser.co l2) q' :=
    Pl.tab_congr (fun p q h => by rw [Pl.pc_tab (by omega), Int.emod_emod]; rfl)
  rw [e]
  exact Pl.tab_congr (fun p q h => by rw [Pl.pc_tab (by omega), Int.emod_emod]; rfl)

set_option maxHeartbeats 8000000 in
set_option maxRecDepth 100000 in
theorem withCurves_any (m : Int) (d : Nat) (A : Option Addr) (c : Nat) (t : List (List Int)) (A1 : Option Addr) (c1 : Nat) (l1 : List Int) (A2 : Option Addr) (c2 : Nat) (l2 : List Int) (w : World) (hs : Pl.Ok m d t) (s1 : SerOk m d l1) (s2 : SerOk m d l2) (z1 : Ser.co l1 0 = 0) (z2 : Ser.co l2 0 = 0) (hr : RP w A t) (hr1 : RI w A1 l1) (hr2 : RI w A2 l2) :
    Calls Try.prog 68 #[.agg #[.int .i64 m, .int .i64 d, .slice A t.length c], .agg #[.int .i64 m, .slice A1 l1.length c1], .agg #[.int .i64 m, .slice A2 l2.length c2]] w fun e w' => ∃ v, e = .returned (.agg #[.int .i64 m, .int .i64 d, v]) ∧ OwnR w' w.heap.size w'.heap.size v (Pl.botT m d (Pl.pc t) l1 l2) ∧ Below w.heap.size w w' := by
  obtain ⟨W, hW, b1, b2, b3, v4, hwb⟩ := gproC w m d A t.length c m A1 l1.length c1 m A2 l2.length c2
  have H1 := Lib.hid (fun W0 (h : Below W.heap.size W W0) => withCurveInY_any m d A c t A2 c2 l2 W0 hs s2 z2 ((hr.below hwb).below h) ((hr2.below hwb).below h))
  have htab := wc_tables (m := m) (d := d) (t := t) z1 z2
  obtain ⟨T1, hT1⟩ : ∃ T1, Pl.tab m d (wcyF t l2) = T1 := ⟨_, rfl⟩
  have ok1 : Pl.Ok m d T1 := by rw [← hT1]; exact hs.tab _
  rw [hT1] at H1 htab
  have H2 := Lib.hid (fun W0 (A0 : Option Addr) (c0 : Nat) (h : RP W0 A0 T1) => turned_any m d A0 c0 T1 W0 ok1 h)
  obtain ⟨T2, hT2⟩ : ∃ T2, (Pl.tab m d fun i j => Pl.pc T1 j i) = T2 := ⟨_, rfl⟩
  have ok2 : Pl.Ok m d T2 := by rw [← hT2]; exact hs.tab _
  rw [hT2] at H2 htab
  have H3 := Lib.hid (fun W0 (A0 : Option Addr) (c0 : Nat) (hb : Below W.heap.size W W0) (h : RP W0 A0 T2) => withCurveInY_any m d A0 c0 T2 A1 c1 l1 W0 ok2 s1 z1 h ((hr1.below hwb).below hb))
  obtain ⟨T3, hT3⟩ : ∃ T3, Pl.tab m d (wcyF T2 l1) = T3 := ⟨_, rfl⟩
  have ok3 : Pl.Ok m d T3 := by rw [← hT3]; exact hs.tab _
  rw [hT3] at H3 htab
  have H4 := Lib.hid (fun W0 (A0 : Option Addr) (c0 : Nat) (h : RP W0 A0 T3) => turned_any m d A0 c0 T3 W0 ok3 h)
  obtain ⟨T4, hT4⟩ : ∃ T4, Pl.botT m d (Pl.pc t) l1 l2 = T4 := ⟨_, rfl⟩
  rw [hT4] at htab ⊢
  rw [htab] at H4
  obtain ⟨B1, B2, B3⟩ := (⟨b1, b2, b3⟩ : _ ∧ _ ∧ _)
  have V4 := Lib.hid v4
  have HB := Lib.hid hwb
  have HW := Lib.hid hW
  obtain ⟨L, hL⟩ : ∃ L, t.length = L := ⟨_, rfl⟩
  obtain ⟨n1, hn1⟩ : ∃ L, l1.length = L := ⟨_, rfl⟩
  obtain ⟨n2, hn2⟩ : ∃ L, l2.length = L := ⟨_, rfl⟩
  rw [hL] at H1 HW B1 ⊢
  rw [hn1] at H3 HW B2 ⊢
  rw [hn2] at H1 HW B3 ⊢
  have X0 := Lib.hid (k3_call (below_drew0 W) ⟨B1, B2, B3⟩)
  obtain ⟨p1, p2, p3⟩ : (w.heap.size + 1 + 1 + 1 ≠ w.heap.size) ∧ (w.heap.size + 1 + 1 + 1 ≠ w.heap.size + 1) ∧ (w.heap.size + 1 + 1 + 1 ≠ w.heap.size + 1 + 1) := ⟨by omega, by omega, by omega⟩
  have E1 := Lib.hid p1
  have E2 := Lib.hid p2
  have E3 := Lib.hid p3
  clear b1 b2 b3 v4 hwb hW hr hr1 hr2 hs s1 s2 z1 z2 hL hn1 hn2 hT1 hT2 hT3 hT4 htab ok1 ok2 ok3 B1 B2 B3 p1 p2 p3
  go_enter Try.func68, Try.ntmps68
  go_wp2
  rw [HW.out]
  go_region_held3 (fun w' => (w'.cell? ⟨w.heap.size, 0, none⟩ = some (.int .i64 m) ∧ w'.cell? ⟨w.heap.size, 1, none⟩ = some (.int .i64 d) ∧ w'.cell? ⟨w.heap.size, 2, none⟩ = some (.slice A L c) ∧ w.heap.size < w'.heap.size) ∧ (w'.cell? ⟨w.heap.size + 1, 0, none⟩ = some (.int .i64 m) ∧ w'.cell? ⟨w.heap.size + 1, 1, none⟩ = some (.slice A1 n1 c1) ∧ w.heap.size + 1 < w'.heap.size) ∧ (w'.cell? ⟨w.heap.size + 1 + 1, 0, none⟩ = some (.int .i64 m) ∧ w'.cell? ⟨w.heap.size + 1 + 1, 1, none⟩ = some (.slice A2 n2 c2) ∧ w.heap.size + 1 + 1 < w'.heap.size)) (first | exact X0.out | exact k3_call bd (by assumption) | exact k3_call bc (by assumption) | exact k3_call bb (by assumption) | exact k3_call ba (by assumption) | exact k3_store E1.out E2.out E3.out (by assumption)) (first
    | (go_at_call 98; with_reducible refine Calls.mono (H1.out _ (below_drew0 W)) ?_; rintro e wa ⟨sa, rfl, oa, ba⟩; obtain ⟨Aa, ca, rfl, -⟩ := oa.len)
    | (go_at_call 96; with_reducible refine Calls.mono (H2.out _ _ _ oa.rp) ?_; rintro e wb ⟨sb, rfl, ob, bb⟩; obtain ⟨Ab, cb, rfl, -⟩ := ob.len)
    | (go_at_call 98; with_reducible refine Calls.mono (H3.out _ _ _ (below_step (below_step (below_drew0 W) ba) bb) ob.rp) ?_; rintro e wc ⟨sc, rfl, oc, bc⟩; obtain ⟨Ac, cc, rfl, -⟩ := oc.len)
    | (go_at_call 96; with_reducible refine Calls.mono (H4.out _ _ _ oc.rp) ?_; rintro e wd ⟨sd, rfl, od, bd⟩; obtain ⟨Ad, cd, rfl, -⟩ := od.len; have hv := V4.out.keep (below_step (below_step (below_step (below_step (below_drew0 W) ba) bb) bc) bd); obtain ⟨q0, q1, q2, q3, q4, q5⟩ := hv.tells3))
  all_goals
    have hb5 := below_step (below_step (below_step (below_drew0 W) ba) bb) bc
    have hsz := hb5.size
    have hlt := V4.out.lt
    have hlo := HB.out.size
    obtain ⟨f0, f1, f2, f3, f4⟩ := fin_grid (w := w) hv od (by omega) (by omega) (Nat.le_refl _) (below_step HB.out (below_step hb5 bd)) (.int .i64 m) (.int .i64 d) (.slice Ad T4.length cd)
    have F3 := Lib.hid (f3.low (lo' := w.heap.size) (by omega))
    have F4 := Lib.hid f4
    unfold set3 at f0 f1 f2
    clear f3 f4 od hv hb5 ba bb bc bd oa ob oc
    go_wp2
    exact bodyPost_ret (v := .agg #[.int .i64 m, .int .i64 d, .slice Ad T4.length cd]) (by simp [results, Try.results68, go_sem, f0, f1, f2]) rfl ⟨_, rfl, F3.out, F4.out⟩

/-! the diagonal -/
end Go.Proofs.Ytlpfifdocgljnaa

/- Contracts of the model's powers of a list, and of its sum for f(a(t), b(t)). -/
namespace Go.Proofs.Ytlpfifdocgljnaa
open Go.RowKit Go.WideShapes Go.ChangeShapes Go.ChangeAt

/-- a new slice of one row -/
theorem OwnR.lit1 (w : World) (lo : Nat) (u : Value) (r : List Int) (hu : OwnI w lo u r) (hb : ∀ g, u.ownBlock = some g → g < w.heap.size) (hlo : lo ≤ w.heap.size) :
    OwnR (w.alloc (.cells #[u] 25)) lo (w.heap.size + 1) (.slice (some ⟨w.heap.size, 0, none⟩) 1 1) [r] := by
  have h1 := World.ownsRow_lit (base := lo) (e := 25) (size := 1) w #[u] 1 hlo (by unfold maxLen; omega) (by simp)
  refine ⟨[u], h1, ?_, ?_, ?_⟩
  · intro g hg
    have : g = w.heap.size := by simpa [Value.ownBlock] using hg.symm
    omega
  · intro i r' hr
    match i, hr with
    | 0, hr =>
      simp at hr
      subst hr
      exact ⟨u, rfl, hu.alloc _, fun g hg => by have := hb g hg; omega⟩
  · intro i j x y hij hx hy
    have hj := (List.getElem?_eq_some_iff.1 hy).1
    simp at hj
    omega
/-- the list of the powers -/
def pwsL (m : Int) (d : Nat) (a : List Int) : List (List Int) := (List.range (d + 1)).map (Ser.pwL m d a)
theorem pwsL_length (m : Int) (d : Nat) (a : List Int) : (pwsL m d a).length = d + 1 := by simp [pwsL]
theorem pwsL_take_succ (m : Int) (d : Nat) (a : List Int) (k : Nat) (h : k ≤ d) : (pwsL m d a).take (k + 1) = (pwsL m d a).take k ++ [Ser.pwL m d a k] := by
  rw [List.take_succ_eq_append_getElem (by rw [pwsL_length]; omega)]
  simp [pwsL]
theorem pwsL_row (m : Int) (d : Nat) (a : List Int) (n k : Nat) (h : k < n) (hk : k ≤ d) : Pl.rw' ((pwsL m d a).take n) k = Ser.pwL m d a k := by
  unfold Pl.rw' pwsL
  rw [List.getElem?_take_of_lt h, List.getElem?_map, List.getElem?_range (by omega)]; rfl
theorem pwsL_rw (m : Int) (d : Nat) (a : List Int) (k : Nat) (hk : k ≤ d) : Pl.rw' (pwsL m d a) k = Ser.pwL m d a k := by
  unfold Pl.rw' pwsL
  rw [List.getElem?_map, List.getElem?_range (by omega)]; rfl
theorem pwL_red {m : Int} (hm : 0 < m) (d : Nat) (a : List Int) (k : Nat) : Ser.Red m (Ser.pwL m d a k) := by
  rw [Ser.pwL_cut]; exact Ser.cut_red hm _ _
theorem one_listP (m : Int) (d : Nat) (m1 : 2 ≤ m) : (List.replicate (d + 1) (0 : Int)).set 0 1 = Ser.one m d := by
  refine Ser.list_ext (by simp [Ser.one, Ser.cut_length]) (fun i hi => ?_)
  rw [List.length_set, List.length_replicate] at hi
  rw [Ser.co_set (by simp), Ser.one, Ser.co_cut (by omega), Ser.co_zeros]
  unfold Ser.mon
  by_cases h : i = 0
  · rw [if_pos h, Int.emod_eq_of_lt (by omega) (by omega)]
  · rw [if_neg h, Int.zero_emod]
theorem Pl.Ok.over {m : Int} {d : Nat} {t : List (List Int)} (h : Pl.Ok m d t) (i j : Nat) (hij : d < i + j) : Pl.pc t i j = 0 := by
  show Ser.co (Pl.rw' t i) j = 0
  by_cases hi : i ≤ d
  · exact Ser.co_over (by rw [h.row i hi]; omega)
  · rw [Pl.rw_over (by rw [h.len]; omega)]; exact Ser.co_nil j

end Go.Proofs.Ytlpfifdocgljnaa

/- Contract of the model's sum for f(a(t), b(t)). -/
namespace Go.Proofs.Ytlpfifdocgljnaa
open Go.RowKit Go.WideShapes Go.ChangeShapes Go.ChangeAt

theorem kpw_call {w w' : World} {a1 a2 a3 a4 : Addr} {x y z u : Value} (hb : Below w.heap.size w w') (hs : (w.cell? a1 = some x ∧ w.cell? a2 = some y) ∧ (w.cell? a3 = some z ∧ w.cell? a4 = some u)) : (w'.cell? a1 = some x ∧ w'.cell? a2 = some y) ∧ (w'.cell? a3 = some z ∧ w'.cell? a4 = some u) :=
  ⟨kp_call hb hs.1, kp_call hb hs.2⟩
end Go.Proofs.Ytlpfifdocgljnaa

