/- Texts of contracts, joined. -/
import Derived.Test.YtfhdgcndiljjcaaGreatDoorMgad
import Derived.Test.YtfhdgcndiljjcaaGreatDoorMgab
import Derived.Test.YtfhdgcndiljjcaaGreatDoorMgaa
import Derived.Test.YtfhdgcndiljjcaaGreatDoorMgac
import Derived.StillTailTactics
import Derived.Deep.DeepCutAuto
/- Contracts of a grid with curves put into both variables, and of its diagonal. -/
namespace Go.Proofs.YtfhdgcndiljjcaaGreatDoor
open Go.RowKit Go.WideShapes Go.ChangeShapes Go.ChangeAt

/-- a grid's box, two series' boxes, the result's variable -/
theorem gproC (w : World) (m : Int) (d : Nat) (A : Option Addr) (n c : Nat) (m1 : Int) (A1 : Option Addr) (n1 c1 : Nat) (m2 : Int) (A2 : Option Addr) (n2 c2 : Nat) :
    ∃ W, (((w.alloc (.cells #[.int .i64 m, .int .i64 d, .slice A n c] 63)).alloc (.cells #[.int .i64 m1, .slice A1 n1 c1] 71)).alloc (.cells #[.int .i64 m2, .slice A2 n2 c2] 71)).alloc (.cells #[.int .i64 0, .int .i64 0, .slice none 0 0] 63) = W ∧
    GBox W w.heap.size m d A n c ∧ Box W (w.heap.size + 1) m1 A1 n1 c1 ∧ Box W (w.heap.size + 1 + 1) m2 A2 n2 c2 ∧ VarC 63 W (w.heap.size + 1 + 1 + 1) #[.int .i64 0, .int .i64 0, .slice none 0 0] ∧ Below w.heap.size w W := by
  refine ⟨_, rfl, (((GBox.new _ _ _ _ _ _ _).keep (below_one _ _)).keep (below_one _ _)).keep (below_one _ _), ?_, ?_, ?_, below_alloc _ (below_alloc _ (below_alloc _ (below_one _ _)))⟩
  · have := ((Box.newT 71 (w.alloc (.cells #[.int .i64 m, .int .i64 d, .slice A n c] 63)) m1 A1 n1 c1).keep (below_one _ (.cells #[.int .i64 m2, .slice A2 n2 c2] 71))).keep (below_one _ (.cells #[.int .i64 0, .int .i64 0, .slice none 0 0] 63))
    simpa using this
  · have := (Box.newT 71 ((w.alloc (.cells #[.int .i64 m, .int .i64 d, .slice A n c] 63)).alloc (.cells #[.int .i64 m1, .slice A1 n1 c1] 71)) m2 A2 n2 c2).keep (below_one _ (.cells #[.int .i64 0, .int .i64 0, .slice none 0 0] 63))
    simpa using this
  · have := VarC.new 63 (((w.alloc (.cells #[.int .i64 m, .int .i64 d, .slice A n c] 63)).alloc (.cells #[.int .i64 m1, .slice A1 n1 c1] 71)).alloc (.cells #[.int .i64 m2, .slice A2 n2 c2] 71)) #[.int .i64 0, .int .i64 0, .slice none 0 0]
    simpa using this
theorem GBox.far {w : World} {g : Nat} {m : Int} {d : Nat} {A : Option Addr} {n c : Nat} (h : GBox w g m d A n c) (b i : Nat) (u : Value) (hne : b ≠ g) : GBox (w.setCell ⟨b, i, none⟩ u) g m d A n c := by
  have hb := Below.heap_setCell w ⟨b, i, none⟩ u g (fun e => hne e.symm)
  exact ⟨(World.cell?_of_block (a := ⟨g, 0, none⟩) hb).trans h.1, (World.cell?_of_block (a := ⟨g, 1, none⟩) hb).trans h.2.1, (World.cell?_of_block (a := ⟨g, 2, none⟩) hb).trans h.2.2.1, by simpa [World.setCell] using h.2.2.2⟩
theorem Box.far {w : World} {g : Nat} {m : Int} {A : Option Addr} {n c : Nat} (h : Box w g m A n c) (b i : Nat) (u : Value) (hne : b ≠ g) : Box (w.setCell ⟨b, i, none⟩ u) g m A n c := by
  have hb := Below.heap_setCell w ⟨b, i, none⟩ u g (fun e => hne e.symm)
  exact ⟨(World.cell?_of_block (a := ⟨g, 0, none⟩) hb).trans h.1, (World.cell?_of_block (a := ⟨g, 1, none⟩) hb).trans h.2.1, by simpa [World.setCell] using h.2.2⟩
/-- what lies in three boxes is kept by a call and by a store elsewhere -/
theorem k3_call {w w' : World} {g g1 g2 : Nat} {m : Int} {d : Nat} {A : Option Addr} {n c : Nat} {m1 : Int} {A1 : Option Addr} {n1 c1 : Nat} {m2 : Int} {A2 : Option Addr} {n2 c2 : Nat} (hb : Below w.heap.size w w')
    (h : (w.cell? ⟨g, 0, none⟩ = some (.int .i64 m) ∧ w.cell? ⟨g, 1, none⟩ = some (.int .i64 d) ∧ w.cell? ⟨g, 2, none⟩ = some (.slice A n c) ∧ g < w.heap.size) ∧ (w.cell? ⟨g1, 0, none⟩ = some (.int .i64 m1) ∧ w.cell? ⟨g1, 1, none⟩ = some (.slice A1 n1 c1) ∧ g1 < w.heap.size) ∧ (w.cell? ⟨g2, 0, none⟩ = some (.int .i64 m2) ∧ w.cell? ⟨g2, 1, none⟩ = some (.slice A2 n2 c2) ∧ g2 < w.heap.size)) :
    (w'.cell? ⟨g, 0, none⟩ = some (.int .i64 m) ∧ w'.cell? ⟨g, 1, none⟩ = some (.int .i64 d) ∧ w'.cell? ⟨g, 2, none⟩ = some (.slice A n c) ∧ g < w'.heap.size) ∧ (w'.cell? ⟨g1, 0, none⟩ = some (.int .i64 m1) ∧ w'.cell? ⟨g1, 1, none⟩ = some (.slice A1 n1 c1) ∧ g1 < w'.heap.size) ∧ (w'.cell? ⟨g2, 0, none⟩ = some (.int .i64 m2) ∧ w'.cell? ⟨g2, 1, none⟩ = some (.slice A2 n2 c2) ∧ g2 < w'.heap.size) :=
  ⟨GBox.keep (show GBox w g m d A n c from h.1) hb, Box.keep (show Box w g1 m1 A1 n1 c1 from h.2.1) hb, Box.keep (show Box w g2 m2 A2 n2 c2 from h.2.2) hb⟩
theorem k3_store {w : World} {b g g1 g2 : Nat} {m : Int} {d : Nat} {A : Option Addr} {n c : Nat} {m1 : Int} {A1 : Option Addr} {n1 c1 : Nat} {m2 : Int} {A2 : Option Addr} {n2 c2 : Nat} {x y z : Value} (e0 : b ≠ g) (e1 : b ≠ g1) (e2 : b ≠ g2)
    (h : (w.cell? ⟨g, 0, none⟩ = some (.int .i64 m) ∧ w.cell? ⟨g, 1, none⟩ = some (.int .i64 d) ∧ w.cell? ⟨g, 2, none⟩ = some (.slice A n c) ∧ g < w.heap.size) ∧ (w.cell? ⟨g1, 0, none⟩ = some (.int .i64 m1) ∧ w.cell? ⟨g1, 1, none⟩ = some (.slice A1 n1 c1) ∧ g1 < w.heap.size) ∧ (w.cell? ⟨g2, 0, none⟩ = some (.int .i64 m2) ∧ w.cell? ⟨g2, 1, none⟩ = some (.slice A2 n2 c2) ∧ g2 < w.heap.size)) :
    let w' := ((w.setCell ⟨b, 0, none⟩ x).setCell ⟨b, 1, none⟩ y).setCell ⟨b, 2, none⟩ z
    (w'.cell? ⟨g, 0, none⟩ = some (.int .i64 m) ∧ w'.cell? ⟨g, 1, none⟩ = some (.int .i64 d) ∧ w'.cell? ⟨g, 2, none⟩ = some (.slice A n c) ∧ g < w'.heap.size) ∧ (w'.cell? ⟨g1, 0, none⟩ = some (.int .i64 m1) ∧ w'.cell? ⟨g1, 1, none⟩ = some (.slice A1 n1 c1) ∧ g1 < w'.heap.size) ∧ (w'.cell? ⟨g2, 0, none⟩ = some (.int .i64 m2) ∧ w'.cell? ⟨g2, 1, none⟩ = some (.slice A2 n2 c2) ∧ g2 < w'.heap.size) :=
  ⟨(((show GBox w g m d A n c from h.1).far b 0 x e0).far b 1 y e0).far b 2 z e0, (((show Box w g1 m1 A1 n1 c1 from h.2.1).far b 0 x e1).far b 1 y e1).far b 2 z e1, (((show Box w g2 m2 A2 n2 c2 from h.2.2).far b 0 x e2).far b 1 y e2).far b 2 z e2⟩

theorem wc_tables {m : Int} {d : Nat} {t : List (List Int)} {l1 l2 : List Int} (z1 : Ser.co l1 0 = 0) (z2 : Ser.co l2 0 = 0) :
    Pl.tab m d (fun i j => Pl.pc (Pl.tab m d (wcyF (Pl.tab m d fun i j => Pl.pc (Pl.tab m d (wcyF t l2)) j i) l1)) j i) = Pl.botT m d (Pl.pc t) l1 l2 := by
  unfold Pl.botT
  rw [← Pl.steps (m := m) (d := d) (F := Pl.pc t) z1 z2]
  have e : (Pl.tab m d fun i j => Pl.pc (Pl.tab m d (wcyF t l2)) j i) = Pl.tab m d fun q' i => Ser.comp (Pl.pc t i) (Ser.co l2) q' :=
    Pl.tab_congr (fun p q h => by rw [Pl.pc_tab (by omega), Int.emod_emod]; rfl)
  rw [e]
  exact Pl.tab_congr (fun p q h => by rw [Pl.pc_tab (by omega), Int.emod_emod]; rfl)

set_option maxHeartbeats 8000000 in
set_option maxRecDepth 100000 in
theorem withCurves_any (m : Int) (d : Nat) (A : Option Addr) (c : Nat) (t : List (List Int)) (A1 : Option Addr) (c1 : Nat) (l1 : List Int) (A2 : Option Addr) (c2 : Nat) (l2 : List Int) (w : World) (hs : Pl.Ok m d t) (s1 : SerOk m d l1) (s2 : SerOk m d l2) (z1 : Ser.co l1 0 = 0) (z2 : Ser.co l2 0 = 0) (hr : RP w A t) (hr1 : RI w A1 l1) (hr2 : RI w A2 l2) :
    Calls Tryz.prog 97 #[.agg #[.int .i64 m, .int .i64 d, .slice A t.length c], .agg #[.int .i64 m, .slice A1 l1.length c1], .agg #[.int .i64 m, .slice A2 l2.length c2]] w fun e w' => ∃ v, e = .returned (.agg #[.int .i64 m, .int .i64 d, v]) ∧ OwnR w' w.heap.size w'.heap.size v (Pl.botT m d (Pl.pc t) l1 l2) ∧ Below w.heap.size w w' := by
  obtain ⟨W, hW, b1, b2, b3, v4, hwb⟩ := gproC w m d A t.length c m A1 l1.length c1 m A2 l2.length c2
  have H1 := Lib.hid (fun W0 (h : Below W.heap.size W W0) => withCurveInY_any m d A c t A2 c2 l2 W0 hs s2 z2 ((hr.below hwb).below h) ((hr2.below hwb).below h))
  have htab := wc_tables (m := m) (d := d) (t := t) z1 z2
  obtain ⟨T1, hT1⟩ : ∃ T1, Pl.tab m d (wcyF t l2) = T1 := ⟨_, rfl⟩
  have ok1 : Pl.Ok m d T1 := by rw [← hT1]; exact hs.tab _
  rw [hT1] at H1 htab
  have H2 := Lib.hid (fun W0 (A0 : Option Addr) (c0 : Nat) (h : RP W0 A0 T1) => turned_any m d A0 c0 T1 W0 ok1 h)
  obtain ⟨T2, hT2⟩ : ∃ T2, (Pl.tab m d fun i j => Pl.pc T1 j i) = T2 := ⟨_, rfl⟩
  have ok2 : Pl.Ok m d T2 := by rw [← hT2]; exact hs.tab _
  rw [hT2] at H2 htab
  have H3 := Lib.hid (fun W0 (A0 : Option Addr) (c0 : Nat) (hb : Below W.heap.size W W0) (h : RP W0 A0 T2) => withCurveInY_any m d A0 c0 T2 A1 c1 l1 W0 ok2 s1 z1 h ((hr1.below hwb).below hb))
  obtain ⟨T3, hT3⟩ : ∃ T3, Pl.tab m d (wcyF T2 l1) = T3 := ⟨_, rfl⟩
  have ok3 : Pl.Ok m d T3 := by rw [← hT3]; exact hs.tab _
  rw [hT3] at H3 htab
  have H4 := Lib.hid (fun W0 (A0 : Option Addr) (c0 : Nat) (h : RP W0 A0 T3) => turned_any m d A0 c0 T3 W0 ok3 h)
  obtain ⟨T4, hT4⟩ : ∃ T4, Pl.botT m d (Pl.pc t) l1 l2 = T4 := ⟨_, rfl⟩
  rw [hT4] at htab ⊢
  rw [htab] at H4
  obtain ⟨B1, B2, B3⟩ := (⟨b1, b2, b3⟩ : _ ∧ _ ∧ _)
  have V4 := Lib.hid v4
  have HB := Lib.hid hwb
  have HW := Lib.hid hW
  obtain ⟨L, hL⟩ : ∃ L, t.length = L := ⟨_, rfl⟩
  obtain ⟨n1, hn1⟩ : ∃ L, l1.length = L := ⟨_, rfl⟩
  obtain ⟨n2, hn2⟩ : ∃ L, l2.length = L := ⟨_, rfl⟩
  rw [hL] at H1 HW B1 ⊢
  rw [hn1] at H3 HW B2 ⊢
  rw [hn2] at H1 HW B3 ⊢
  have X0 := Lib.hid (k3_call (below_drew0 W) ⟨B1, B2, B3⟩)
  obtain ⟨p1, p2, p3⟩ : (w.heap.size + 1 + 1 + 1 ≠ w.heap.size) ∧ (w.heap.size + 1 + 1 + 1 ≠ w.heap.size + 1) ∧ (w.heap.size + 1 + 1 + 1 ≠ w.heap.size + 1 + 1) := ⟨by omega, by omega, by omega⟩
  have E1 := Lib.hid p1
  have E2 := Lib.hid p2
  have E3 := Lib.hid p3
  clear b1 b2 b3 v4 hwb hW hr hr1 hr2 hs s1 s2 z1 z2 hL hn1 hn2 hT1 hT2 hT3 hT4 htab ok1 ok2 ok3 B1 B2 B3 p1 p2 p3
  go_enter Tryz.func97, Tryz.ntmps97
  go_wp2
  rw [HW.out]
  go_region_held3 (fun w' => (w'.cell? ⟨w.heap.size, 0, none⟩ = some (.int .i64 m) ∧ w'.cell? ⟨w.heap.size, 1, none⟩ = some (.int .i64 d) ∧ w'.cell? ⟨w.heap.size, 2, none⟩ = some (.slice A L c) ∧ w.heap.size < w'.heap.size) ∧ (w'.cell? ⟨w.heap.size + 1, 0, none⟩ = some (.int .i64 m) ∧ w'.cell? ⟨w.heap.size + 1, 1, none⟩ = some (.slice A1 n1 c1) ∧ w.heap.size + 1 < w'.heap.size) ∧ (w'.cell? ⟨w.heap.size + 1 + 1, 0, none⟩ = some (.int .i64 m) ∧ w'.cell? ⟨w.heap.size + 1 + 1, 1, none⟩ = some (.slice A2 n2 c2) ∧ w.heap.size + 1 + 1 < w'.heap.size)) (first | exact X0.out | exact k3_call bd (by assumption) | exact k3_call bc (by assumption) | exact k3_call bb (by assumption) | exact k3_call ba (by assumption) | exact k3_store E1.out E2.out E3.out (by assumption)) (first
    | (go_at_call 111; with_reducible refine Calls.mono (H1.out _ (below_drew0 W)) ?_; rintro e wa ⟨sa, rfl, oa, ba⟩; obtain ⟨Aa, ca, rfl, -⟩ := oa.len)
    | (go_at_call 112; with_reducible refine Calls.mono (H2.out _ _ _ oa.rp) ?_; rintro e wb ⟨sb, rfl, ob, bb⟩; obtain ⟨Ab, cb, rfl, -⟩ := ob.len)
    | (go_at_call 111; with_reducible refine Calls.mono (H3.out _ _ _ (below_step (below_step (below_drew0 W) ba) bb) ob.rp) ?_; rintro e wc ⟨sc, rfl, oc, bc⟩; obtain ⟨Ac, cc, rfl, -⟩ := oc.len)
    | (go_at_call 112; with_reducible refine Calls.mono (H4.out _ _ _ oc.rp) ?_; rintro e wd ⟨sd, rfl, od, bd⟩; obtain ⟨Ad, cd, rfl, -⟩ := od.len; have hv := V4.out.keep (below_step (below_step (below_step (below_step (below_drew0 W) ba) bb) bc) bd); obtain ⟨q0, q1, q2, q3, q4, q5⟩ := hv.tells3))
  all_goals
    have hb5 := below_step (below_step (below_step (below_drew0 W) ba) bb) bc
    have hsz := hb5.size
    have hlt := V4.out.lt
    have hlo := HB.out.size
    obtain ⟨f0, f1, f2, f3, f4⟩ := fin_grid (w := w) hv od (by omega) (by omega) (Nat.le_refl _) (below_step HB.out (below_step hb5 bd)) (.int .i64 m) (.int .i64 d) (.slice Ad T4.length cd)
    have F3 := Lib.hid (f3.low (lo' := w.heap.size) (by omega))
    have F4 := Lib.hid f4
    unfold set3 at f0 f1 f2
    clear f3 f4 od hv hb5 ba bb bc bd oa ob oc
    go_wp2
    exact bodyPost_ret (v := .agg #[.int .i64 m, .int .i64 d, .slice Ad T4.length cd]) (by simp [results, Tryz.results97, go_sem, f0, f1, f2]) rfl ⟨_, rfl, F3.out, F4.out⟩

/-! the diagonal -/
def diaF (t : List (List Int)) (n : Nat) : Int := Ser.psum (fun i => Pl.pc t i (n - i)) (n + 1)
set_option maxHeartbeats 4000000 in
theorem diagonalC_any (n : Nat) (g : Nat) (m : Int) (d : Nat) (A : Option Addr) (c : Nat) (t : List (List Int)) (w : World) (hb : GBox w g m d A t.length c) (hs : Pl.Ok m d t) (hr : RP w A t) (hn : n ≤ d) :
    Calls Tryz.prog 113 #[.int .i64 n, .pointer (some ⟨g, 0, none⟩)] w fun e w' => e = .returned (.int .i64 (diaF t n)) ∧ Below w.heap.size w w' := by
  obtain ⟨y1, y2, y3, _⟩ := hb
  have HS := Lib.hid hs
  have HD := hs.d2
  obtain ⟨b, off, rfl, hbb, hrow⟩ := hr (by intro e; have := hs.len; rw [e] at this; simp at this)
  have HROW := Lib.hid hrow
  obtain ⟨f, hf⟩ : ∃ f, f = fun i => Pl.pc t i (n - i) := ⟨_, rfl⟩
  have HE := Lib.hid (show diaF t n = Ser.psum f (n + 1) by rw [hf]; rfl)
  have HF := Lib.hid hf
  have hl := hs.len
  obtain ⟨L, hL⟩ : ∃ L, t.length = L := ⟨_, rfl⟩
  rw [hL] at y3 HROW hl
  have HLD := Lib.hid hl
  clear hs hf hr hrow hL hl
  go_enter Tryz.func113, Tryz.ntmps113
  go_wp2
  go_loopw [4, 5, 8] (fun s _ i wr => ∃ k : Nat, k ≤ n + 1 ∧ i = .int .i64 k ∧ s = .int .i64 (Ser.psum f k) ∧ 0 ≤ Ser.psum f k ∧ Ser.psum f k ≤ k * 10000 ∧ wr = w) (fun _ _ i _ => n + 1 - (intOf i).toNat)
  case atStart => exact ⟨0, Nat.zero_le _, rfl, rfl, Int.le_refl _, Int.le_refl _, rfl⟩
  case round =>
    obtain ⟨k, hk, rfl, rfl, z1, z2, hw⟩ := hrel
    subst hw
    by_cases hlt : k < n + 1
    · obtain ⟨Ak, ck, h1, h2, h3⟩ := HROW.out k (by have := HLD.out; omega)
      have hrl := HS.out.row k (by omega)
      obtain ⟨b', off', rfl, hb', hc'⟩ := h3.at (n - k) (by rw [hrl]; omega)
      have r1 := HS.out.pc k (n - k)
      have m2 := HS.out.m2
      have hst : Ser.psum f (k + 1) = Ser.psum f k + Pl.pc t k (n - k) := by rw [Ser.psum, HF.out]
      rw [show Ser.co (Pl.rw' t k) (n - k) = Pl.pc t k (n - k) from rfl] at hc'
      obtain ⟨N, hN⟩ : ∃ N, (Pl.rw' t k).length = N := ⟨_, rfl⟩
      rw [hN] at h1 h2 hrl
      obtain ⟨X, hX⟩ : ∃ X, Pl.pc t k (n - k) = X := ⟨_, rfl⟩
      obtain ⟨P, hP⟩ : ∃ P, Ser.psum f k = P := ⟨_, rfl⟩
      rw [hX] at hc' r1 hst
      rw [hP] at z1 z2 hst
      have j0 : (0 : Int) ≤ (k : Int) := by omega
      have j1 : (k : Int) < (L : Int) := by have := HLD.out; omega
      have j3 : (0 : Int) ≤ (n : Int) - (k : Int) := by omega
      have j4 : (n : Int) - (k : Int) < (N : Int) := by omega
      have j5 : ((n : Int) - (k : Int)).toNat = n - k := by omega
      have HST := Lib.hid hst
      have HP := Lib.hid hP
      clear hX hP hst hrl hN h2 h3
      rw [HP.out]
      go_wp2
      go_roundw
      case rel => exact ⟨k + 1, by omega, by go_num, by rw [HST.out], by rw [HST.out]; omega, by rw [HST.out]; omega, by first | rfl | trivial⟩
      case measure => simp only [intOf]; omega
    · obtain rfl : k = n + 1 := by omega
      go_wp2
      go_ret
      exact ⟨ret_int HE.out.symm, Below.refl _ _⟩
theorem diaF_bd {m : Int} {d : Nat} {t : List (List Int)} (hs : Pl.Ok m d t) (n : Nat) (hn : n ≤ d) : -1000000000000 ≤ diaF t n ∧ diaF t n ≤ 1000000000000 := by
  have := Pl.psum_bd2 (fun i => Pl.pc t i (n - i)) 10000 (fun i => by have := hs.pc i (n - i); have := hs.m2; omega) (n + 1)
  have := hs.d2
  unfold diaF
  omega
set_option maxHeartbeats 4000000 in
set_option maxRecDepth 100000 in
theorem diagonal_any (m : Int) (d : Nat) (A : Option Addr) (c : Nat) (t : List (List Int)) (w : World) (hs : Pl.Ok m d t) (hr : RP w A t) :
    Calls Tryz.prog 98 #[.agg #[.int .i64 m, .int .i64 d, .slice A t.length c]] w fun e w' => ∃ v, e = .returned (.agg #[.int .i64 m, v]) ∧ OwnI w' w.heap.size v (Ser.cut m d (diaF t)) ∧ Below w.heap.size w w' := by
  obtain ⟨W, hW⟩ : ∃ W, (w.alloc (.cells #[.int .i64 m, .int .i64 d, .slice A t.length c] 63)).alloc (.cells #[.int .i64 0, .slice none 0 0] 71) = W := ⟨_, rfl⟩
  have hwb : Below w.heap.size w W := by rw [← hW]; exact below_alloc _ (below_one _ _)
  have b1 : GBox W w.heap.size m d A t.length c := by rw [← hW]; exact (GBox.new _ _ _ _ _ _ _).keep (below_one _ _)
  have v2 : Var2 W (w.heap.size + 1) (.int .i64 0) (.slice none 0 0) := by
    have := Var2.new (w.alloc (.cells #[.int .i64 m, .int .i64 d, .slice A t.length c] 63)) (.int .i64 0) (.slice none 0 0)
    rw [← hW]
    simpa using this
  have HSO := Lib.hid (seriesOf_any m d 113 #[.pointer (some ⟨w.heap.size, 0, none⟩)] (diaF t) W (by have := hs.m1; omega) hs.m2 (by have := hs.d2; omega) (fun n hn => diaF_bd hs n hn)
    (enters_fn Tryz.func113 (of_decide_eq_true (by kernel_rfl)) rfl)
    (fun n W1 hn hb => diagonalC_any n _ m d A c t W1 (b1.keep hb) hs ((hr.below hwb).below hb) hn))
  obtain ⟨R, hR⟩ : ∃ R, Ser.cut m d (diaF t) = R := ⟨_, rfl⟩
  rw [hR] at HSO ⊢
  obtain ⟨x1, x2, x3, _⟩ := b1
  have V2 := Lib.hid v2
  have HB := Lib.hid hwb
  have HW := Lib.hid hW
  obtain ⟨L, hL⟩ : ∃ L, t.length = L := ⟨_, rfl⟩
  rw [hL] at HW x3 ⊢
  clear v2 hwb hW hr hs hR hL
  go_enter Tryz.func98, Tryz.ntmps98
  go_wp2_with fail
  rw [HW.out]
  refine HSO.out.mono ?_
  rintro e w2 ⟨v, rfl, ho, hb⟩
  obtain ⟨A2, c2, rfl, -⟩ := ho.form
  have hv := V2.out.keep hb
  have q0 := hv.c0
  have q1 := hv.c1
  have q2 := hv.fz 0
  have q3 := hv.fz 1
  obtain ⟨f0, f1, f2, f3⟩ := fin_var (w := w) hv ho (by have := V2.out.lt; omega) (by omega) (below_step HB.out hb) (.int .i64 m) (.slice A2 R.length c2)
  have F2 := Lib.hid f2
  have F3 := Lib.hid f3
  clear f2 f3 ho hb hv
  go_wp2
  exact bodyPost_ret (v := .agg #[.int .i64 m, .slice A2 R.length c2]) (by simp [results, Tryz.results98, go_sem, f0, f1]) rfl ⟨_, rfl, F2.out, F3.out⟩
end Go.Proofs.YtfhdgcndiljjcaaGreatDoor

/- Contracts of TurnPlane, of the program and of the model. -/
namespace Go.Proofs.YtfhdgcndiljjcaaGreatDoor
open Go.RowKit Go.WideShapes Go.ChangeShapes Go.ChangeAt

set_option maxHeartbeats 1000000 in
set_option maxRecDepth 100000 in
theorem l03Zero_any (m : Int) (d : Nat) (w : World) (hd : d ≤ 1000) :
    Calls Tryz.prog 101 #[.int .i64 d] w fun e w' => ∃ v, e = .returned v ∧ OwnR w' w.heap.size w'.heap.size v (Pl.tab m d fun _ _ => 0) ∧ Below w.heap.size w w' := by
  have HM2 := Lib.hid (fun (n : Nat) (W : World) (hn : n ≤ 1001) => run_make_row' (P := Tryz.prog) 32 2 (.int .i64 0) 8 Tryz.underlying32 info64 rfl .i64 .i64 n (by omega) (by omega) W)
  go_enter Tryz.func101, Tryz.ntmps101
  go_wp2
  go_loopw [3, 4] (fun r i wr => ∃ k : Nat, k ≤ d + 1 ∧ i = .int .i64 k ∧ OwnR wr w.heap.size wr.heap.size r ((Pl.tab m d fun _ _ => 0).take k) ∧ Below w.heap.size w wr) (fun _ i _ => d + 1 - (intOf i).toNat)
  case atStart => exact ⟨0, Nat.zero_le _, rfl, by simpa using OwnR.none0 w, below_one _ _⟩
  case round =>
    obtain ⟨k, hk, rfl, hown, hbel⟩ := hrel
    have HB := Lib.hid hbel
    have HO := Lib.hid hown
    have hsz := hbel.size
    clear hbel
    by_cases hlt : k < d + 1
    · obtain ⟨N, hN⟩ : ∃ N, d - k + 1 = N := ⟨_, rfl⟩
      have hmk := fun W => HM2.out N W (by omega)
      have HN := Lib.hid hN
      have hlen : ((Pl.tab m d fun _ _ => 0).take k).length ≤ 1000000000000 := by rw [List.length_take, Pl.tab_length]; omega
      have hrow : Ser.cut m (d - k) (fun _ => 0) = List.replicate N 0 := by rw [Ser.cut_zero, hN]
      have hst : (Pl.tab m d fun _ _ => 0).take (k + 1) = (Pl.tab m d fun _ _ => 0).take k ++ [List.replicate N 0] := by rw [Pl.tab_take_succ m d _ k (by omega), hrow]
      have HST := Lib.hid hst
      have hd1 : (d : Int) - (k : Int) + 1 = (N : Int) := by omega
      have hkd : (k : Int) ≤ (d : Int) := by omega
      have hNm : N ≤ maxLen := by unfold maxLen; omega
      clear hst hrow hN hown
      go_wp2_with (at_builtin; refine wp_pushU _ _ _ (by rfl) (by rfl) Tryz.underlying22 w.heap.size wr.heap.size _ _ (by rfl) (HO.out.keep (below_one _ _)) (below_one wr _).size (.slice (some ⟨wr.heap.size, 0, none⟩) N N) (List.replicate N 0) ((OwnI.made wr N hNm).more hsz) (fun g hg => made_from hg) (wr.heap.size + 1) (by simp) (by rfl) hlen (Nat.le_trans hsz (below_one wr _).size) ?_; intro v' w1 ho1 hpb)
      have HO1 := Lib.hid ho1
      have HB1 := Lib.hid ((HB.out.trans ((below_one wr (.cells (madeCells #[.int .i64 0] N) 2)).mono hsz)).trans hpb)
      clear ho1 hpb
      go_wp2
      go_roundw
      case rel => exact ⟨k + 1, by omega, by go_num, by rw [HST.out]; exact HO1.out, HB1.out⟩
      case measure => simp only [intOf]; omega
    · obtain rfl : k = d + 1 := by omega
      have ho := HO.out
      rw [Pl.tab_take_all] at ho
      have HF := Lib.hid ho
      clear ho hown
      go_wp2
      go_ret
      exact ⟨_, rfl, HF.out, HB.out⟩
def turP := oneP fun m d t => Pl.tab m d fun i j => Pl.pc t j i
theorem turP_len (m : Int) (t : List (List Int)) : szT (turP m t).2.1 ≤ 1048576 := oneP_len _ m t (fun _ h => szT_ok (h.tab _))
end Go.Proofs.YtfhdgcndiljjcaaGreatDoor

/- Contracts of the model's powers of a list, and of its sum for f(a(t), b(t)). -/
namespace Go.Proofs.YtfhdgcndiljjcaaGreatDoor
open Go.RowKit Go.WideShapes Go.ChangeShapes Go.ChangeAt

/-- a new slice of one row -/
theorem OwnR.lit1 (w : World) (lo : Nat) (u : Value) (r : List Int) (hu : OwnI w lo u r) (hb : ∀ g, u.ownBlock = some g → g < w.heap.size) (hlo : lo ≤ w.heap.size) :
    OwnR (w.alloc (.cells #[u] 32)) lo (w.heap.size + 1) (.slice (some ⟨w.heap.size, 0, none⟩) 1 1) [r] := by
  have h1 := World.ownsRow_lit (base := lo) (e := 32) (size := 1) w #[u] 1 hlo (by unfold maxLen; omega) (by simp)
  refine ⟨[u], h1, ?_, ?_, ?_⟩
  · intro g hg
    have : g = w.heap.size := by simpa [Value.ownBlock] using hg.symm
    omega
  · intro i r' hr
    match i, hr with
    | 0, hr =>
      simp at hr
      subst hr
      exact ⟨u, rfl, hu.alloc _, fun g hg => by have := hb g hg; omega⟩
  · intro i j x y hij hx hy
    have hj := (List.getElem?_eq_some_iff.1 hy).1
    simp at hj
    omega
/-- the list of the powers -/
def pwsL (m : Int) (d : Nat) (a : List Int) : List (List Int) := (List.range (d + 1)).map (Ser.pwL m d a)
theorem pwsL_length (m : Int) (d : Nat) (a : List Int) : (pwsL m d a).length = d + 1 := by simp [pwsL]
theorem pwsL_take_succ (m : Int) (d : Nat) (a : List Int) (k : Nat) (h : k ≤ d) : (pwsL m d a).take (k + 1) = (pwsL m d a).take k ++ [Ser.pwL m d a k] := by
  rw [List.take_succ_eq_append_getElem (by rw [pwsL_length]; omega)]
  simp [pwsL]
theorem pwsL_row (m : Int) (d : Nat) (a : List Int) (n k : Nat) (h : k < n) (hk : k ≤ d) : Pl.rw' ((pwsL m d a).take n) k = Ser.pwL m d a k := by
  unfold Pl.rw' pwsL
  rw [List.getElem?_take_of_lt h, List.getElem?_map, List.getElem?_range (by omega)]; rfl
theorem pwsL_rw (m : Int) (d : Nat) (a : List Int) (k : Nat) (hk : k ≤ d) : Pl.rw' (pwsL m d a) k = Ser.pwL m d a k := by
  unfold Pl.rw' pwsL
  rw [List.getElem?_map, List.getElem?_range (by omega)]; rfl
theorem pwL_red {m : Int} (hm : 0 < m) (d : Nat) (a : List Int) (k : Nat) : Ser.Red m (Ser.pwL m d a k) := by
  rw [Ser.pwL_cut]; exact Ser.cut_red hm _ _
theorem one_listP (m : Int) (d : Nat) (m1 : 2 ≤ m) : (List.replicate (d + 1) (0 : Int)).set 0 1 = Ser.one m d := by
  refine Ser.list_ext (by simp [Ser.one, Ser.cut_length]) (fun i hi => ?_)
  rw [List.length_set, List.length_replicate] at hi
  rw [Ser.co_set (by simp), Ser.one, Ser.co_cut (by omega), Ser.co_zeros]
  unfold Ser.mon
  by_cases h : i = 0
  · rw [if_pos h, Int.emod_eq_of_lt (by omega) (by omega)]
  · rw [if_neg h, Int.zero_emod]
theorem Pl.Ok.over {m : Int} {d : Nat} {t : List (List Int)} (h : Pl.Ok m d t) (i j : Nat) (hij : d < i + j) : Pl.pc t i j = 0 := by
  show Ser.co (Pl.rw' t i) j = 0
  by_cases hi : i ≤ d
  · exact Ser.co_over (by rw [h.row i hi]; omega)
  · rw [Pl.rw_over (by rw [h.len]; omega)]; exact Ser.co_nil j

set_option maxHeartbeats 4000000 in
set_option maxRecDepth 100000 in
theorem l03Powers_any (m : Int) (d : Nat) (A : Option Addr) (c : Nat) (l : List Int) (w : World) (hs : SerOk m d l) (hr : RI w A l) :
    Calls Tryz.prog 91 #[.int .i64 m, .slice A l.length c] w fun e w' => ∃ v, e = .returned v ∧ OwnR w' w.heap.size w'.heap.size v (pwsL m d l) ∧ Below w.heap.size w w' := by
  have HR := Lib.hid hr
  have m1 := hs.m1
  have m2 := hs.m2
  have hd2 := hs.d2
  have HLE := Lib.hid hs.len
  obtain ⟨L, hL⟩ : ∃ L, l.length = L := ⟨_, rfl⟩
  rw [hL] at HLE
  have hLd : (L : Int) - 1 = (d : Int) := by have := HLE.out; omega
  have hLb : L ≤ 11 := by have := HLE.out; omega
  have hL1 : (0 : Int) < (L : Int) := by have := HLE.out; omega
  have HT := Lib.hid (fun (k : Nat) (A1 : Option Addr) (c1 : Nat) (W0 : World) (h : RI W0 A1 (Ser.pwL m d l k)) (h' : RI W0 A l) => by
    have := l02Times_any m d A1 c1 (Ser.pwL m d l k) A c l W0 m1 m2 (by omega) (by rw [Ser.pwL_length]; omega) (by omega) (pwL_red (by omega) _ _ _) hs.red h h'
    rw [Ser.pwL_length, hL] at this
    exact this)
  rw [hL]
  have hmk := fun W => run_make_row' (P := Tryz.prog) 32 2 (.int .i64 0) 8 Tryz.underlying32 info64 rfl .i64 .i64 L (by omega) (by omega) W
  obtain ⟨w1, hw1⟩ : ∃ w1, w.alloc (.cells (madeCells #[.int .i64 0] L) 2) = w1 := ⟨_, rfl⟩
  have ho0 := OwnI.made w L (by unfold maxLen; omega)
  have hb0 := below_one w (.cells (madeCells #[.int .i64 0] L) 2)
  rw [hw1] at ho0 hb0
  obtain ⟨-, o2, o3, o4⟩ := ho0.cells
  have hc0 := o3 0 (by simp; omega)
  have hf0 := o4 0
  have hset := ho0.set 0 1
  rw [show List.replicate L (0 : Int) = List.replicate (d + 1) 0 by rw [HLE.out], one_listP m d m1] at hset
  have hb1 : Below w.heap.size w (w1.setCell ⟨w.heap.size, 0, none⟩ (.int .i64 1)) := hb0.setCell (Nat.le_refl _) _
  obtain ⟨w2, hw2⟩ : ∃ w2, w1.setCell ⟨w.heap.size, 0, none⟩ (.int .i64 1) = w2 := ⟨_, rfl⟩
  rw [hw2] at hset hb1
  obtain ⟨Y, hY⟩ : ∃ Y, (List.replicate L (0 : Int))[0]?.getD 0 = Y := ⟨_, rfl⟩
  rw [hY] at hc0
  have hs2 : w2.heap.size = w.heap.size + 1 := by rw [← hw2, ← hw1]; simp [World.setCell]
  have hlit := OwnR.lit1 w2 w.heap.size _ _ hset (fun g hg => (hset.lt g hg).2) hb1.size
  have HLIT := Lib.hid hlit
  have HB2 := Lib.hid (below_alloc (.cells #[.slice (some ⟨w.heap.size, 0, none⟩) L L] 32) hb1)
  have HW1 := Lib.hid hw1
  have HW2 := Lib.hid hw2
  have HS2 := Lib.hid hs2
  clear hr hs hL ho0 hb0 hset hb1 hw1 hw2 hY o2 o3 o4 hlit hs2
  go_enter Tryz.func91, Tryz.ntmps91
  go_upto_region 3 with fail
  rw [HW1.out]
  go_upto_region 4 with fail
  rw [HW2.out]
  go_wp2
  go_loopw [7, 8] (fun s7 s8 wr => ∃ k : Nat, k ≤ d ∧ s8 = .int .i64 k ∧ OwnR wr w.heap.size wr.heap.size s7 ((pwsL m d l).take (k + 1)) ∧ Below w.heap.size w wr) (fun _ s8 _ => d - (intOf s8).toNat)
  case atStart =>
    refine ⟨0, Nat.zero_le _, rfl, ?_, HB2.out⟩
    have h := HLIT.out
    rw [pwsL_take_succ m d l 0 (Nat.zero_le _), List.take_zero, List.nil_append, show Ser.pwL m d l 0 = Ser.one m d from rfl]
    rw [HS2.out] at h
    simpa [HS2.out] using h
  case round =>
    clear HLIT HB2 hmk hc0 hf0
    obtain ⟨k, hk, rfl, hown, hbel⟩ := hrel
    obtain ⟨A0, c0, rfl, hrp⟩ := hown.len
    have hlen : ((pwsL m d l).take (k + 1)).length = k + 1 := by rw [List.length_take, pwsL_length]; omega
    have hlen2 : ((pwsL m d l).take (k + 1)).length ≤ 1000000000000 := by omega
    obtain ⟨b, off, Ak, ck, rfl, hlt, h1, h2, h3⟩ := hrp.at k (by omega)
    rw [pwsL_row m d l (k + 1) k (by omega) hk, Ser.pwL_length] at h1 h2
    rw [pwsL_row m d l (k + 1) k (by omega) hk] at h3
    have HB := Lib.hid hbel
    have HO := Lib.hid hown
    by_cases hkd : k < d
    · have HTK := Lib.hid (HT.out k Ak ck wr h3 (HR.out.below hbel))
      have hst := pwsL_take_succ m d l (k + 1) (by omega)
      have hmul : Ser.mulL m d (Ser.pwL m d l k) l = Ser.pwL m d l (k + 1) := rfl
      rw [hmul] at HTK
      obtain ⟨R, hR⟩ : ∃ R, Ser.pwL m d l (k + 1) = R := ⟨_, rfl⟩
      rw [hR] at HTK hst
      have HST := Lib.hid hst
      have j0 : (0 : Int) ≤ (k : Int) := by omega
      have j1 : (k : Int) < (d : Int) := by omega
      have j2 : (k : Int) < (((pwsL m d l).take (k + 1)).length : Int) := by omega
      obtain ⟨P, hP⟩ : ∃ P, (pwsL m d l).take (k + 1) = P := ⟨_, rfl⟩
      rw [hP] at HO HST hlen2 j2 ⊢
      clear hst hmul hR hown hbel hrp hlen h2 h3 hP
      go_wp2_with fail
      refine HTK.out.mono ?_
      rintro e w3 ⟨v3, rfl, ho3, hb3⟩
      obtain ⟨A3, c3, rfl, -⟩ := ho3.form
      have hsz := HB.out.size
      have HLEN := Lib.hid hlen2
      clear hlen2
      go_wp2_with (at_builtin; refine wp_pushU _ _ _ (by rfl) (by rfl) Tryz.underlying22 w.heap.size wr.heap.size _ _ (by rfl) (HO.out.keep hb3) hb3.size (.slice A3 R.length c3) R (ho3.more hsz) (fun g hg => (ho3.lt g hg).1) w3.heap.size rfl (by rfl) HLEN.out (Nat.le_trans hsz hb3.size) ?_; intro v' w4 ho4 hpb)
      have HO4 := Lib.hid ho4
      have HB4 := Lib.hid ((below_step HB.out hb3).trans hpb)
      clear ho4 hpb ho3 hb3
      go_wp2
      go_roundw
      case rel => exact ⟨k + 1, by omega, by go_num, by rw [HST.out]; exact HO4.out, HB4.out⟩
      case measure => simp only [intOf]; omega
    · obtain rfl : k = d := by omega
      rw [List.take_of_length_le (show (pwsL m k l).length ≤ k + 1 by rw [pwsL_length]; omega)] at HO ⊢
      have HF := HO
      clear hown hrp h1 h2 h3 HO hbel hlen hlen2
      go_wp2
      go_ret
      exact ⟨_, rfl, HF.out, HB.out⟩
end Go.Proofs.YtfhdgcndiljjcaaGreatDoor

/- Contract of the model's sum for f(a(t), b(t)). -/
namespace Go.Proofs.YtfhdgcndiljjcaaGreatDoor
open Go.RowKit Go.WideShapes Go.ChangeShapes Go.ChangeAt

theorem kpw_call {w w' : World} {a1 a2 a3 a4 : Addr} {x y z u : Value} (hb : Below w.heap.size w w') (hs : (w.cell? a1 = some x ∧ w.cell? a2 = some y) ∧ (w.cell? a3 = some z ∧ w.cell? a4 = some u)) : (w'.cell? a1 = some x ∧ w'.cell? a2 = some y) ∧ (w'.cell? a3 = some z ∧ w'.cell? a4 = some u) :=
  ⟨kp_call hb hs.1, kp_call hb hs.2⟩
theorem zeros_red {m : Int} (m1 : 2 ≤ m) (n : Nat) : Ser.Red m (List.replicate n 0) := fun i => by rw [Ser.co_zeros]; omega
set_option maxHeartbeats 16000000 in
set_option maxRecDepth 100000 in
theorem l03Put_any (m : Int) (d : Nat) (A : Option Addr) (c : Nat) (t : List (List Int)) (A1 : Option Addr) (c1 : Nat) (l1 : List Int) (A2 : Option Addr) (c2 : Nat) (l2 : List Int) (w : World) (hs : Pl.Ok m d t) (s1 : SerOk m d l1) (s2 : SerOk m d l2) (hr : RP w A t) (hr1 : RI w A1 l1) (hr2 : RI w A2 l2) :
    Calls Tryz.prog 70 #[.int .i64 m, .slice A t.length c, .slice A1 l1.length c1, .slice A2 l2.length c2] w fun e w' => ∃ v, e = .returned v ∧ OwnI w' w.heap.size v (Pl.putL m d (Pl.pc t) l1 l2) ∧ Below w.heap.size w w' := by
  have HR := Lib.hid hr
  have HS := Lib.hid hs
  have m1 := hs.m1
  have m2 := hs.m2
  have hd2 := hs.d2
  have HP1 := Lib.hid (fun W0 (h : Below w.heap.size w W0) => l03Powers_any m d A1 c1 l1 W0 s1 (hr1.below h))
  have HP2 := Lib.hid (fun W0 (h : Below w.heap.size w W0) => l03Powers_any m d A2 c2 l2 W0 s2 (hr2.below h))
  obtain ⟨L, hL⟩ : ∃ L, t.length = L := ⟨_, rfl⟩
  obtain ⟨n1, hn1⟩ : ∃ L, l1.length = L := ⟨_, rfl⟩
  obtain ⟨n2, hn2⟩ : ∃ L, l2.length = L := ⟨_, rfl⟩
  rw [hn1] at HP1 ⊢
  rw [hn2] at HP2 ⊢
  have HLE := Lib.hid (hL.symm.trans hs.len)
  have hLd : (L : Int) - 1 = (d : Int) := by have := HLE.out; omega
  have hLb : L ≤ 11 := by have := HLE.out; omega
  rw [hL]
  obtain ⟨P1, hP1⟩ : ∃ P, pwsL m d l1 = P := ⟨_, rfl⟩
  obtain ⟨P2, hP2⟩ : ∃ P, pwsL m d l2 = P := ⟨_, rfl⟩
  have hl1 : P1.length = d + 1 := by rw [← hP1, pwsL_length]
  have hl2 : P2.length = d + 1 := by rw [← hP2, pwsL_length]
  have HQ1 := Lib.hid (fun k (hk : k ≤ d) => (by rw [← hP1]; exact pwsL_rw m d l1 k hk : Pl.rw' P1 k = Ser.pwL m d l1 k))
  have HQ2 := Lib.hid (fun k (hk : k ≤ d) => (by rw [← hP2]; exact pwsL_rw m d l2 k hk : Pl.rw' P2 k = Ser.pwL m d l2 k))
  rw [hP1] at HP1
  rw [hP2] at HP2
  have HL1 := Lib.hid hl1
  have HL2 := Lib.hid hl2
  have HT := Lib.hid (fun (i j : Nat) (Aa Ab : Option Addr) (ca cb : Nat) (W0 : World) (h : RI W0 Aa (Ser.pwL m d l1 i)) (h' : RI W0 Ab (Ser.pwL m d l2 j)) => by
    have := l02Times_any m d Aa ca (Ser.pwL m d l1 i) Ab cb (Ser.pwL m d l2 j) W0 m1 m2 (by omega) (by rw [Ser.pwL_length]; omega) (by rw [Ser.pwL_length]; omega) (pwL_red (by omega) _ _ _) (pwL_red (by omega) _ _ _) h h'
    rw [Ser.pwL_length, Ser.pwL_length] at this
    exact this)
  have hmk : ∀ W : World, (Instr.makeSlice 32 (.int .i64 ((d : Int) + 1)) (.int .i64 ((d : Int) + 1))).run Tryz.prog W = .ok (.slice (some ⟨W.heap.size, 0, none⟩) (d + 1) (d + 1)) (W.alloc (.cells (madeCells #[.int .i64 0] (d + 1)) 2)) := by
    intro W
    have := run_make_row' (P := Tryz.prog) 32 2 (.int .i64 0) 8 Tryz.underlying32 info64 rfl .i64 .i64 (d + 1) (by omega) (by omega) W
    rwa [show ((d + 1 : Nat) : Int) = (d : Int) + 1 by omega] at this
  have hmade := fun W => OwnI.made W (d + 1) (by unfold maxLen; omega)
  have HMD := Lib.hid hmade
  have hwr : IntKind.i64.wrap ((d : Int) + 1) = (d : Int) + 1 := by rw [IntKind.wrap_i64]; omega
  clear hr hr1 hr2 hs s1 s2 hL hn1 hn2 hP1 hP2 hl1 hl2 hmade
  go_enter Tryz.func70, Tryz.ntmps70
  go_wp2
  go_cut [10, 11, 12] (fun s10 s11 s12 wx => ∃ (Aa Ab Az : Option Addr) (ca cb cz : Nat), s10 = .slice Aa P1.length ca ∧ s11 = .slice Ab P2.length cb ∧ s12 = .slice Az (d + 1) cz ∧ RP wx Aa P1 ∧ RP wx Ab P2 ∧ OwnI wx w.heap.size (.slice Az (d + 1) cz) (List.replicate (d + 1) 0) ∧ Below w.heap.size w wx)
  case first =>
    go_region_held3 (fun w' => Below w.heap.size w w') (first | exact below_drew0 w | exact ka | exact kb | exact below_alloc _ (by assumption)) (first
      | (go_at_call 91; with_reducible refine Calls.mono (HP1.out _ (by assumption)) ?_; rintro e wa ⟨sa, rfl, oa, ba⟩; obtain ⟨Aa, ca, rfl, ra⟩ := oa.len; have ka := below_step (by assumption : Below w.heap.size w _) ba)
      | (go_at_call 91; with_reducible refine Calls.mono (HP2.out _ (by assumption)) ?_; rintro e wb ⟨sb, rfl, ob, bb⟩; obtain ⟨Ab, cb, rfl, rb⟩ := ob.len; have kb := below_step (by assumption : Below w.heap.size w _) bb))
    all_goals
      go_wp2_with fail
      go_meet
      case rel =>
        refine ⟨_, _, _, _, _, _, rfl, rfl, rfl, ?_, ?_, ?_, ?_⟩
        · first | exact ra | exact ra.below bb | exact ra.below (below_one _ _) | exact (ra.below bb).below (below_one _ _) | exact (ra.below (below_one _ _)).below bb
        · first | exact rb | exact rb.below ba | exact rb.below (below_one _ _) | exact (rb.below ba).below (below_one _ _) | exact (rb.below (below_one _ _)).below ba
        · first
            | exact (HMD.out _).more (by first | exact ka.size | exact kb.size | exact (below_drew0 w).size)
            | exact ((HMD.out _).keep ba).more (by first | exact kb.size | exact (below_drew0 w).size)
            | exact ((HMD.out _).keep bb).more (by first | exact ka.size | exact (below_drew0 w).size)
            | exact (((HMD.out _).keep ba).keep bb).more (below_drew0 w).size
            | exact (((HMD.out _).keep bb).keep ba).more (below_drew0 w).size
            | exact (((HMD.out w.drew).keep ba).keep bb).more (below_drew0 w).size
            | exact (((HMD.out w.drew).keep bb).keep ba).more (below_drew0 w).size
            | exact ((HMD.out wa).keep bb).more ka.size
            | exact ((HMD.out wb).keep ba).more kb.size
            | exact (HMD.out wb).more kb.size
        · first | exact below_alloc _ ka | exact below_alloc _ kb | exact ka | exact kb
  case rest =>
    obtain ⟨w2, hwc⟩ : ∃ w9, w9 = wc := ⟨_, rfl⟩
    subst hwc
    obtain ⟨Aa, Ab, Az, ca, cb, cz, rfl, rfl, rfl, ra, rb, oz, hb2⟩ := hcut
    have RA' := Lib.hid ra
    have RB' := Lib.hid rb
    have OZ := Lib.hid oz
    have HB2 := Lib.hid hb2
    clear ra rb oz hb2 hmk
    go_wp2
    go_loopw [13, 14, 12] (fun s13 _ s12 wr => ∃ i : Nat, i ≤ d + 1 ∧ s13 = .int .i64 i ∧ OwnI wr w.heap.size s12 (Pl.putS m d (Pl.pc t) l1 l2 i 0) ∧ Below w2.heap.size w2 wr) (fun s13 _ _ _ => d + 1 - (intOf s13).toNat)
    case atStart => exact ⟨0, Nat.zero_le _, rfl, by rw [Pl.putS_zero]; exact OZ.out, Below.refl _ _⟩
    case round =>
      clear OZ
      obtain ⟨i, hi, rfl, hown, hbel⟩ := hrel
      have HO := Lib.hid hown
      have HB := Lib.hid hbel
      clear hown hbel
      by_cases hlt : i < d + 1
      · have j0 : (i : Int) ≤ (d : Int) := by omega
        go_wp2
        go_loopw [14, 12] (fun s14 s12 wr => ∃ j : Nat, i + j ≤ d + 1 ∧ s14 = .int .i64 j ∧ OwnI wr w.heap.size s12 (Pl.putS m d (Pl.pc t) l1 l2 i j) ∧ Below w2.heap.size w2 wr) (fun s14 _ _ => d + 1 - (intOf s14).toNat)
        case atStart => exact ⟨0, by omega, rfl, HO.out, HB.out⟩
        case round =>
          clear HO HB
          obtain ⟨j, hj, rfl, hown, hbel⟩ := hrel
          have HO := Lib.hid hown
          have HB := Lib.hid hbel
          obtain ⟨ba, offa, Ai, ci, rfl, hba, ka1, -, kri⟩ := HR.out.at i (by rw [HS.out.len]; omega)
          rw [HS.out.row i (by omega)] at ka1
          obtain ⟨N, hN⟩ : ∃ N, d - i + 1 = N := ⟨_, rfl⟩
          rw [hN] at ka1
          have hbw := below_step HB2.out hbel
          have a1 := (hbw.cell (p := ⟨ba, offa + i, none⟩) hba).trans ka1
          have i0 : (0 : Int) ≤ (i : Int) := by omega
          have i1 : (i : Int) < (L : Int) := by have := HLE.out; omega
          have HN := Lib.hid hN
          clear hown ka1
          by_cases hjt : j < N
          · obtain ⟨bi, offi, rfl, hbi, ka2⟩ := kri.at j (by rw [HS.out.row i (by omega)]; omega)
            have a2 := (hbw.cell (p := ⟨bi, offi + j, none⟩) hbi).trans ka2
            have r1 := HS.out.pc i j
            have hskip := Pl.putS_skip m d (Pl.pc t) l1 l2 i j
            have hstep := Pl.putS_step m d (Pl.pc t) l1 l2 i j
            rw [show Ser.co (Pl.rw' t i) j = Pl.pc t i j from rfl] at a2
            obtain ⟨X, hX⟩ : ∃ X, Pl.pc t i j = X := ⟨_, rfl⟩
            rw [hX] at a2 r1 hskip hstep
            have j1 : (0 : Int) ≤ (j : Int) := by omega
            have j2 : (j : Int) < (N : Int) := by omega
            by_cases hX0 : X = 0
            · have HSK := Lib.hid (hskip hX0)
              subst hX0
              clear hskip hstep hX r1 hbel hbw hN ka2 kri
              go_wp2
              go_roundw
              case rel => exact ⟨j + 1, by have := HN.out; omega, by go_num, by rw [HSK.out]; exact HO.out, HB.out⟩
              case measure => simp only [intOf]; have := HN.out; omega
            · obtain ⟨n3, n4⟩ := ne_facts hX0
              obtain ⟨b1, o1, A3, c3, rfl, hb1, p1, -, pr1⟩ := RA'.out.at i (by rw [HL1.out]; omega)
              obtain ⟨b2, o2, A4, c4, rfl, hb2, p2, -, pr2⟩ := RB'.out.at j (by rw [HL2.out]; omega)
              rw [HQ1.out i (by omega)] at p1 pr1
              rw [HQ2.out j (by omega)] at p2 pr2
              rw [Ser.pwL_length] at p1 p2
              have p1 := (hbel.cell (p := ⟨b1, o1 + i, none⟩) hb1).trans p1
              have p2 := (hbel.cell (p := ⟨b2, o2 + j, none⟩) hb2).trans p2
              obtain ⟨Ao, co, rfl, -⟩ := HO.out.form
              rw [Pl.putS_length] at HO ⊢
              have q1 : (i : Int) < (P1.length : Int) := by have := HL1.out; omega
              have q2 : (j : Int) < (P2.length : Int) := by have := HL2.out; omega
              have mulOk : RowOk m d (Ser.mulL m d (Ser.pwL m d l1 i) (Ser.pwL m d l2 j)) := ⟨m1, m2, hd2, Ser.mulL_length _ _ _ _, Ser.mulL_red (by omega) _ _ _⟩
              have putOk : RowOk m d (Pl.putS m d (Pl.pc t) l1 l2 i j) := ⟨m1, m2, hd2, Pl.putS_length _ _ _ _ _ _ _, Ser.cut_red (by omega) _ _⟩
              have HM := Lib.hid (HT.out i j A3 A4 c3 c4 wr.drew ((pr1.below hbel).below (below_drew0 wr)) ((pr2.below hbel).below (below_drew0 wr)))
              obtain ⟨R1, hR1⟩ : ∃ R, Ser.mulL m d (Ser.pwL m d l1 i) (Ser.pwL m d l2 j) = R := ⟨_, rfl⟩
              rw [hR1] at HM mulOk hstep
              have HSC := Lib.hid (fun A0 c0 W0 (h : RI W0 A0 R1) => by
                have := l02ScaleR_any m d X A0 c0 R1 W0 mulOk h r1.1 r1.2
                exact this)
              have scaOk : RowOk m d (scaR m d R1 X) := ⟨m1, m2, hd2, Ser.cut_length _ _ _, Ser.cut_red (by omega) _ _⟩
              obtain ⟨S, hS⟩ : ∃ S, Pl.putS m d (Pl.pc t) l1 l2 i j = S := ⟨_, rfl⟩
              rw [hS] at HO putOk hstep
              have HAD := Lib.hid (fun Aa0 ca0 W0 (h : RI W0 Ao S) (h' : RI W0 Aa0 (scaR m d R1 X)) => by
                have := l02AddR_any m d Ao co S Aa0 ca0 (scaR m d R1 X) W0 putOk scaOk h h'
                rw [putOk.len] at this
                exact this)
              have hst : addR m d S (scaR m d R1 X) = Pl.putS m d (Pl.pc t) l1 l2 i (j + 1) := hstep
              rw [hst] at HAD
              obtain ⟨R2, hR2⟩ : ∃ R, scaR m d R1 X = R := ⟨_, rfl⟩
              rw [hR2] at HSC HAD
              obtain ⟨R3, hR3⟩ : ∃ R, Pl.putS m d (Pl.pc t) l1 l2 i (j + 1) = R := ⟨_, rfl⟩
              rw [hR3] at HAD
              have HR3 := Lib.hid hR3
              clear hskip hstep hX r1 hbel hbw hN ka2 kri hst hR1 hR2 hR3 hS mulOk putOk scaOk pr1 pr2 hX0
              go_wp2
              go_region_held3 (fun w' => (w'.cell? ⟨ba, offa + i, none⟩ = some (.slice (some ⟨bi, offi, none⟩) N ci) ∧ w'.cell? ⟨bi, offi + j, none⟩ = some (.int .i64 X)) ∧ (w'.cell? ⟨b1, o1 + i, none⟩ = some (.slice A3 (d + 1) c3) ∧ w'.cell? ⟨b2, o2 + j, none⟩ = some (.slice A4 (d + 1) c4))) (first | exact ⟨⟨a1, a2⟩, ⟨p1, p2⟩⟩ | exact kpw_call bm (by assumption) | exact kpw_call bs (by assumption) | exact kpw_call bd (by assumption)) (first
                | (go_at_call 94; with_reducible refine Calls.mono HM.out ?_; rintro e wm ⟨sm, rfl, om, bm⟩; obtain ⟨Am, cm, rfl, -⟩ := om.form)
                | (go_at_call 93; with_reducible refine Calls.mono (HSC.out _ _ _ om.ri) ?_; rintro e ws ⟨ss, rfl, os, bs⟩; obtain ⟨As, cs, rfl, -⟩ := os.form)
                | (go_at_call 92; with_reducible refine Calls.mono (HAD.out _ _ _ ((((HO.out.ri.below (below_drew0 wr)).below bm).below bs)) os.ri) ?_; rintro e wd ⟨sd, rfl, od, bd⟩))
              all_goals
                have hb9 := below_step (below_step (below_step (below_drew0 wr) bm) bs) bd
                have hsz := (below_step HB2.out HB.out).size
                have hsz2 := (below_step (below_step (below_drew0 wr) bm) bs).size
                have HB9 := Lib.hid (below_step HB.out hb9)
                have OD := Lib.hid (od.more (show w.heap.size ≤ ws.heap.size by omega))
                clear od bm bs bd om os hb9 hsz hsz2
                go_wp2
                go_roundw
                case rel => exact ⟨j + 1, by have := HN.out; omega, by go_num, by rw [HR3.out]; exact OD.out, HB9.out⟩
                case measure => simp only [intOf]; have := HN.out; omega
          · have hjN : i + j = d + 1 := by omega
            have ho := HO.out
            rw [Pl.putS_next m d _ _ _ i j hjN] at ho
            have HO2 := Lib.hid ho
            have p9 : ¬ ((j : Int) < (N : Int)) := by omega
            clear ho hjN hbel hbw hN kri HO
            go_wp2
            go_roundw
            case rel => exact ⟨i + 1, by omega, by go_num, HO2.out, HB.out⟩
            case measure => simp only [intOf]; omega
      · obtain rfl : i = d + 1 := by omega
        have ho := HO.out
        rw [Pl.putS_last m d _ _ _ (fun i j h => HS.out.over i j h)] at ho
        have HF := Lib.hid ho
        have HBF := Lib.hid (below_step HB2.out HB.out)
        clear ho HO
        go_wp2
        go_ret
        exact ⟨_, rfl, HF.out, HBF.out⟩
end Go.Proofs.YtfhdgcndiljjcaaGreatDoor

/- Contract of the model's table for f(a(x), b(y)). -/
namespace Go.Proofs.YtfhdgcndiljjcaaGreatDoor
open Go.RowKit Go.WideShapes Go.ChangeShapes Go.ChangeAt

theorem botK_null (m : Int) (d : Nat) (F : Nat → Nat → Int) (a b : List Int) (i J k l : Nat) (h : F i J = 0) : Pl.tab m d (Pl.botK d F (Ser.co a) (Ser.co b) i J k l) = Pl.tab m d (Pl.botS d F (Ser.co a) (Ser.co b) i (J + 1)) :=
  Pl.tab_congr (Pl.Eq.of m d (fun p q hpq => by
    unfold Pl.botK Pl.botS
    rw [Pl.acc_succ]
    have e : Pl.botG F (Ser.co a) (Ser.co b) p q i J = 0 := by unfold Pl.botG; rw [h, Int.zero_mul]
    rw [e]
    split <;> rfl))
end Go.Proofs.YtfhdgcndiljjcaaGreatDoor

