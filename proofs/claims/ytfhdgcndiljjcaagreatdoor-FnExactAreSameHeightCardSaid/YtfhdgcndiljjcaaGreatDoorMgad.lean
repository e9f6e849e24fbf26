/- Texts of contracts, joined. -/
import Derived.Test.YtfhdgcndiljjcaaGreatDoorMgac
import Derived.StillTailTactics
import Derived.Test.YtfhdgcndiljjcaaGreatDoorMgab
import Derived.Test.YtfhdgcndiljjcaaGreatDoorMgaa
import Derived.ProofKit
import Derived.OpenShut
import Derived.ChangeSame
import Derived.Deep.DeepCutAuto
import Derived.Test.YtfhdgcndiljjcaaGreatDoorProg
/- Contract of the model's product of lists. -/
namespace Go.Proofs.YtfhdgcndiljjcaaGreatDoor
open Go.RowKit Go.WideShapes Go.ChangeShapes Go.ChangeAt

theorem timS_red {m : Int} (hm : 0 < m) (d : Nat) (a b : Nat → Int) (i : Nat) : Ser.Red m (Ser.timS m d a b i) := Ser.cut_red hm _ _
theorem timP_red {m : Int} (hm : 0 < m) (d : Nat) (a b : Nat → Int) (i k : Nat) : Ser.Red m (Ser.timP m d a b i k) := Ser.cut_red hm _ _

theorem timP_null (m : Int) (d : Nat) (a b : Nat → Int) (i k : Nat) (h : a i = 0) : Ser.timP m d a b i k = Ser.timS m d a b (i + 1) := by
  unfold Ser.timP Ser.timS
  refine Ser.cut_congr (Ser.Eq.of m d (fun n hn => ?_))
  rw [Ser.psum]
  unfold Ser.tr
  rw [h]
  simp
set_option maxHeartbeats 8000000 in
set_option maxRecDepth 100000 in
theorem l02Times_any (m : Int) (D : Nat) (A : Option Addr) (c : Nat) (l : List Int) (A' : Option Addr) (c' : Nat) (l' : List Int) (w : World) (m1 : 2 ≤ m) (m2 : m ≤ 10000) (hD : D ≤ 1000) (hl : l.length ≤ 1000) (hl' : l'.length ≤ 1000) (hs : Ser.Red m l) (hs' : Ser.Red m l') (hr : RI w A l) (hr' : RI w A' l') :
    Calls Tryz.prog 94 #[.int .i64 m, .slice A l.length c, .slice A' l'.length c', .int .i64 D] w fun e w' => ∃ v, e = .returned v ∧ OwnI w' w.heap.size v (Ser.mulL m D l l') ∧ Below w.heap.size w w' := by
  have HS := Lib.hid hs
  have HS' := Lib.hid hs'
  have HR := Lib.hid hr
  have HR' := Lib.hid hr'
  have hm0 : ¬ m = 0 := by omega
  clear hs hs' hr hr'
  have hmk : ∀ W : World, (Instr.makeSlice 32 (.int .i64 ((D : Int) + 1)) (.int .i64 ((D : Int) + 1))).run Tryz.prog W = .ok (.slice (some ⟨W.heap.size, 0, none⟩) (D + 1) (D + 1)) (W.alloc (.cells (madeCells #[.int .i64 0] (D + 1)) 2)) := by
    intro W
    have := run_make_row' (P := Tryz.prog) 32 2 (.int .i64 0) 8 Tryz.underlying32 info64 rfl .i64 .i64 (D + 1) (by omega) (by omega) W
    rwa [show ((D + 1 : Nat) : Int) = (D : Int) + 1 by omega] at this
  obtain ⟨a, ha⟩ : ∃ a, Ser.co l = a := ⟨_, rfl⟩
  obtain ⟨b, hb⟩ : ∃ b, Ser.co l' = b := ⟨_, rfl⟩
  have HA := Lib.hid ha
  have HB0 := Lib.hid hb
  have HE := Lib.hid (show Ser.mulL m D l l' = Ser.cut m D (Ser.mul a b) by unfold Ser.mulL; rw [ha, hb])
  rw [HE.out]
  clear ha hb
  go_enter Tryz.func94, Tryz.ntmps94
  go_wp2
  go_loopw [10, 11] (fun i _ wr => ∃ j : Nat, j ≤ 2000 ∧ i = .int .i64 j ∧ OwnI wr w.heap.size (.slice (some ⟨w.heap.size, 0, none⟩) (D + 1) (D + 1)) (Ser.timS m D a b j) ∧ Below w.heap.size w wr) (fun i _ _ => l.length - (intOf i).toNat)
  case atStart =>
    refine ⟨0, by omega, rfl, ?_, (Below.refl _ _).alloc (Nat.le_refl _) _⟩
    have h := OwnI.made w (D + 1) (by unfold maxLen; omega)
    rw [Ser.timS_zero]
    simpa using h
  case round =>
    clear hmk
    obtain ⟨j, hj, rfl, hown, hbel⟩ := hrel
    have HB := Lib.hid hbel
    have HO := Lib.hid hown
    clear hown hbel
    by_cases h1 : j < l.length
    · by_cases h2 : j ≤ D
      · go_wp2
        go_loopw [11] (fun i wr => ∃ k : Nat, k ≤ 1000 ∧ i = .int .i64 k ∧ OwnI wr w.heap.size (.slice (some ⟨w.heap.size, 0, none⟩) (D + 1) (D + 1)) (Ser.timP m D a b j k) ∧ Below w.heap.size w wr) (fun i _ => l'.length - (intOf i).toNat)
        case atStart => exact ⟨0, by omega, rfl, by rw [Ser.timP_zero]; exact HO.out, HB.out⟩
        case round =>
          clear HO HB
          obtain ⟨k, hk, rfl, hown, hbel⟩ := hrel
          have HB := Lib.hid hbel
          have HO := Lib.hid hown
          clear hown hbel
          obtain ⟨bb, off, rfl, hbb, hc⟩ := HR.out.at j h1
          have hc1 := (HB.out.cell (p := ⟨bb, off + j, none⟩) hbb).trans hc
          have r1 := HS.out j
          rw [HA.out] at hc1 r1
          obtain ⟨X, hX⟩ : ∃ X, a j = X := ⟨_, rfl⟩
          rw [hX] at hc1 r1
          obtain ⟨r1, r2⟩ := r1
          have j0 : (0 : Int) ≤ (j : Int) := by omega
          have j1 : (j : Int) < (l.length : Int) := by omega
          clear hc
          by_cases h3 : k < l'.length
          · by_cases h4 : j + k ≤ D
            · by_cases h5 : X = 0
              · have HN := Lib.hid (timP_null m D a b j k (hX.trans h5))
                subst h5
                clear hX
                go_wp2
                go_roundw
                case rel => exact ⟨j + 1, by omega, by go_num, by rw [← HN.out]; exact HO.out, HB.out⟩
                case measure => simp only [intOf]; omega
              · obtain ⟨n1, n2⟩ := ne_facts h5
                obtain ⟨bb', off', rfl, hbb', hc'⟩ := HR'.out.at k h3
                have hc2 := (HB.out.cell (p := ⟨bb', off' + k, none⟩) hbb').trans hc'
                have q1 := HS'.out k
                rw [HB0.out] at hc2 q1
                obtain ⟨Y, hY⟩ : ∃ Y, b k = Y := ⟨_, rfl⟩
                rw [hY] at hc2 q1
                obtain ⟨q1, q2⟩ := q1
                obtain ⟨_, _, o3, o4⟩ := HO.out.cells
                have hd1 := o3 (j + k) (by unfold Ser.timP; rw [Ser.cut_length]; omega)
                have hf1 := o4 (j + k)
                have z1 := timP_red (m := m) (by omega) D a b j k (j + k)
                have hst := Ser.timP_step m D a b j k h4
                change wr.cell? _ = some (.int .i64 (Ser.co (Ser.timP m D a b j k) (j + k))) at hd1
                obtain ⟨Z, hZ⟩ : ∃ Z, Ser.co (Ser.timP m D a b j k) (j + k) = Z := ⟨_, rfl⟩
                rw [hZ] at hd1 z1 hst
                rw [hX, hY] at hst
                obtain ⟨z1, z2⟩ := z1
                have hset := HO.out.set (j + k) ((Z + X * Y) % m)
                rw [hst] at hset
                have HSET := Lib.hid hset
                have p1 := Int.mul_nonneg r1 q1
                have p2 := (mul_bd (x := X) (y := Y) r1 (by omega) (by omega) (by omega)).2
                have j2 : (0 : Int) ≤ (k : Int) := by omega
                have j3 : (k : Int) < (l'.length : Int) := by omega
                have j4 : (j : Int) + (k : Int) ≤ (D : Int) := by omega
                have j5 : (j : Int) + (k : Int) < (D : Int) + 1 := by omega
                have j6 : (0 : Int) ≤ (j : Int) + (k : Int) := by omega
                have j7 : ((j : Int) + (k : Int)).toNat = j + k := by omega
                have w1 : IntKind.i64.wrap ((j : Int) + (k : Int)) = (j : Int) + (k : Int) := by rw [IntKind.wrap_i64]; omega
                have w2 : IntKind.i64.wrap (X * Y) = X * Y := by rw [IntKind.wrap_i64]; omega
                have w3 : IntKind.i64.wrap (Z + X * Y) = Z + X * Y := by rw [IntKind.wrap_i64]; omega
                clear hX hY hZ hst hset hc' o3 o4
                go_wp2
                go_still_tail 23, (by kernel_rfl)
                change wpList _ _ _ _ _ wr.drew
                go_wp2
                go_roundw
                case rel => exact ⟨k + 1, by omega, by go_num, HSET.out, HB.out.drew.setCell (Nat.le_refl _) _⟩
                case measure => simp only [intOf]; omega
            · have HN := Lib.hid (Ser.timP_end m D a b j k (fun q hq1 hq2 => by omega))
              have h4' : ¬ (j : Int) + (k : Int) ≤ (D : Int) := by omega
              clear hX h4
              go_wp2
              go_roundw
              case rel => exact ⟨j + 1, by omega, by go_num, by rw [← HN.out]; exact HO.out, HB.out⟩
              case measure => simp only [intOf]; omega
          · have HN := Lib.hid (Ser.timP_end m D a b j k (fun q hq1 hq2 => by rw [← HB0.out]; exact Ser.co_over (by omega)))
            clear hX
            go_wp2
            go_roundw
            case rel => exact ⟨j + 1, by omega, by go_num, by rw [← HN.out]; exact HO.out, HB.out⟩
            case measure => simp only [intOf]; omega
      · have ho := HO.out
        rw [Ser.timS_end m D a b j (fun q hq1 hq2 => by omega)] at ho
        have HF := Lib.hid ho
        clear ho
        go_wp2
        go_ret
        exact ⟨_, rfl, HF.out, HB.out⟩
    · have ho := HO.out
      rw [Ser.timS_end m D a b j (fun q hq1 hq2 => by rw [← HA.out]; exact Ser.co_over (by omega))] at ho
      have HF := Lib.hid ho
      clear ho
      go_wp2
      go_ret
      exact ⟨_, rfl, HF.out, HB.out⟩
end Go.Proofs.YtfhdgcndiljjcaaGreatDoor

/- Contracts of AddSeries, of the program. -/
namespace Go.Proofs.YtfhdgcndiljjcaaGreatDoor
open Go.RowKit Go.WideShapes Go.ChangeShapes Go.ChangeAt

theorem code2_iff {m : Int} {l : List Int} {m' : Int} {l' : List Int} (h : code2 m l m' l' = 0) : isS m l = true ∧ isS m' l' = true ∧ m = m' ∧ l.length = l'.length := by
  unfold code2 at h
  by_cases h1 : isS m l = true ∧ isS m' l' = true
  · rw [if_pos h1] at h
    by_cases h2 : m = m' ∧ l.length = l'.length
    · exact ⟨h1.1, h1.2, h2.1, h2.2⟩
    · rw [if_neg h2] at h; exact absurd h (by decide)
  · rw [if_neg h1] at h; exact absurd h (by decide)
theorem code2_ok {m : Int} {l : List Int} {m' : Int} {l' : List Int} (h : code2 m l m' l' = 0) : m = m' ∧ ∃ d, l.length = d + 1 ∧ l'.length = d + 1 ∧ SerOk m d l ∧ SerOk m d l' := by
  obtain ⟨h1, h2, rfl, h4⟩ := code2_iff h
  obtain ⟨d, e1, s1⟩ := serOk_of h1
  obtain ⟨d', e2, s2⟩ := serOk_of h2
  obtain rfl : d = d' := by omega
  exact ⟨rfl, d, e1, e2, s1, s2⟩

/-- a function of two series that are alike -/
def twoM (f : Int → Nat → List Int → List Int → List Int) (m : Int) (l : List Int) (m' : Int) (l' : List Int) : Int × List Int × Int :=
  if code2 m l m' l' = 0 then (m, f m (l.length - 1) l l', 0) else (0, [], code2 m l m' l')
def addL (m : Int) (d : Nat) (l l' : List Int) : List Int := Ser.cut m d fun n => Ser.co l n + Ser.co l' n
/-- the world behind both boxes, the result's variable and the list of both -/
theorem box4_new (w : World) (m m' : Int) (A A' : Option Addr) (n c n' c' : Nat) (W : World) (hW : ((((w.alloc (.cells #[.int .i64 m, .slice A n c] 71)).alloc (.cells #[.int .i64 m', .slice A' n' c'] 71)).alloc (.cells #[.int .i64 0, .slice none 0 0] 71)).alloc (.cells #[.int .i64 m, .slice A n c, .int .i64 m', .slice A' n' c'] 71)) = W) :
    Box W w.heap.size m A n c ∧ Box W (w.heap.size + 1) m' A' n' c' ∧ Var2 W (w.heap.size + 1 + 1) (.int .i64 0) (.slice none 0 0) ∧ Box4 W (w.heap.size + 1 + 1 + 1) m A n c m' A' n' c' ∧ Below w.heap.size w W := by
  obtain ⟨W0, hW0⟩ : ∃ W0, (((w.alloc (.cells #[.int .i64 m, .slice A n c] 71)).alloc (.cells #[.int .i64 m', .slice A' n' c'] 71)).alloc (.cells #[.int .i64 0, .slice none 0 0] 71)) = W0 := ⟨_, rfl⟩
  obtain ⟨h1, h2, h3, h4⟩ := box3_new w m m' A A' n c n' c' W0 hW0
  have hs : W0.heap.size = w.heap.size + 1 + 1 + 1 := by rw [← hW0]; simp
  rw [hW0] at hW
  subst hW
  refine ⟨h1.keep (below_one _ _), h2.keep (below_one _ _), h3.keep (below_one _ _), ?_, below_alloc _ h4⟩
  rw [← hs]
  exact Box4.new _ _ _ _ _ _ _ _ _

theorem OwnI.nil' (w : World) (base : Nat) : OwnI w base (.slice none 0 0) [] := OwnI.nil w base

end Go.Proofs.YtfhdgcndiljjcaaGreatDoor

/- Contracts of the model's functions that look at series and make them. -/
namespace Go.Proofs.YtfhdgcndiljjcaaGreatDoor
open Go.RowKit Go.WideShapes Go.ChangeShapes Go.ChangeAt

end Go.Proofs.YtfhdgcndiljjcaaGreatDoor

/- Contracts of MultiplySeries, of the program and of the model. -/
namespace Go.Proofs.YtfhdgcndiljjcaaGreatDoor
open Go.RowKit Go.WideShapes Go.ChangeShapes Go.ChangeAt

set_option maxHeartbeats 1000000 in
theorem timesC_any (n : Nat) (g g' : Nat) (m : Int) (d : Nat) (A : Option Addr) (c : Nat) (l : List Int) (m' : Int) (A' : Option Addr) (c' : Nat) (l' : List Int) (W : World)
    (hb : Box W g m A l.length c) (hb' : Box W g' m' A' l'.length c') (hs : SerOk m d l) (hs' : SerOk m d l') (hr : RI W A l) (hr' : RI W A' l') (hn : n ≤ d) :
    Calls Tryz.prog 119 #[.int .i64 n, .pointer (some ⟨g, 0, none⟩), .pointer (some ⟨g', 0, none⟩)] W fun e w' => e = .returned (.int .i64 (Ser.cv n (Ser.co l) (Ser.co l'))) ∧ Below W.heap.size W w' := by
  obtain ⟨x1, x2, _⟩ := hb
  obtain ⟨y1, y2, _⟩ := hb'
  have HP := Lib.hid (productAt_any m d n A c l m' A' c' l' W hs hs' hr hr' hn)
  clear hs hs' hr hr'
  go_enter Tryz.func119, Tryz.ntmps119
  go_wp2_with fail
  refine HP.out.mono ?_
  rintro e w1 ⟨rfl, hb1⟩
  go_wp2
  go_ret
  exact ⟨rfl, hb1⟩

theorem psum_bd (f : Nat → Int) (B : Int) (hf : ∀ i, 0 ≤ f i ∧ f i ≤ B) : ∀ n : Nat, 0 ≤ Ser.psum f n ∧ Ser.psum f n ≤ n * B := by
  intro n
  induction n with
  | zero => simp [Ser.psum]
  | succ n ih =>
    have := hf n
    have e : ((n + 1 : Nat) : Int) * B = n * B + B := by rw [show ((n + 1 : Nat) : Int) = (n : Int) + 1 by omega, Int.add_mul, Int.one_mul]
    rw [Ser.psum, e]
    omega
theorem cv_bd {m : Int} {l l' : List Int} (m2 : m ≤ 10000) (h : Ser.Red m l) (h' : Ser.Red m l') (n : Nat) (hn : n ≤ 1000) : 0 ≤ Ser.cv n (Ser.co l) (Ser.co l') ∧ Ser.cv n (Ser.co l) (Ser.co l') ≤ 100100000000 := by
  rw [Ser.cv_psum]
  have := psum_bd (fun i => Ser.co l i * Ser.co l' (n - i)) 100000000 (fun i => by
    have h1 := h i
    have h2 := h' (n - i)
    exact ⟨Int.mul_nonneg h1.1 h2.1, (mul_bd h1.1 (by omega) (by omega) (by omega)).2⟩) (n + 1)
  refine ⟨this.1, Int.le_trans this.2 ?_⟩
  omega

set_option maxHeartbeats 2000000 in
set_option maxRecDepth 100000 in
theorem times_any (m : Int) (d : Nat) (A : Option Addr) (c : Nat) (l : List Int) (m' : Int) (A' : Option Addr) (c' : Nat) (l' : List Int) (w : World) (hs : SerOk m d l) (hs' : SerOk m d l') (hr : RI w A l) (hr' : RI w A' l') :
    Calls Tryz.prog 110 #[.agg #[.int .i64 m, .slice A l.length c], .agg #[.int .i64 m', .slice A' l'.length c']] w fun e w' => ∃ v, e = .returned (.agg #[.int .i64 m, v]) ∧ OwnI w' w.heap.size v (Ser.mulL m d l l') ∧ Below w.heap.size w w' := by
  obtain ⟨W, hW⟩ : ∃ W, (((w.alloc (.cells #[.int .i64 m, .slice A l.length c] 71)).alloc (.cells #[.int .i64 m', .slice A' l'.length c'] 71)).alloc (.cells #[.int .i64 0, .slice none 0 0] 71)) = W := ⟨_, rfl⟩
  obtain ⟨b1, b2, v3, hwb⟩ := box3_new w m m' A A' l.length c l'.length c' W hW
  have B1 := Lib.hid b1
  have B2 := Lib.hid b2
  have V3 := Lib.hid v3
  have HB := Lib.hid hwb
  have HW := Lib.hid hW
  have R1 := Lib.hid (hr.below hwb)
  have R2 := Lib.hid (hr'.below hwb)
  have HS := Lib.hid (fun W0 (h0 : Below W.heap.size W W0) => seriesOf_any m d 119 #[.pointer (some ⟨w.heap.size, 0, none⟩), .pointer (some ⟨w.heap.size + 1, 0, none⟩)] (Ser.mul (Ser.co l) (Ser.co l')) W0 (by have := hs.m1; omega) hs.m2 (by have := hs.d2; omega)
    (fun n hn => by have := cv_bd hs.m2 hs.red hs'.red n (by have := hs.d2; omega); rw [Ser.mul_at]; omega)
    (enters_fn Tryz.func119 (of_decide_eq_true (by kernel_rfl)) rfl)
    (fun n W1 hn hb => by
      have hb2 := h0.trans (hb.mono h0.size)
      exact timesC_any n _ _ m d A c l m' A' c' l' W1 (B1.out.keep hb2) (B2.out.keep hb2) hs hs' (R1.out.below hb2) (R2.out.below hb2) hn))
  have HL := Lib.hid hs.len
  have HD := Lib.hid hs.d2
  obtain ⟨L, hLL⟩ : ∃ L, Ser.mulL m d l l' = L := ⟨_, rfl⟩
  unfold Ser.mulL at hLL ⊢
  rw [hLL] at HS ⊢
  clear b1 b2 v3 hwb hW hr hr' hs hs' hLL
  go_enter Tryz.func110, Tryz.ntmps110
  go_wp2
  rw [HW.out]
  obtain ⟨x1, x2, x3⟩ := B1.out
  go_region_held3 (fun w' => w'.cell? ⟨w.heap.size, 0, none⟩ = some (.int .i64 m) ∧ w'.cell? ⟨w.heap.size, 1, none⟩ = some (.slice A l.length c) ∧ w.heap.size < w'.heap.size) (first | exact ⟨x1, x2, x3⟩ | exact box_store (by omega) (by assumption) | exact box_call (by assumption) (by assumption)) (first
    | (go_at_call 44; refine (degree_nat _ _ _ _ d _ HL.out (by have := HD.out; omega)).mono ?_; rintro e1 w1 ⟨rfl, hb1⟩)
    | (go_at_call 99; refine (HS.out _ ((below_drew0 W).trans hb1)).mono ?_; rintro e2 w2 ⟨v, rfl, ho2, hb2⟩; obtain ⟨A2, c2, rfl, _⟩ := ho2.form; have hv := V3.out.keep (((below_drew0 W).trans hb1).trans (hb2.mono ((below_drew0 W).trans hb1).size)); have q0 := hv.c0; have q1 := hv.c1; have q2 := hv.fz 0; have q3 := hv.fz 1))
  all_goals
    have hz := ((below_drew0 W).trans hb1).size
    have hg := x3
    have hw2 : Below w.heap.size w w2 := (HB.out.trans (((below_drew0 W).trans hb1).mono HB.out.size)).trans (hb2.mono (by have := HB.out.size; omega))
    obtain ⟨f0, f1, f2, f3⟩ := fin_var (w := w) hv ho2 (by have := V3.out.lt; omega) (by omega) hw2 (.int .i64 m) (.slice A2 L.length c2)
    have F2 := Lib.hid f2
    have F3 := Lib.hid f3
    clear f2 f3 hw2 ho2 hb2 hb1
    go_wp2
    refine bodyPost_ret (v := .agg #[.int .i64 m, .slice A2 L.length c2]) (by simp [results, Tryz.results110, go_sem, f0, f1]) rfl ⟨_, rfl, F2.out, F3.out⟩

theorem l02Times_ok (m : Int) (d : Nat) (A : Option Addr) (c : Nat) (l : List Int) (A' : Option Addr) (c' : Nat) (l' : List Int) (w : World) (hs : SerOk m d l) (hs' : SerOk m d l') (hr : RI w A l) (hr' : RI w A' l') :
    Calls Tryz.prog 94 #[.int .i64 m, .slice A l.length c, .slice A' l'.length c', .int .i64 d] w fun e w' => ∃ v, e = .returned v ∧ OwnI w' w.heap.size v (Ser.mulL m d l l') ∧ Below w.heap.size w w' :=
  l02Times_any m d A c l A' c' l' w hs.m1 hs.m2 (by have := hs.d2; omega) (by have := hs.d2; have := hs.len; omega) (by have := hs'.d2; have := hs'.len; omega) hs.red hs'.red hr hr'
end Go.Proofs.YtfhdgcndiljjcaaGreatDoor

/- A series among a law's arguments: what its reading tells. -/
namespace Go.Proofs.YtfhdgcndiljjcaaGreatDoor
open Go.RowKit Go.WideShapes Go.ChangeShapes Go.ChangeAt

theorem use_it {p q : Prop} (h : p) (k : p → q) : q := k h
theorem Var2.drew {w : World} {g : Nat} {x y : Value} (h : Var2 w g x y) : Var2 w.drew g x y := h
theorem cells_i64 : Tryz.prog.cellsOf 2 = 1 := by kernel_rfl
theorem cells_i64s : Tryz.prog.cellsOf 32 = 1 := by kernel_rfl
end Go.Proofs.YtfhdgcndiljjcaaGreatDoor

/- Variables of series: what a store into one leaves alone; making one of a monomial. -/
namespace Go.Proofs.YtfhdgcndiljjcaaGreatDoor
open Go.RowKit Go.WideShapes Go.ChangeShapes Go.ChangeAt

theorem t_ne : ¬ (2 : TypeId) = (71 : TypeId) := by decide
theorem own_ne_var {w : World} {g base : Nat} {x y : Value} {v : Value} {l : List Int} (hv : Var2 w g x y) (h : OwnI w base v l) : v.ownBlock ≠ some g := by
  intro e
  unfold OwnI at h
  unfold Var2 at hv
  rcases h.2 with ⟨rfl, _⟩ | ⟨g', cap, cur, rfl, _, hg, _⟩
  · simp [Value.ownBlock] at e
  · simp [Value.ownBlock] at e
    subst e
    rw [hg] at hv
    injection hv with hv
    injection hv with _ hv
    exact t_ne hv
theorem OwnI.set2 {w : World} {g base : Nat} {x y : Value} {v : Value} {l : List Int} (h : OwnI w base v l) (hv : Var2 w g x y) (x' y' : Value) : OwnI (set2 w g x' y') base v l :=
  h.other (grown_set2 w g x' y') (.inr (own_ne_var hv h))
theorem Var2.set2' {w : World} {g g' : Nat} {x y : Value} (h : Var2 w g x y) (hne : g' ≠ g) (x' y' : Value) : Var2 (Proofs.YtfhdgcndiljjcaaGreatDoor.set2 w g' x' y') g x y := (h.far g' 0 x' hne).far g' 1 y' hne
theorem RI.set2 {w : World} {g : Nat} {x : Int} {A' : Option Addr} {n c : Nat} {A : Option Addr} {l : List Int} (h : RI w A l) (hv : Var2 w g (.int .i64 x) (.slice A' n c)) (hl : 2 ≤ l.length) (x' y' : Value) : RI (Proofs.YtfhdgcndiljjcaaGreatDoor.set2 w g x' y') A l := by
  intro hne
  obtain ⟨b, off, e, hlt, hc⟩ := h hne
  have hbg : b ≠ g := by
    rintro rfl
    have h0 := hc 0 (by omega)
    have h1 := hc 1 (by omega)
    unfold Var2 at hv
    simp only [World.cell?, hv] at h0 h1
    match off, h0, h1 with
    | 0, h0, h1 => simp at h1
    | off + 1, h0, h1 => simp at h1
  refine ⟨b, off, e, by simpa [Proofs.YtfhdgcndiljjcaaGreatDoor.set2, World.setCell] using hlt, fun k hk => ?_⟩
  have h1 : (w.setCell ⟨g, 0, none⟩ x').cell? ⟨b, off + k, none⟩ = w.cell? ⟨b, off + k, none⟩ := World.cell?_setCell_other _ _ _ _ (by intro e; injection e with e; exact hbg e.symm)
  have h2 : (Proofs.YtfhdgcndiljjcaaGreatDoor.set2 w g x' y').cell? ⟨b, off + k, none⟩ = (w.setCell ⟨g, 0, none⟩ x').cell? ⟨b, off + k, none⟩ := World.cell?_setCell_other _ _ _ _ (by intro e; injection e with e; exact hbg e.symm)
  rw [h2, h1]
  exact hc k hk
theorem RI.drew {w : World} {A : Option Addr} {l : List Int} (h : RI w A l) : RI w.drew A l := h

/-- a variable made of a result: the store comes into a variable that lay there before the call, or into a new one -/
theorem reg_fin2 {wk cur wd : World} {g : Nat} {A : Option Addr} {n c : Nat} {l : List Int} {x y : Value} (hk : wk.heap.size ≤ g) (hgc : g < cur.heap.size) (hv : Var2 wd g x y) (ho : OwnI wd cur.heap.size (.slice A n c) l) (hb : Below wk.heap.size wk wd) (M : Int) :
    Var2 ((wd.setCell ⟨g, 0, none⟩ (.int .i64 M)).setCell ⟨g, 1, none⟩ (.slice A n c)) g (.int .i64 M) (.slice A n c) ∧ OwnI ((wd.setCell ⟨g, 0, none⟩ (.int .i64 M)).setCell ⟨g, 1, none⟩ (.slice A n c)) wk.heap.size (.slice A n c) l ∧
    Below wk.heap.size wk ((wd.setCell ⟨g, 0, none⟩ (.int .i64 M)).setCell ⟨g, 1, none⟩ (.slice A n c)) ∧ wk.heap.size ≤ g := by
  obtain ⟨f0, f1, f2, f3⟩ := fin_var (w := wk) hv ho hgc hk hb (.int .i64 M) (.slice A n c)
  exact ⟨hv.set2 _ _, f2, f3, hk⟩
theorem reg_new2 {wk cur wd : World} {A : Option Addr} {n c : Nat} {l : List Int} (hk : wk.heap.size ≤ cur.heap.size) (ho : OwnI wd cur.heap.size (.slice A n c) l) (hb : Below wk.heap.size wk wd) (M : Int) :
    Var2 (wd.alloc (.cells #[.int .i64 M, .slice A n c] 71)) wd.heap.size (.int .i64 M) (.slice A n c) ∧ OwnI (wd.alloc (.cells #[.int .i64 M, .slice A n c] 71)) wk.heap.size (.slice A n c) l ∧
    Below wk.heap.size wk (wd.alloc (.cells #[.int .i64 M, .slice A n c] 71)) ∧ wk.heap.size ≤ wd.heap.size :=
  ⟨Var2.new _ _ _, (ho.keep (below_one _ _)).more hk, below_alloc _ hb, hb.size⟩
theorem one_in {W w' : World} {g : Nat} {m : Int} {A : Option Addr} {n c : Nat} (h : Box W g m A n c) (hb : Below W.heap.size W w') :
    (w'.cell? ⟨g, 0, none⟩ = some (.int .i64 m) ∧ w'.cell? ⟨g, 1, none⟩ = some (.slice A n c)) ∧ True ∧ Below W.heap.size W w' := ⟨box_in h hb, trivial, hb⟩
end Go.Proofs.YtfhdgcndiljjcaaGreatDoor

/- Contracts of RemainderOf, AddModulo and MultiplyModulo, of the program and of the model. -/
namespace Go.Proofs.YtfhdgcndiljjcaaGreatDoor
open Go.RowKit Go.WideShapes Go.ChangeShapes Go.ChangeAt

theorem RI_nil (w : World) : RI w none [] := fun h => absurd rfl h
theorem RI_one (w : World) (a : Int) (t : TypeId) : RI (w.alloc (.cells #[.int .i64 a] t)) (some ⟨w.heap.size, 0, none⟩) [a] := by
  refine fun _ => ⟨w.heap.size, 0, rfl, by simp, fun k hk => ?_⟩
  obtain rfl : k = 0 := by simp at hk; omega
  simp
theorem RI_two (w : World) (a b : Int) (t : TypeId) : RI (w.alloc (.cells #[.int .i64 a, .int .i64 b] t)) (some ⟨w.heap.size, 0, none⟩) [a, b] := by
  refine fun _ => ⟨w.heap.size, 0, rfl, by simp, fun k hk => ?_⟩
  rcases (show k = 0 ∨ k = 1 by simp at hk; omega) with rfl | rfl <;> simp

theorem codeN_one (m a : Int) : codeN m [a] = 0 ↔ 2 ≤ m ∧ m ≤ 10000 ∧ 0 ≤ a ∧ a < m := by
  unfold codeN
  by_cases hm : isM m = true
  · rw [if_pos hm]
    have := (isM_iff m).1 hm
    by_cases ha : allIn 0 (m - 1) [a] = true
    · rw [if_pos ha]; simp [allIn, inB] at ha; simp; omega
    · rw [if_neg ha]; simp [allIn, inB] at ha; simp; omega
  · rw [if_neg hm]
    have : ¬ (2 ≤ m ∧ m ≤ 10000) := fun h => hm ((isM_iff m).2 h)
    simp; omega
theorem codeN_nil (m : Int) : codeN m [] = 0 ↔ 2 ≤ m ∧ m ≤ 10000 := by
  unfold codeN
  by_cases hm : isM m = true
  · rw [if_pos hm]
    have := (isM_iff m).1 hm
    simp [allIn]; omega
  · rw [if_neg hm]
    have : ¬ (2 ≤ m ∧ m ≤ 10000) := fun h => hm ((isM_iff m).2 h)
    simp; omega
theorem codeN_two (m a b : Int) : codeN m [a, b] = 0 ↔ 2 ≤ m ∧ m ≤ 10000 ∧ 0 ≤ a ∧ a < m ∧ 0 ≤ b ∧ b < m := by
  unfold codeN
  by_cases hm : isM m = true
  · rw [if_pos hm]
    have := (isM_iff m).1 hm
    by_cases ha : allIn 0 (m - 1) [a, b] = true
    · rw [if_pos ha]; simp [allIn, inB] at ha; simp; omega
    · rw [if_neg ha]; simp [allIn, inB] at ha; simp; omega
  · rw [if_neg hm]
    have : ¬ (2 ≤ m ∧ m ≤ 10000) := fun h => hm ((isM_iff m).2 h)
    simp; omega
theorem mul_small {a b m : Int} (h1 : 0 ≤ a) (h2 : a < m) (h3 : 0 ≤ b) (h4 : b < m) (hm : m ≤ 10000) : 0 ≤ a * b ∧ a * b ≤ 100000000 := by
  refine ⟨Int.mul_nonneg h1 h3, ?_⟩
  have e1 : a * b ≤ 10000 * b := Int.mul_le_mul_of_nonneg_right (by omega) h3
  omega




end Go.Proofs.YtfhdgcndiljjcaaGreatDoor

/- Plain number theory: no program in sight. Euclid with a factor; orders by the pigeonhole principle. -/
namespace Go.Proofs.YtfhdgcndiljjcaaGreatDoor
namespace Num

/-! Euclid's algorithm with a factor -/
def eg (g ng : Nat) (x nx : Int) : Nat × Int :=
  if _h : ng = 0 then (g, x) else eg ng (g % ng) nx (x - ((g / ng : Nat) : Int) * nx)
termination_by ng
decreasing_by exact Nat.mod_lt _ (by omega)

theorem eg_zero (g : Nat) (x nx : Int) : eg g 0 x nx = (g, x) := by rw [eg]; simp
theorem eg_step (g ng : Nat) (x nx : Int) (h : ng ≠ 0) : eg g ng x nx = eg ng (g % ng) nx (x - ((g / ng : Nat) : Int) * nx) := by rw [eg]; simp [h]

structure EInv (m a g ng : Nat) (x nx : Int) : Prop where
  lt : ng < g
  le : g ≤ m
  dx : (m : Int) ∣ a * x - g
  dn : (m : Int) ∣ a * nx - ng
  det : (0 ≤ x ∧ nx ≤ 0 ∧ x * ng - nx * g = m) ∨ (x ≤ 0 ∧ 0 ≤ nx ∧ nx * g - x * ng = m)
  gcd : Nat.gcd g ng = Nat.gcd m a
  sm : -(m : Int) ≤ x ∧ x ≤ m

theorem EInv.start {m a : Nat} (h : a < m) : EInv m a m a 0 1 :=
  ⟨h, Nat.le_refl _, ⟨-1, by omega⟩, ⟨0, by omega⟩, .inr ⟨by omega, by omega, by omega⟩, rfl, by omega⟩

theorem le_mul_pos {a b c : Int} (ha : 0 ≤ a) (hb : 1 ≤ b) (h : a * b ≤ c) : a ≤ c := by
  have : a * 1 ≤ a * b := Int.mul_le_mul_of_nonneg_left hb ha
  omega

theorem EInv.bn {m a g ng : Nat} {x nx : Int} (h : EInv m a g ng x nx) : -(m : Int) ≤ nx ∧ nx ≤ m := by
  have hg : 1 ≤ (g : Int) := by have := h.lt; omega
  rcases h.det with ⟨a1, a2, a3⟩ | ⟨a1, a2, a3⟩
  · have h1 : 0 ≤ x * ng := Int.mul_nonneg a1 (by omega)
    have := le_mul_pos (a := -nx) (b := g) (c := m) (by omega) hg (by rw [Int.neg_mul]; omega)
    omega
  · have h1 : 0 ≤ (-x) * ng := Int.mul_nonneg (by omega) (by omega)
    rw [Int.neg_mul] at h1
    have := le_mul_pos (a := nx) (b := g) (c := m) (by omega) hg (by omega)
    omega

theorem EInv.step {m a g ng : Nat} {x nx : Int} (h : EInv m a g ng x nx) (h0 : ng ≠ 0) : EInv m a ng (g % ng) nx (x - ((g / ng : Nat) : Int) * nx) := by
  have hd : g = ng * (g / ng) + g % ng := (Nat.div_add_mod g ng).symm
  have hdi : (g : Int) = (ng : Int) * ((g / ng : Nat) : Int) + ((g % ng : Nat) : Int) := by
    rw [← Int.natCast_mul, ← Int.natCast_add, ← hd]
  refine ⟨Nat.mod_lt _ (by omega), Nat.le_trans (Nat.le_of_lt h.lt) h.le, h.dn, ?_, ?_, ?_, h.bn⟩
  · obtain ⟨u, hu⟩ := h.dx
    obtain ⟨v, hv⟩ := h.dn
    refine ⟨u - v * ((g / ng : Nat) : Int), ?_⟩
    generalize ((g / ng : Nat) : Int) = q at *
    generalize ((g % ng : Nat) : Int) = r at *
    grind
  · have hq : 0 ≤ ((g / ng : Nat) : Int) := Int.natCast_nonneg _
    generalize ((g / ng : Nat) : Int) = q at *
    generalize ((g % ng : Nat) : Int) = r at *
    rcases h.det with ⟨a1, a2, a3⟩ | ⟨a1, a2, a3⟩
    · right
      have : q * nx ≤ 0 := Int.mul_nonpos_of_nonneg_of_nonpos hq a2
      refine ⟨a2, by omega, ?_⟩
      grind
    · left
      have : 0 ≤ q * nx := Int.mul_nonneg hq a2
      refine ⟨a2, by omega, ?_⟩
      grind
  · rw [← h.gcd]
    rw [Nat.gcd_comm g ng, Nat.gcd_comm ng (g % ng), ← Nat.gcd_rec]

/-- what the walk asks of a round: the product is small -/
theorem EInv.bq {m a g ng : Nat} {x nx : Int} (h : EInv m a g ng x nx) (h0 : ng ≠ 0) : -2 * (m : Int) ≤ ((g / ng : Nat) : Int) * nx ∧ ((g / ng : Nat) : Int) * nx ≤ 2 * m := by
  have h1 := (h.step h0).bn
  have h2 := h.sm
  omega

/-- the end -/
theorem EInv.stop {m a g : Nat} {x nx : Int} (h : EInv m a g 0 x nx) : g = Nat.gcd m a := by have := h.gcd; simpa using this

theorem eg_spec {m a : Nat} : ∀ (ng g : Nat) (x nx : Int), EInv m a g ng x nx → (eg g ng x nx).1 = Nat.gcd m a ∧ (m : Int) ∣ a * (eg g ng x nx).2 - (eg g ng x nx).1 := by
  intro ng
  induction ng using Nat.strongRecOn with
  | ind ng ih =>
    intro g x nx h
    by_cases h0 : ng = 0
    · subst h0; rw [eg_zero]; exact ⟨h.stop, h.dx⟩
    · rw [eg_step _ _ _ _ h0]
      exact ih _ (Nat.mod_lt _ (by omega)) _ _ _ (h.step h0)

/-! Orders -/
theorem pigeon (n : Nat) : ∀ f : Nat → Nat, (∀ i, i ≤ n → f i < n) → ∃ i j, i < j ∧ j ≤ n ∧ f i = f j := by
  induction n with
  | zero => intro f h; exact absurd (h 0 (Nat.le_refl _)) (by omega)
  | succ n ih =>
    intro f h
    by_cases hc : ∃ i, i ≤ n ∧ f i = f (n + 1)
    · obtain ⟨i, hi, e⟩ := hc
      exact ⟨i, n + 1, by omega, Nat.le_refl _, e⟩
    · have hne : ∀ i, i ≤ n → f i ≠ f (n + 1) := fun i hi e => hc ⟨i, hi, e⟩
      obtain ⟨i, j, h1, h2, h3⟩ := ih (fun i => if f i = n then f (n + 1) else f i) (by
        intro i hi
        have a1 := h i (by omega)
        have a2 := h (n + 1) (by omega)
        have a3 := hne i hi
        split <;> omega)
      refine ⟨i, j, h1, by omega, ?_⟩
      have a1 := hne i (by omega)
      have a2 := hne j h2
      split at h3 <;> split at h3 <;> omega

/-- the powers of a modulo m -/
def pwr (m a k : Nat) : Nat := a ^ k % m
theorem pwr_succ (m a k : Nat) : pwr m a (k + 1) = pwr m a k * a % m := by
  unfold pwr; rw [Nat.pow_succ, Nat.mod_mul_mod]
theorem pwr_lt (m a k : Nat) (h : 0 < m) : pwr m a k < m := Nat.mod_lt _ h
theorem pwr_one (m a : Nat) (h : a < m) : pwr m a 1 = a := by unfold pwr; rw [Nat.pow_one, Nat.mod_eq_of_lt h]

theorem ord_exists (m a : Nat) (hm : 1 < m) (hc : Nat.gcd m a = 1) : ∃ k, 1 ≤ k ∧ k ≤ m ∧ pwr m a k = 1 := by
  obtain ⟨i, j, h1, h2, h3⟩ := pigeon m (pwr m a) (fun i _ => pwr_lt m a i (by omega))
  refine ⟨j - i, by omega, by omega, ?_⟩
  unfold pwr at *
  have hle : a ^ i ≤ a ^ j := by
    by_cases h0 : a = 0
    · subst h0; rw [Nat.gcd_zero_right] at hc; omega
    · exact Nat.pow_le_pow_right (by omega) (by omega)
  have hd : m ∣ a ^ j - a ^ i := by
    refine ⟨a ^ j / m - a ^ i / m, ?_⟩
    have e1 := Nat.div_add_mod (a ^ i) m
    have e2 := Nat.div_add_mod (a ^ j) m
    rw [Nat.mul_sub]; omega
  have he : a ^ j - a ^ i = a ^ i * (a ^ (j - i) - 1) := by
    rw [Nat.mul_sub, ← Nat.pow_add, Nat.mul_one]; congr 2; omega
  rw [he] at hd
  have hcop : Nat.Coprime m (a ^ i) := Nat.Coprime.pow_right i hc
  have hd2 : m ∣ a ^ (j - i) - 1 := hcop.dvd_of_dvd_mul_left hd
  have hp : 1 ≤ a ^ (j - i) := by
    have : a ≠ 0 := by rintro rfl; rw [Nat.gcd_zero_right] at hc; omega
    exact Nat.pos_of_ne_zero (by simp [this])
  obtain ⟨q, hq⟩ := hd2
  have : a ^ (j - i) = 1 + m * q := by omega
  rw [this, Nat.add_mul_mod_self_left, Nat.mod_eq_of_lt hm]

/-- what the loop finds -/
def IsOrd (m a k : Nat) : Prop := 1 ≤ k ∧ pwr m a k = 1 ∧ ∀ j, 1 ≤ j → j < k → pwr m a j ≠ 1
theorem IsOrd.unique {m a k l : Nat} (h : IsOrd m a k) (h' : IsOrd m a l) : k = l := by
  rcases Nat.lt_trichotomy k l with c | c | c
  · exact absurd h.2.1 (h'.2.2 k h.1 c)
  · exact c
  · exact absurd h'.2.1 (h.2.2 l h'.1 c)

/-- the order, looked for from k on -/
def ordF (m a : Nat) : Nat → Nat → Nat
  | 0, k => k
  | f + 1, k => if pwr m a k = 1 then k else ordF m a f (k + 1)
def ordN (m a : Nat) : Nat := ordF m a m 1
theorem ordF_eq (m a k : Nat) (h : IsOrd m a k) : ∀ f j, 1 ≤ j → j ≤ k → k < j + f → ordF m a f j = k
  | 0, j, _, h2, h3 => by omega
  | f + 1, j, h1, h2, h3 => by
    rw [ordF]
    by_cases e : pwr m a j = 1
    · rw [if_pos e]
      apply Classical.byContradiction
      intro hne
      exact h.2.2 j h1 (by omega) e
    · rw [if_neg e]
      have : j ≠ k := by rintro rfl; exact e h.2.1
      exact ordF_eq m a k h f (j + 1) (by omega) (by omega) (by omega)
theorem ordN_eq (m a k : Nat) (h : IsOrd m a k) (hk : k ≤ m) : ordN m a = k := ordF_eq m a k h m 1 (Nat.le_refl _) h.1 (by omega)

/-! Powers by squaring -/
theorem pw_odd (m o s k : Nat) (h : k % 2 = 1) : (o * s % m) * (s * s % m) ^ (k / 2) % m = o * s ^ k % m := by
  have hk : k = 2 * (k / 2) + 1 := by omega
  have e : s ^ k = s * (s * s) ^ (k / 2) := by
    conv => lhs; rw [hk]
    rw [Nat.pow_succ, Nat.pow_mul, Nat.pow_two, Nat.mul_comm]
  rw [e, ← Nat.mul_assoc, Nat.mul_mod (o * s), Nat.pow_mod (s * s), Nat.mul_mod (o * s % m), Nat.mod_mod]
theorem pw_even (m o s k : Nat) (h : k % 2 = 0) : o * (s * s % m) ^ (k / 2) % m = o * s ^ k % m := by
  have hk : k = 2 * (k / 2) := by omega
  have e : s ^ k = (s * s) ^ (k / 2) := by
    conv => lhs; rw [hk]
    rw [Nat.pow_mul, Nat.pow_two]
  rw [e, Nat.mul_mod o ((s * s) ^ _), Nat.pow_mod (s * s), Nat.mul_mod o]

end Num
end Go.Proofs.YtfhdgcndiljjcaaGreatDoor

/- Contract of the model's greatest common divisor. -/
namespace Go.Proofs.YtfhdgcndiljjcaaGreatDoor
open Go.RowKit Go.WideShapes Go.ChangeShapes Go.ChangeAt

/-- the greatest common divisor, at integers of any sign -/
def gcdI (a b : Int) : Int := (Nat.gcd a.natAbs b.natAbs : Nat)
theorem emod_nat (G H : Nat) : (G : Int) % (H : Int) = ((G % H : Nat) : Int) := (Int.natCast_emod G H).symm
end Go.Proofs.YtfhdgcndiljjcaaGreatDoor

/- Contracts of the two Euclids with a factor, of the greatest common divisor, and of what looks at units. -/
namespace Go.Proofs.YtfhdgcndiljjcaaGreatDoor
open Go.RowKit Go.WideShapes Go.ChangeShapes Go.ChangeAt

/-- the divisor and the factor of a number -/
def egI (m a : Int) : Int × Int := (((Num.eg m.toNat a.toNat 0 1).1 : Int), (Num.eg m.toNat a.toNat 0 1).2 % m)

theorem div_cast (G H : Nat) : (G : Int) / (H : Int) = ((G / H : Nat) : Int) := (Int.natCast_ediv G H).symm
theorem sub_mod_cast (G H : Nat) : (G : Int) - (G : Int) / (H : Int) * (H : Int) = ((G % H : Nat) : Int) := by
  have h := Nat.div_add_mod G H
  have h2 : ((G / H : Nat) : Int) * (H : Int) = ((H * (G / H) : Nat) : Int) := by rw [Int.natCast_mul, Int.mul_comm]
  rw [div_cast, h2]; omega

end Go.Proofs.YtfhdgcndiljjcaaGreatDoor

/- Contracts of IsUnit, InverseModulo and PowerModulo, of the program and of the model. -/
namespace Go.Proofs.YtfhdgcndiljjcaaGreatDoor
open Go.RowKit Go.WideShapes Go.ChangeShapes Go.ChangeAt

theorem eg_fact (m a : Int) (h0 : 0 ≤ a) (h1 : a < m) : (egI m a).1 = gcdI a m ∧ m ∣ a * (egI m a).2 - gcdI a m ∧ 0 ≤ (egI m a).2 ∧ (egI m a).2 < m := by
  obtain ⟨A, rfl⟩ := Int.eq_ofNat_of_zero_le h0
  obtain ⟨M, rfl⟩ := Int.eq_ofNat_of_zero_le (show 0 ≤ m by omega)
  obtain ⟨e1, e2⟩ := Num.eg_spec A M 0 1 (Num.EInv.start (show A < M by omega))
  have hg : (((Num.eg M A 0 1).1 : Nat) : Int) = gcdI A M := by rw [e1, gcdI, Int.natAbs_natCast, Int.natAbs_natCast, Nat.gcd_comm]
  refine ⟨hg, ?_, Int.emod_nonneg _ (by omega), Int.emod_lt_of_pos _ (by omega)⟩
  simp only [egI, Int.toNat_natCast]
  rw [hg] at e2
  generalize (Num.eg M A 0 1).2 = x at *
  have h := Int.emod_add_mul_ediv x (M : Int)
  generalize x % (M : Int) = r at *
  generalize x / (M : Int) = q at *
  obtain ⟨u, hu⟩ := e2
  exact ⟨u - A * q, by grind⟩

end Go.Proofs.YtfhdgcndiljjcaaGreatDoor

/- Contracts of InverseOfSeries, of the program and of the model. -/
namespace Go.Proofs.YtfhdgcndiljjcaaGreatDoor
open Go.RowKit Go.WideShapes Go.ChangeShapes Go.ChangeAt

theorem remainder_big (m n : Int) (w : World) (h1 : 1 ≤ m) (h2 : m ≤ 10000) (h3 : -1000000000000000000 ≤ n) (h4 : n ≤ 1000000000000000000) :
    Calls Tryz.prog 114 #[.int .i64 m, .int .i64 n] w fun e w' => e = .returned (.int .i64 (n % m)) ∧ w = w' := by
  by_cases hn : 0 ≤ n
  · have h5 := Int.emod_nonneg n (show m ≠ 0 by omega)
    have h6 := Int.emod_lt_of_pos n (show 0 < m by omega)
    go_enter Tryz.func114, Tryz.ntmps114
    go_wp2
    go_ret
    exact ⟨rfl, rfl⟩
  · obtain ⟨r, a1, a2, a3, a4, a5⟩ := rem_neg m n (by omega) (by omega)
    have H4 := Lib.hid a4
    clear a4 a5
    by_cases hr : r = 0
    · subst hr
      go_enter Tryz.func114, Tryz.ntmps114
      go_wp2
      go_ret
      exact ⟨ret_int (by rw [H4.out]; simp), rfl⟩
    · have hr' : 0 < r := by omega
      clear hr
      go_enter Tryz.func114, Tryz.ntmps114
      go_wp2
      go_ret
      exact ⟨ret_int (by rw [H4.out, if_neg (by omega)]; omega), rfl⟩

/-- the program's list while the inverse is made -/
def ivL (m u : Int) (a : Nat → Int) (d n : Nat) : List Int := Ser.invC m u a n ++ List.replicate (d - n) 0
theorem ivL_len (m u : Int) (a : Nat → Int) (d n : Nat) (h : n ≤ d) : (ivL m u a d n).length = d + 1 := by
  unfold ivL; rw [List.length_append, Ser.invC_length, List.length_replicate]; omega
theorem ivL_red {m u : Int} (hm : 0 < m) (h1 : 0 ≤ u) (h2 : u < m) (a : Nat → Int) (d n : Nat) : Ser.Red m (ivL m u a d n) := by
  intro i
  unfold ivL
  rw [Ser.co_pad]
  exact Ser.invC_red hm h1 h2 a n i
theorem ivL_zero {m u : Int} (h1 : 0 ≤ u) (h2 : u < m) (a : Nat → Int) (d : Nat) : Ser.cut m d (Ser.mon 0 u) = ivL m u a d 0 := by
  refine Ser.list_ext (by rw [Ser.cut_length, ivL_len _ _ _ _ _ (Nat.zero_le _)]) (fun i hi => ?_)
  rw [Ser.cut_length] at hi
  unfold ivL
  rw [Ser.co_pad, Ser.co_cut (by omega)]
  unfold Ser.mon
  cases i with
  | zero => rw [if_pos rfl, Int.emod_eq_of_lt h1 h2]; rfl
  | succ i => rw [if_neg (by omega), Int.zero_emod, Ser.co_over (by simp [Ser.invC])]
theorem ivL_step (m u : Int) (a : Nat → Int) (d n : Nat) (h : n + 1 ≤ d) : (ivL m u a d n).set (n + 1) ((-u * Ser.cv (n + 1) a (Ser.co (ivL m u a d n))) % m) = ivL m u a d (n + 1) := by
  have e : Ser.co (ivL m u a d n) = Ser.co (Ser.invC m u a n) := by unfold ivL; rw [Ser.co_pad]
  rw [e]
  unfold ivL
  rw [List.set_append_right _ _ (by rw [Ser.invC_length]; omega), Ser.invC_length, Nat.sub_self, show d - n = (d - (n + 1)) + 1 by omega, List.replicate_succ, List.set_cons_zero, Ser.invC, List.append_assoc]
  rfl
theorem ivL_all (m u : Int) (a : Nat → Int) (d : Nat) : ivL m u a d d = Ser.invC m u a d := by unfold ivL; rw [Nat.sub_self]; simp

theorem Box.set1 {w : World} {g : Nat} {m : Int} {A : Option Addr} {n c : Nat} (h : Box w g m A n c) (b i : Nat) (x : Value) (hne : b ≠ g) : Box (w.setCell ⟨b, i, none⟩ x) g m A n c := by
  refine ⟨?_, ?_, by simpa [World.setCell] using h.2.2⟩
  · rw [World.cell?_setCell_other _ _ _ _ (by intro e; injection e with e; exact hne e)]; exact h.1
  · rw [World.cell?_setCell_other _ _ _ _ (by intro e; injection e with e; exact hne e)]; exact h.2.1
theorem box22_set {w : World} {g g' b i : Nat} {m m' : Int} {A A' : Option Addr} {n c n' c' : Nat} {x : Value} (hne : b ≠ g) (hne' : b ≠ g')
    (h : (w.cell? ⟨g, 0, none⟩ = some (.int .i64 m) ∧ w.cell? ⟨g, 1, none⟩ = some (.slice A n c) ∧ g < w.heap.size) ∧ (w.cell? ⟨g', 0, none⟩ = some (.int .i64 m') ∧ w.cell? ⟨g', 1, none⟩ = some (.slice A' n' c') ∧ g' < w.heap.size)) :
    ((w.setCell ⟨b, i, none⟩ x).cell? ⟨g, 0, none⟩ = some (.int .i64 m) ∧ (w.setCell ⟨b, i, none⟩ x).cell? ⟨g, 1, none⟩ = some (.slice A n c) ∧ g < (w.setCell ⟨b, i, none⟩ x).heap.size) ∧
    ((w.setCell ⟨b, i, none⟩ x).cell? ⟨g', 0, none⟩ = some (.int .i64 m') ∧ (w.setCell ⟨b, i, none⟩ x).cell? ⟨g', 1, none⟩ = some (.slice A' n' c') ∧ g' < (w.setCell ⟨b, i, none⟩ x).heap.size) := by
  refine ⟨⟨?_, ?_, by simpa [World.setCell] using h.1.2.2⟩, ⟨?_, ?_, by simpa [World.setCell] using h.2.2.2⟩⟩
  · rw [World.cell?_setCell_other _ _ _ _ (by intro e; injection e with e; exact hne e)]; exact h.1.1
  · rw [World.cell?_setCell_other _ _ _ _ (by intro e; injection e with e; exact hne e)]; exact h.1.2.1
  · rw [World.cell?_setCell_other _ _ _ _ (by intro e; injection e with e; exact hne' e)]; exact h.2.1
  · rw [World.cell?_setCell_other _ _ _ _ (by intro e; injection e with e; exact hne' e)]; exact h.2.2.1
/-! a box and one number of its list, across a call -/
theorem bc_call {w w' : World} {g : Nat} {m : Int} {A : Option Addr} {n c b o : Nat} {x : Value} (hb : Below w.heap.size w w')
    (h : (w.cell? ⟨g, 0, none⟩ = some (.int .i64 m) ∧ w.cell? ⟨g, 1, none⟩ = some (.slice A n c) ∧ g < w.heap.size) ∧ (w.cell? ⟨b, o, none⟩ = some x ∧ b < w.heap.size)) :
    (w'.cell? ⟨g, 0, none⟩ = some (.int .i64 m) ∧ w'.cell? ⟨g, 1, none⟩ = some (.slice A n c) ∧ g < w'.heap.size) ∧ (w'.cell? ⟨b, o, none⟩ = some x ∧ b < w'.heap.size) :=
  ⟨box_call hb h.1, (hb.cell (p := ⟨b, o, none⟩) h.2.2).trans h.2.1, Nat.lt_of_lt_of_le h.2.2 hb.size⟩

def ivsM (m : Int) (l : List Int) : Int × List Int × Int :=
  if isS m l = true then (if gcdI (Ser.co l 0) m = 1 then (m, Ser.invC m (egI m (Ser.co l 0)).2 (Ser.co l) (l.length - 1), 0) else (0, [], 5)) else (0, [], 1)
theorem ivsM_len (m : Int) (l : List Int) : (ivsM m l).2.1.length ≤ 1048576 := by
  unfold ivsM
  split
  · rename_i h
    obtain ⟨d, e, s⟩ := serOk_of h
    have := s.d2
    split
    · dsimp only; rw [Ser.invC_length]; omega
    · simp
  · simp
end Go.Proofs.YtfhdgcndiljjcaaGreatDoor

/- Contracts of ComposeSeries, of the program. -/
namespace Go.Proofs.YtfhdgcndiljjcaaGreatDoor
open Go.RowKit Go.WideShapes Go.ChangeShapes Go.ChangeAt

theorem horC_one {m : Int} {d : Nat} {a f : Nat → Int} (h1 : 0 ≤ a d) (h2 : a d < m) : Ser.horC m d a f 1 = Ser.cut m d (Ser.mon 0 (a d)) := by
  refine Ser.list_ext (by rw [Ser.horC_length, Ser.cut_length]) (fun i hi => ?_)
  rw [Ser.horC_length] at hi
  rw [Ser.horC, Ser.co_set (by rw [Ser.cut_length]; omega), Ser.co_cut (a := Ser.mon 0 (a d)) (by omega)]
  unfold Ser.mon
  by_cases h : i = 0
  · rw [if_pos h, if_pos h, Nat.sub_zero, Int.emod_eq_of_lt h1 h2]
  · rw [if_neg h, if_neg h, Ser.co_cut (by omega), Ser.mul_at]
    have e : Ser.co (Ser.horC m d a f 0) = fun _ => 0 := by funext j; rw [Ser.horC, Ser.co_zeros]
    rw [e, Ser.cv_zero_left]

theorem bcb {W w' : World} {g b o : Nat} {m x : Int} {A : Option Addr} {n c : Nat} (h : Box W g m A n c) (hc : W.cell? ⟨b, o, none⟩ = some (.int .i64 x)) (hlt : b < W.heap.size) (hb : Below W.heap.size W w') :
    (w'.cell? ⟨g, 0, none⟩ = some (.int .i64 m) ∧ w'.cell? ⟨g, 1, none⟩ = some (.slice A n c)) ∧ (w'.cell? ⟨b, o, none⟩ = some (.int .i64 x)) ∧ Below W.heap.size W w' := ⟨box_in h hb, (hb.cell (p := ⟨b, o, none⟩) hlt).trans hc, hb⟩
def cmpF (m : Int) (d : Nat) (l l' : List Int) : List Int := Ser.cmpL m d l l'
def cmpM (m : Int) (l : List Int) (m' : Int) (l' : List Int) : Int × List Int × Int :=
  if code2 m l m' l' = 0 then (if Ser.co l' 0 = 0 then (m, Ser.cmpL m (l.length - 1) l l', 0) else (0, [], 5)) else (0, [], code2 m l m' l')
theorem cmpM_len (m : Int) (l : List Int) (m' : Int) (l' : List Int) : (cmpM m l m' l').2.1.length ≤ 1048576 := by
  unfold cmpM
  split
  · rename_i h
    obtain ⟨_, d, e, _, s, _⟩ := code2_ok h
    have := s.d2
    split
    · dsimp only
      rw [Ser.cmpL_length]
      omega
    · simp
  · simp
theorem SerOk.hor {m : Int} {d : Nat} {l l' : List Int} (h : SerOk m d l) (j : Nat) : SerOk m d (Ser.horC m d (Ser.co l) (Ser.co l') j) :=
  ⟨h.m1, h.m2, h.d1, h.d2, Ser.horC_length _ _ _ _ _, Ser.horC_red (by have := h.m1; omega) _ _ _ h.red j⟩

set_option maxHeartbeats 8000000 in
set_option maxRecDepth 100000 in
theorem composed_any (m : Int) (d : Nat) (A : Option Addr) (c : Nat) (l : List Int) (m' : Int) (A' : Option Addr) (c' : Nat) (l' : List Int) (w : World) (hs : SerOk m d l) (hs' : SerOk m d l') (hr : RI w A l) (hr' : RI w A' l') :
    Calls Tryz.prog 96 #[.agg #[.int .i64 m, .slice A l.length c], .agg #[.int .i64 m', .slice A' l'.length c']] w fun e w' => ∃ v, e = .returned (.agg #[.int .i64 m, v]) ∧ OwnI w' w.heap.size v (Ser.cmpL m d l l') ∧ Below w.heap.size w w' := by
  obtain ⟨W, hW⟩ : ∃ W, (((w.alloc (.cells #[.int .i64 m, .slice A l.length c] 71)).alloc (.cells #[.int .i64 m', .slice A' l'.length c'] 71)).alloc (.cells #[.int .i64 0, .slice none 0 0] 71)) = W := ⟨_, rfl⟩
  obtain ⟨b1, b2, v3, hwb⟩ := box3_new w m m' A A' l.length c l'.length c' W hW
  have B1 := Lib.hid b1
  have B2 := Lib.hid b2
  have V3 := Lib.hid v3
  have HB := Lib.hid hwb
  have HW := Lib.hid hW
  have HR := Lib.hid hr
  have HR' := Lib.hid hr'
  have HSZ : w.heap.size + 1 + 1 < W.heap.size := v3.lt
  have m1 := hs.m1
  have m2 := hs.m2
  have hd := hs.d2
  have hd1 := hs.d1
  have HS := Lib.hid hs
  have HS' := Lib.hid hs'
  obtain ⟨b, off, rfl, hbb, hcd⟩ := hr.at d (by rw [hs.len]; omega)
  have hcd1 := (hwb.cell (p := ⟨b, off + d, none⟩) hbb).trans hcd
  obtain ⟨X, hX⟩ : ∃ X, Ser.co l d = X := ⟨_, rfl⟩
  obtain ⟨r1, r2⟩ := hs.red d
  rw [hX] at hcd1 r1 r2
  have HDG := Lib.hid (fun W0 => degree_nat m (some ⟨b, off, none⟩) l.length c d W0 hs.len (by omega))
  have HMO := Lib.hid (fun W0 => monomial_any m d 0 X W0 (by omega) m2 (by omega) (by omega) (by omega))
  obtain ⟨L0, hL0⟩ : ∃ L0, Ser.cut m d (Ser.mon 0 X) = L0 := ⟨_, rfl⟩
  have HL0 := Lib.hid (show L0 = Ser.horC m d (Ser.co l) (Ser.co l') 1 by rw [← hL0, ← hX]; exact (horC_one (by rw [hX]; exact r1) (by rw [hX]; exact r2)).symm)
  rw [hL0] at HMO
  have z1 : (0 : Int) ≤ (d : Int) := by omega
  have z2 : (d : Int) < (l.length : Int) := by have := hs.len; omega
  have hWb : b < W.heap.size := Nat.lt_of_lt_of_le hbb hwb.size
  clear b1 b2 v3 hwb hW hr hr' hs hs' hcd hX hL0
  go_enter Tryz.func96, Tryz.ntmps96
  go_wp2_with fail
  rw [HW.out]
  refine (HDG.out _).mono ?_
  rintro e W1 ⟨rfl, hb1⟩
  have Y1 := Lib.hid (B1.out.keep hb1)
  have Y2 := Lib.hid (B2.out.keep hb1)
  have V1 := Lib.hid (V3.out.keep hb1)
  have HB1 := Lib.hid (below_step HB.out hb1)
  have HSZ1 : w.heap.size + 1 + 1 < W1.heap.size := (V3.out.keep hb1).lt
  have hcd2 := (hb1.cell (p := ⟨b, off + d, none⟩) hWb).trans hcd1
  have hW1b : b < W1.heap.size := Nat.lt_of_lt_of_le hWb hb1.size
  clear hb1 hcd1 HDG B1 B2 V3 HB
  obtain ⟨x1, x2, x3⟩ := Y1.out
  go_wp2
  go_cut [6] (fun s7 wx => ∃ g A1 c1, s7 = .pointer (some ⟨g, 0, none⟩) ∧ Var2 wx g (.int .i64 m) (.slice A1 L0.length c1) ∧ OwnI wx W1.heap.size (.slice A1 L0.length c1) L0 ∧ Below W1.heap.size W1 wx ∧ W1.heap.size ≤ g)
  case first =>
    go_region_held3 (fun w' => (w'.cell? ⟨w.heap.size, 0, none⟩ = some (.int .i64 m) ∧ w'.cell? ⟨w.heap.size, 1, none⟩ = some (.slice (some ⟨b, off, none⟩) l.length c)) ∧ (w'.cell? ⟨b, off + d, none⟩ = some (.int .i64 X)) ∧ Below W1.heap.size W1 w') (first | exact bcb Y1.out hcd2 hW1b (below_drew0 _) | exact bcb Y1.out hcd2 hW1b hbel | exact bcb Y1.out hcd2 hW1b (below_alloc _ (trd (by assumption))) | exact bcb Y1.out hcd2 hW1b (below_alloc _ hbel) | exact bcb Y1.out hcd2 hW1b (reg_fin2 hwg hgc hv hod hbel m).2.2.1 | exact (by assumption)) (first
      | (go_at_call 75; refine (HMO.out _).mono ?_; rintro e wd ⟨sd, rfl, hod, hbd⟩; obtain ⟨Ad, cd, rfl, -⟩ := hod.form; obtain ⟨hbel, hle⟩ := reg_end (by assumption) hbd; first | (refine use_it (var_keep (Var2.new _ _ _).drew hbd) ?_; rintro ⟨hv, hgc⟩; have hwg := var_at (k := W1.heap.size) hv (Nat.le_refl _); have q0 := hv.c0; have q1 := hv.c1; have q2 := hv.fz 0; have q3 := hv.fz 1) | (refine use_it (var_keep (Var2.new _ _ _) hbd) ?_; rintro ⟨hv, hgc⟩; have hwg := var_at (k := W1.heap.size) hv (Nat.le_refl _); have q0 := hv.c0; have q1 := hv.c1; have q2 := hv.fz 0; have q3 := hv.fz 1) | skip))
    all_goals
      go_wp2_with fail
      go_meet
      case rel => first | exact ⟨_, _, _, rfl, reg_new2 hle hod hbel m⟩ | exact ⟨_, _, _, rfl, reg_fin2 hwg hgc hv hod hbel m⟩
  case rest =>
    obtain ⟨w2, hwc⟩ : ∃ w9, w9 = wc := ⟨_, rfl⟩
    subst hwc
    obtain ⟨g7, A7, c7, rfl, v7, o7, hb7, hg7⟩ := hcut
    rw [HL0.out] at v7 o7
    rw [Ser.horC_length] at v7 o7
    have O7 := Lib.hid o7
    have V7 := Lib.hid v7
    have B7 := Lib.hid hb7
    clear v7 o7 hb7 HMO x1 x2 x3 hcd2
    go_wp2
    go_loopw [7] (fun s7 wr => ∃ (j t : Nat) (I : Int) (A1 : Option Addr) (c1 : Nat), j + t = d ∧ I = (t : Int) - 1 ∧ s7 = .int .i64 I ∧ Var2 wr g7 (.int .i64 m) (.slice A1 (d + 1) c1) ∧ OwnI wr W1.heap.size (.slice A1 (d + 1) c1) (Ser.horC m d (Ser.co l) (Ser.co l') (j + 1)) ∧ Below W1.heap.size W1 wr) (fun s7 _ => (intOf s7 + 1).toNat)
    case atStart => exact ⟨0, d, _, A7, c7, by omega, rfl, rfl, V7.out, O7.out, B7.out⟩
    case round =>
      obtain ⟨j, t, I, A1, c1, hjt, hI, rfl, v1, o1, hb1⟩ := hrel
      have VV := Lib.hid v1
      have OO := Lib.hid o1
      have BB := Lib.hid hb1
      have YA := Lib.hid (Y1.out.keep hb1)
      have YB := Lib.hid (Y2.out.keep hb1)
      have VR := Lib.hid (V1.out.keep hb1)
      have RA := Lib.hid (HR.out.below (below_step HB1.out hb1))
      have RB := Lib.hid (HR'.out.below (below_step HB1.out hb1))
      clear v1 o1 hb1 V7 O7 B7
      rcases t with _ | i
      · obtain rfl : j = d := by omega
        obtain rfl : I = -1 := by omega
        clear hI hjt
        have hfin : Ser.horC m j (Ser.co l) (Ser.co l') (j + 1) = Ser.cmpL m j l l' := rfl
        have o1 := OO.out
        rw [hfin] at o1
        have z3 := VV.out.c0
        have z4 := VV.out.c1
        have z5 := VR.out.c0
        have z6 := VR.out.c1
        have z7 := VR.out.fz 0
        have z8 := VR.out.fz 1
        have f2 := (VR.out.set2 (.int .i64 m) (.slice A1 (j + 1) c1))
        have F1 := f2.c0
        have F2 := f2.c1
        have F3 := Lib.hid ((o1.set2 VR.out (.int .i64 m) (.slice A1 (j + 1) c1)).more (show w.heap.size ≤ W1.heap.size by omega))
        have F4 := Lib.hid (below_set2 (below_step HB1.out BB.out) (by omega : w.heap.size ≤ w.heap.size + 1 + 1) (.int .i64 m) (.slice A1 (j + 1) c1))
        unfold set2 at F1 F2 F3 F4
        clear f2 o1 hfin
        go_wp2
        exact bodyPost_ret (v := .agg #[.int .i64 m, .slice A1 (j + 1) c1]) (by simp [results, Tryz.results96, go_sem, F1, F2]) rfl ⟨_, rfl, F3.out, F4.out⟩
      · obtain rfl : I = (i : Int) := by omega
        clear hI
        have sh : SerOk m d (Ser.horC m d (Ser.co l) (Ser.co l') (j + 1)) := HS.out.hor _
        have ht := times_any m d A1 c1 _ m' A' c' l' wr sh HS'.out (by have := OO.out.form; obtain ⟨A0, c0, he, hri⟩ := this; rw [Ser.horC_length] at he; injection he with e1; rw [e1]; exact hri) RB.out
        rw [Ser.horC_length] at ht
        have HT := Lib.hid ht
        obtain ⟨L3, hL3⟩ : ∃ L3, Ser.mulL m d (Ser.horC m d (Ser.co l) (Ser.co l') (j + 1)) l' = L3 := ⟨_, rfl⟩
        have hlen3 : L3.length = d + 1 := by rw [← hL3, Ser.mulL_length]
        rw [hL3] at HT
        have hst : L3.set 0 (Ser.co l i) = Ser.horC m d (Ser.co l) (Ser.co l') (j + 1 + 1) := by
          rw [← hL3]
          have e : d - (j + 1) = i := by omega
          show (Ser.cut m d (Ser.mul (Ser.co (Ser.horC m d (Ser.co l) (Ser.co l') (j + 1))) (Ser.co l'))).set 0 (Ser.co l i) = (Ser.cut m d (Ser.mul (Ser.co (Ser.horC m d (Ser.co l) (Ser.co l') (j + 1))) (Ser.co l'))).set 0 (Ser.co l (d - (j + 1)))
          rw [e]
        obtain ⟨x3, x4⟩ := (⟨VV.out.c0, VV.out.c1⟩ : _ ∧ _)
        obtain ⟨y3, y4, -⟩ := YB.out
        clear ht sh hL3
        go_wp2_with fail
        refine HT.out.mono ?_
        rintro e w3 ⟨s3, rfl, ho3, hb3⟩
        obtain ⟨g3, c3, rfl⟩ := ho3.openv (by intro h; rw [h] at hlen3; simp at hlen3)
        rw [hlen3] at ho3 ⊢
        have v3 := VV.out.keep hb3
        have q5 := v3.c0
        have q6 := v3.c1
        have q7 := v3.fz 0
        have q8 := v3.fz 1
        clear x3 x4 y3 y4
        have hb9 := below_step BB.out hb3
        obtain ⟨X9, hX9⟩ : ∃ X9, set2 w3 g7 (.int .i64 m) (.slice (some ⟨g3, 0, none⟩) (d + 1) c3) = X9 := ⟨_, rfl⟩
        have vx : Var2 X9 g7 (.int .i64 m) (.slice (some ⟨g3, 0, none⟩) (d + 1) c3) := by rw [← hX9]; exact v3.set2 _ _
        have ox : OwnI X9 wr.heap.size (.slice (some ⟨g3, 0, none⟩) (d + 1) c3) L3 := by rw [← hX9]; exact ho3.set2 v3 _ _
        have bx : Below W1.heap.size W1 X9 := by rw [← hX9]; exact below_set2 hb9 hg7 _ _
        have ya : Box X9 w.heap.size m (some ⟨b, off, none⟩) l.length c := Y1.out.keep bx
        obtain ⟨b', off', hbe, hbb', hci⟩ := (HR.out.below (below_step HB1.out bx)).at i (by have := HS.out.len; omega)
        injection hbe with hbe
        injection hbe with hbe1 hbe2
        subst hbe1 hbe2
        obtain ⟨Z, hZ⟩ : ∃ Z, Ser.co l i = Z := ⟨_, rfl⟩
        rw [hZ] at hci hst
        obtain ⟨-, -, o3, o4⟩ := ox.cells
        have d1 := o3 0 (by omega)
        have f1 := o4 0
        have hset := ox.set 0 Z
        rw [hst] at hset
        have hg3 := (ox.lt g3 rfl).1
        have hwr := BB.out.size
        have HSET := Lib.hid (hset.more hwr)
        have ne2 : g3 ≠ g7 := fun e => own_ne_var vx ox (by rw [e]; rfl)
        have V9 := Lib.hid (vx.far g3 0 (.int .i64 Z) ne2)
        have BX := Lib.hid (bx.setCell (p := ⟨g3, 0, none⟩) (by show W1.heap.size ≤ g3; omega) (.int .i64 Z)).drew
        obtain ⟨x5, x6, -⟩ := ya
        obtain ⟨x7, x8⟩ := (⟨vx.c0, vx.c1⟩ : _ ∧ _)
        have j0 : (0 : Int) ≤ (i : Int) := by omega
        have j1 : (i : Int) < (l.length : Int) := by have := HS.out.len; omega
        have j2 : (0 : Int) < (d : Int) + 1 := by omega
        unfold set2 at hX9
        have HX := Lib.hid hX9
        clear ho3 hb3 v3 hb9 vx ox bx hZ hst o3 o4 hset hX9
        go_upto_region 7 with fail
        rw [HX.out]
        clear HX q5 q6 q7 q8
        go_still_tail 8, (by kernel_rfl)
        change wpList _ _ _ _ _ X9.drew
        go_wp2
        go_roundw
        case rel => exact ⟨j + 1, i, _, _, c3, by omega, rfl, by first | rfl | go_num, V9.out, HSET.out, BX.out⟩
        case measure => simp only [intOf]; omega

theorem isC_ok {m : Int} {l : List Int} (h : isS m l = true) : isC m l = (Ser.co l 0 == 0) := by unfold isC; rw [h]; rfl
end Go.Proofs.YtfhdgcndiljjcaaGreatDoor

/- Contracts of the composition of a row, which may have one number alone, and a curve of a degree not less. -/
namespace Go.Proofs.YtfhdgcndiljjcaaGreatDoor
open Go.RowKit Go.WideShapes Go.ChangeShapes Go.ChangeAt

set_option maxHeartbeats 4000000 in
theorem productAtR_any (m : Int) (d d' n : Nat) (A : Option Addr) (c : Nat) (l : List Int) (m' : Int) (A' : Option Addr) (c' : Nat) (l' : List Int) (w : World) (hs : RowOk m d l) (hs' : SerOk m d' l') (hdd : d ≤ d') (hr : RI w A l) (hr' : RI w A' l') (hn : n ≤ d) :
    Calls Tryz.prog 120 #[.agg #[.int .i64 m, .slice A l.length c], .agg #[.int .i64 m', .slice A' l'.length c'], .int .i64 n] w fun e w' => e = .returned (.int .i64 (Ser.cv n (Ser.co l) (Ser.co l'))) ∧ Below w.heap.size w w' := by
  obtain ⟨W, hW⟩ : ∃ W, (w.alloc (.cells #[.int .i64 m, .slice A l.length c] 71)).alloc (.cells #[.int .i64 m', .slice A' l'.length c'] 71) = W := ⟨_, rfl⟩
  obtain ⟨b1, b2, hwb⟩ := box2_new w m m' A A' l.length c l'.length c' W hW
  obtain ⟨x1, x2, _⟩ := b1
  obtain ⟨y1, y2, _⟩ := b2
  have HB := Lib.hid hwb
  have HW := Lib.hid hW
  have R1 := Lib.hid (hr.below hwb)
  have R2 := Lib.hid (hr'.below hwb)
  have HS := Lib.hid hs
  have HS' := Lib.hid hs'
  have HD := hs.d2
  obtain ⟨f, hf⟩ : ∃ f, f = fun i => Ser.co l i * Ser.co l' (n - i) := ⟨_, rfl⟩
  have HE := Lib.hid (show Ser.cv n (Ser.co l) (Ser.co l') = Ser.psum f (n + 1) by rw [hf]; exact Ser.cv_psum _ _ _)
  have HF := Lib.hid hf
  clear hwb hW hr hr' hs hs' hf
  go_enter Tryz.func120, Tryz.ntmps120
  go_wp2
  rw [HW.out]
  go_loopw [7, 8, 11] (fun s _ i wr => ∃ k : Nat, k ≤ n + 1 ∧ i = .int .i64 k ∧ s = .int .i64 (Ser.psum f k) ∧ 0 ≤ Ser.psum f k ∧ Ser.psum f k ≤ k * 100000000 ∧ ∃ q, wr = W.drewN q) (fun _ _ i _ => n + 1 - (intOf i).toNat)
  case atStart => exact ⟨0, Nat.zero_le _, rfl, rfl, Int.le_refl _, Int.le_refl _, 0, rfl⟩
  case round =>
    obtain ⟨k, hk, rfl, rfl, z1, z2, q, rfl⟩ := hrel
    by_cases hlt : k < n + 1
    · obtain ⟨b, off, rfl, hb, hc⟩ := R1.out.at k (by have := HS.out.len; omega)
      obtain ⟨b', off', rfl, hb', hc'⟩ := R2.out.at (n - k) (by have := HS'.out.len; omega)
      have r1 := HS.out.red k
      have r2 := HS'.out.red (n - k)
      have m2 := HS.out.m2
      have hst : Ser.psum f (k + 1) = Ser.psum f k + Ser.co l k * Ser.co l' (n - k) := by rw [Ser.psum, HF.out]
      obtain ⟨X, hX⟩ : ∃ X, Ser.co l k = X := ⟨_, rfl⟩
      obtain ⟨Y, hY⟩ : ∃ Y, Ser.co l' (n - k) = Y := ⟨_, rfl⟩
      obtain ⟨P, hP⟩ : ∃ P, Ser.psum f k = P := ⟨_, rfl⟩
      rw [hX] at hc r1 hst
      rw [hY] at hc' r2 hst
      rw [hP] at z1 z2 hst
      obtain ⟨p1, p2⟩ := mul_bd (x := X) (y := Y) r1.1 (by omega) (by omega) (by omega)
      have p3 : 0 ≤ X * Y := Int.mul_nonneg r1.1 r2.1
      have l1 := HS.out.len
      have l2 := HS'.out.len
      have j0 : (0 : Int) ≤ (k : Int) := by omega
      have j1 : (k : Int) < (l.length : Int) := by omega
      have j3 : (0 : Int) ≤ (n : Int) - (k : Int) := by omega
      have j4 : (n : Int) - (k : Int) < (l'.length : Int) := by omega
      have j5 : ((n : Int) - (k : Int)).toNat = n - k := by omega
      have HST := Lib.hid hst
      have HP := Lib.hid hP
      clear hX hY hP hst l1 l2
      rw [HP.out]
      go_wp2
      go_quiet (fail)
      go_wp2
      go_roundw
      case rel => exact ⟨k + 1, by omega, by go_num, by rw [HST.out], by rw [HST.out]; omega, by rw [HST.out]; omega, _, rfl⟩
      case measure => simp only [intOf]; omega
    · obtain rfl : k = n + 1 := by omega
      go_wp2
      go_ret
      exact ⟨ret_int HE.out.symm, below_drewN HB.out _⟩
set_option maxHeartbeats 1000000 in
theorem timesCR_any (n : Nat) (g g' : Nat) (m : Int) (d d' : Nat) (A : Option Addr) (c : Nat) (l : List Int) (m' : Int) (A' : Option Addr) (c' : Nat) (l' : List Int) (W : World)
    (hb : Box W g m A l.length c) (hb' : Box W g' m' A' l'.length c') (hs : RowOk m d l) (hs' : SerOk m d' l') (hdd : d ≤ d') (hr : RI W A l) (hr' : RI W A' l') (hn : n ≤ d) :
    Calls Tryz.prog 119 #[.int .i64 n, .pointer (some ⟨g, 0, none⟩), .pointer (some ⟨g', 0, none⟩)] W fun e w' => e = .returned (.int .i64 (Ser.cv n (Ser.co l) (Ser.co l'))) ∧ Below W.heap.size W w' := by
  obtain ⟨x1, x2, _⟩ := hb
  obtain ⟨y1, y2, _⟩ := hb'
  have HP := Lib.hid (productAtR_any m d d' n A c l m' A' c' l' W hs hs' hdd hr hr' hn)
  clear hs hs' hr hr'
  go_enter Tryz.func119, Tryz.ntmps119
  go_wp2_with fail
  refine HP.out.mono ?_
  rintro e w1 ⟨rfl, hb1⟩
  go_wp2
  go_ret
  exact ⟨rfl, hb1⟩

set_option maxHeartbeats 2000000 in
set_option maxRecDepth 100000 in
theorem timesR_any (m : Int) (d d' : Nat) (A : Option Addr) (c : Nat) (l : List Int) (m' : Int) (A' : Option Addr) (c' : Nat) (l' : List Int) (w : World) (hs : RowOk m d l) (hs' : SerOk m d' l') (hdd : d ≤ d') (hr : RI w A l) (hr' : RI w A' l') :
    Calls Tryz.prog 110 #[.agg #[.int .i64 m, .slice A l.length c], .agg #[.int .i64 m', .slice A' l'.length c']] w fun e w' => ∃ v, e = .returned (.agg #[.int .i64 m, v]) ∧ OwnI w' w.heap.size v (Ser.mulL m d l l') ∧ Below w.heap.size w w' := by
  obtain ⟨W, hW⟩ : ∃ W, (((w.alloc (.cells #[.int .i64 m, .slice A l.length c] 71)).alloc (.cells #[.int .i64 m', .slice A' l'.length c'] 71)).alloc (.cells #[.int .i64 0, .slice none 0 0] 71)) = W := ⟨_, rfl⟩
  obtain ⟨b1, b2, v3, hwb⟩ := box3_new w m m' A A' l.length c l'.length c' W hW
  have B1 := Lib.hid b1
  have B2 := Lib.hid b2
  have V3 := Lib.hid v3
  have HB := Lib.hid hwb
  have HW := Lib.hid hW
  have R1 := Lib.hid (hr.below hwb)
  have R2 := Lib.hid (hr'.below hwb)
  have HS := Lib.hid (fun W0 (h0 : Below W.heap.size W W0) => seriesOf_any m d 119 #[.pointer (some ⟨w.heap.size, 0, none⟩), .pointer (some ⟨w.heap.size + 1, 0, none⟩)] (Ser.mul (Ser.co l) (Ser.co l')) W0 (by have := hs.m1; omega) hs.m2 (by have := hs.d2; omega)
    (fun n hn => by have := cv_bd hs.m2 hs.red hs'.red n (by have := hs.d2; omega); rw [Ser.mul_at]; omega)
    (enters_fn Tryz.func119 (of_decide_eq_true (by kernel_rfl)) rfl)
    (fun n W1 hn hb => by
      have hb2 := h0.trans (hb.mono h0.size)
      exact timesCR_any n _ _ m d d' A c l m' A' c' l' W1 (B1.out.keep hb2) (B2.out.keep hb2) hs hs' hdd (R1.out.below hb2) (R2.out.below hb2) hn))
  have HL := Lib.hid hs.len
  have HD := Lib.hid hs.d2
  obtain ⟨L, hLL⟩ : ∃ L, Ser.mulL m d l l' = L := ⟨_, rfl⟩
  unfold Ser.mulL at hLL ⊢
  rw [hLL] at HS ⊢
  clear b1 b2 v3 hwb hW hr hr' hs hs' hLL
  go_enter Tryz.func110, Tryz.ntmps110
  go_wp2
  rw [HW.out]
  obtain ⟨x1, x2, x3⟩ := B1.out
  go_region_held3 (fun w' => w'.cell? ⟨w.heap.size, 0, none⟩ = some (.int .i64 m) ∧ w'.cell? ⟨w.heap.size, 1, none⟩ = some (.slice A l.length c) ∧ w.heap.size < w'.heap.size) (first | exact ⟨x1, x2, x3⟩ | exact box_store (by omega) (by assumption) | exact box_call (by assumption) (by assumption)) (first
    | (go_at_call 44; refine (degree_nat _ _ _ _ d _ HL.out (by have := HD.out; omega)).mono ?_; rintro e1 w1 ⟨rfl, hb1⟩)
    | (go_at_call 99; refine (HS.out _ ((below_drew0 W).trans hb1)).mono ?_; rintro e2 w2 ⟨v, rfl, ho2, hb2⟩; obtain ⟨A2, c2, rfl, _⟩ := ho2.form; have hv := V3.out.keep (((below_drew0 W).trans hb1).trans (hb2.mono ((below_drew0 W).trans hb1).size)); have q0 := hv.c0; have q1 := hv.c1; have q2 := hv.fz 0; have q3 := hv.fz 1))
  all_goals
    have hz := ((below_drew0 W).trans hb1).size
    have hg := x3
    have hw2 : Below w.heap.size w w2 := (HB.out.trans (((below_drew0 W).trans hb1).mono HB.out.size)).trans (hb2.mono (by have := HB.out.size; omega))
    obtain ⟨f0, f1, f2, f3⟩ := fin_var (w := w) hv ho2 (by have := V3.out.lt; omega) (by omega) hw2 (.int .i64 m) (.slice A2 L.length c2)
    have F2 := Lib.hid f2
    have F3 := Lib.hid f3
    clear f2 f3 hw2 ho2 hb2 hb1
    go_wp2
    refine bodyPost_ret (v := .agg #[.int .i64 m, .slice A2 L.length c2]) (by simp [results, Tryz.results110, go_sem, f0, f1]) rfl ⟨_, rfl, F2.out, F3.out⟩

theorem RowOk.hor {m : Int} {d : Nat} {l l' : List Int} (h : RowOk m d l) (j : Nat) : RowOk m d (Ser.horC m d (Ser.co l) (Ser.co l') j) :=
  ⟨h.m1, h.m2, h.d2, Ser.horC_length _ _ _ _ _, Ser.horC_red (by have := h.m1; omega) _ _ _ h.red j⟩

set_option maxHeartbeats 8000000 in
set_option maxRecDepth 100000 in
theorem composedR_any (m : Int) (d d' : Nat) (A : Option Addr) (c : Nat) (l : List Int) (m' : Int) (A' : Option Addr) (c' : Nat) (l' : List Int) (w : World) (hs : RowOk m d l) (hs' : SerOk m d' l') (hdd : d ≤ d') (hr : RI w A l) (hr' : RI w A' l') :
    Calls Tryz.prog 96 #[.agg #[.int .i64 m, .slice A l.length c], .agg #[.int .i64 m', .slice A' l'.length c']] w fun e w' => ∃ v, e = .returned (.agg #[.int .i64 m, v]) ∧ OwnI w' w.heap.size v (Ser.cmpL m d l l') ∧ Below w.heap.size w w' := by
  obtain ⟨W, hW⟩ : ∃ W, (((w.alloc (.cells #[.int .i64 m, .slice A l.length c] 71)).alloc (.cells #[.int .i64 m', .slice A' l'.length c'] 71)).alloc (.cells #[.int .i64 0, .slice none 0 0] 71)) = W := ⟨_, rfl⟩
  obtain ⟨b1, b2, v3, hwb⟩ := box3_new w m m' A A' l.length c l'.length c' W hW
  have B1 := Lib.hid b1
  have B2 := Lib.hid b2
  have V3 := Lib.hid v3
  have HB := Lib.hid hwb
  have HW := Lib.hid hW
  have HR := Lib.hid hr
  have HR' := Lib.hid hr'
  have HSZ : w.heap.size + 1 + 1 < W.heap.size := v3.lt
  have m1 := hs.m1
  have m2 := hs.m2
  have hd := hs.d2
  have HS := Lib.hid hs
  have HS' := Lib.hid hs'
  obtain ⟨b, off, rfl, hbb, hcd⟩ := hr.at d (by rw [hs.len]; omega)
  have hcd1 := (hwb.cell (p := ⟨b, off + d, none⟩) hbb).trans hcd
  obtain ⟨X, hX⟩ : ∃ X, Ser.co l d = X := ⟨_, rfl⟩
  obtain ⟨r1, r2⟩ := hs.red d
  rw [hX] at hcd1 r1 r2
  have HDG := Lib.hid (fun W0 => degree_nat m (some ⟨b, off, none⟩) l.length c d W0 hs.len (by omega))
  have HMO := Lib.hid (fun W0 => monomial_any m d 0 X W0 (by omega) m2 (by omega) (by omega) (by omega))
  obtain ⟨L0, hL0⟩ : ∃ L0, Ser.cut m d (Ser.mon 0 X) = L0 := ⟨_, rfl⟩
  have HL0 := Lib.hid (show L0 = Ser.horC m d (Ser.co l) (Ser.co l') 1 by rw [← hL0, ← hX]; exact (horC_one (by rw [hX]; exact r1) (by rw [hX]; exact r2)).symm)
  rw [hL0] at HMO
  have z1 : (0 : Int) ≤ (d : Int) := by omega
  have z2 : (d : Int) < (l.length : Int) := by have := hs.len; omega
  have hWb : b < W.heap.size := Nat.lt_of_lt_of_le hbb hwb.size
  clear b1 b2 v3 hwb hW hr hr' hs hs' hcd hX hL0
  go_enter Tryz.func96, Tryz.ntmps96
  go_wp2_with fail
  rw [HW.out]
  refine (HDG.out _).mono ?_
  rintro e W1 ⟨rfl, hb1⟩
  have Y1 := Lib.hid (B1.out.keep hb1)
  have Y2 := Lib.hid (B2.out.keep hb1)
  have V1 := Lib.hid (V3.out.keep hb1)
  have HB1 := Lib.hid (below_step HB.out hb1)
  have HSZ1 : w.heap.size + 1 + 1 < W1.heap.size := (V3.out.keep hb1).lt
  have hcd2 := (hb1.cell (p := ⟨b, off + d, none⟩) hWb).trans hcd1
  have hW1b : b < W1.heap.size := Nat.lt_of_lt_of_le hWb hb1.size
  clear hb1 hcd1 HDG B1 B2 V3 HB
  obtain ⟨x1, x2, x3⟩ := Y1.out
  go_wp2
  go_cut [6] (fun s7 wx => ∃ g A1 c1, s7 = .pointer (some ⟨g, 0, none⟩) ∧ Var2 wx g (.int .i64 m) (.slice A1 L0.length c1) ∧ OwnI wx W1.heap.size (.slice A1 L0.length c1) L0 ∧ Below W1.heap.size W1 wx ∧ W1.heap.size ≤ g)
  case first =>
    go_region_held3 (fun w' => (w'.cell? ⟨w.heap.size, 0, none⟩ = some (.int .i64 m) ∧ w'.cell? ⟨w.heap.size, 1, none⟩ = some (.slice (some ⟨b, off, none⟩) l.length c)) ∧ (w'.cell? ⟨b, off + d, none⟩ = some (.int .i64 X)) ∧ Below W1.heap.size W1 w') (first | exact bcb Y1.out hcd2 hW1b (below_drew0 _) | exact bcb Y1.out hcd2 hW1b hbel | exact bcb Y1.out hcd2 hW1b (below_alloc _ (trd (by assumption))) | exact bcb Y1.out hcd2 hW1b (below_alloc _ hbel) | exact bcb Y1.out hcd2 hW1b (reg_fin2 hwg hgc hv hod hbel m).2.2.1 | exact (by assumption)) (first
      | (go_at_call 75; refine (HMO.out _).mono ?_; rintro e wd ⟨sd, rfl, hod, hbd⟩; obtain ⟨Ad, cd, rfl, -⟩ := hod.form; obtain ⟨hbel, hle⟩ := reg_end (by assumption) hbd; first | (refine use_it (var_keep (Var2.new _ _ _).drew hbd) ?_; rintro ⟨hv, hgc⟩; have hwg := var_at (k := W1.heap.size) hv (Nat.le_refl _); have q0 := hv.c0; have q1 := hv.c1; have q2 := hv.fz 0; have q3 := hv.fz 1) | (refine use_it (var_keep (Var2.new _ _ _) hbd) ?_; rintro ⟨hv, hgc⟩; have hwg := var_at (k := W1.heap.size) hv (Nat.le_refl _); have q0 := hv.c0; have q1 := hv.c1; have q2 := hv.fz 0; have q3 := hv.fz 1) | skip))
    all_goals
      go_wp2_with fail
      go_meet
      case rel => first | exact ⟨_, _, _, rfl, reg_new2 hle hod hbel m⟩ | exact ⟨_, _, _, rfl, reg_fin2 hwg hgc hv hod hbel m⟩
  case rest =>
    obtain ⟨w2, hwc⟩ : ∃ w9, w9 = wc := ⟨_, rfl⟩
    subst hwc
    obtain ⟨g7, A7, c7, rfl, v7, o7, hb7, hg7⟩ := hcut
    rw [HL0.out] at v7 o7
    rw [Ser.horC_length] at v7 o7
    have O7 := Lib.hid o7
    have V7 := Lib.hid v7
    have B7 := Lib.hid hb7
    clear v7 o7 hb7 HMO x1 x2 x3 hcd2
    go_wp2
    go_loopw [7] (fun s7 wr => ∃ (j t : Nat) (I : Int) (A1 : Option Addr) (c1 : Nat), j + t = d ∧ I = (t : Int) - 1 ∧ s7 = .int .i64 I ∧ Var2 wr g7 (.int .i64 m) (.slice A1 (d + 1) c1) ∧ OwnI wr W1.heap.size (.slice A1 (d + 1) c1) (Ser.horC m d (Ser.co l) (Ser.co l') (j + 1)) ∧ Below W1.heap.size W1 wr) (fun s7 _ => (intOf s7 + 1).toNat)
    case atStart => exact ⟨0, d, _, A7, c7, by omega, rfl, rfl, V7.out, O7.out, B7.out⟩
    case round =>
      obtain ⟨j, t, I, A1, c1, hjt, hI, rfl, v1, o1, hb1⟩ := hrel
      have VV := Lib.hid v1
      have OO := Lib.hid o1
      have BB := Lib.hid hb1
      have YA := Lib.hid (Y1.out.keep hb1)
      have YB := Lib.hid (Y2.out.keep hb1)
      have VR := Lib.hid (V1.out.keep hb1)
      have RA := Lib.hid (HR.out.below (below_step HB1.out hb1))
      have RB := Lib.hid (HR'.out.below (below_step HB1.out hb1))
      clear v1 o1 hb1 V7 O7 B7
      rcases t with _ | i
      · obtain rfl : j = d := by omega
        obtain rfl : I = -1 := by omega
        clear hI hjt
        have hfin : Ser.horC m j (Ser.co l) (Ser.co l') (j + 1) = Ser.cmpL m j l l' := rfl
        have o1 := OO.out
        rw [hfin] at o1
        have z3 := VV.out.c0
        have z4 := VV.out.c1
        have z5 := VR.out.c0
        have z6 := VR.out.c1
        have z7 := VR.out.fz 0
        have z8 := VR.out.fz 1
        have f2 := (VR.out.set2 (.int .i64 m) (.slice A1 (j + 1) c1))
        have F1 := f2.c0
        have F2 := f2.c1
        have F3 := Lib.hid ((o1.set2 VR.out (.int .i64 m) (.slice A1 (j + 1) c1)).more (show w.heap.size ≤ W1.heap.size by omega))
        have F4 := Lib.hid (below_set2 (below_step HB1.out BB.out) (by omega : w.heap.size ≤ w.heap.size + 1 + 1) (.int .i64 m) (.slice A1 (j + 1) c1))
        unfold set2 at F1 F2 F3 F4
        clear f2 o1 hfin
        go_wp2
        exact bodyPost_ret (v := .agg #[.int .i64 m, .slice A1 (j + 1) c1]) (by simp [results, Tryz.results96, go_sem, F1, F2]) rfl ⟨_, rfl, F3.out, F4.out⟩
      · obtain rfl : I = (i : Int) := by omega
        clear hI
        have sh : RowOk m d (Ser.horC m d (Ser.co l) (Ser.co l') (j + 1)) := HS.out.hor _
        have ht := timesR_any m d d' A1 c1 _ m' A' c' l' wr sh HS'.out hdd (by have := OO.out.form; obtain ⟨A0, c0, he, hri⟩ := this; rw [Ser.horC_length] at he; injection he with e1; rw [e1]; exact hri) RB.out
        rw [Ser.horC_length] at ht
        have HT := Lib.hid ht
        obtain ⟨L3, hL3⟩ : ∃ L3, Ser.mulL m d (Ser.horC m d (Ser.co l) (Ser.co l') (j + 1)) l' = L3 := ⟨_, rfl⟩
        have hlen3 : L3.length = d + 1 := by rw [← hL3, Ser.mulL_length]
        rw [hL3] at HT
        have hst : L3.set 0 (Ser.co l i) = Ser.horC m d (Ser.co l) (Ser.co l') (j + 1 + 1) := by
          rw [← hL3]
          have e : d - (j + 1) = i := by omega
          show (Ser.cut m d (Ser.mul (Ser.co (Ser.horC m d (Ser.co l) (Ser.co l') (j + 1))) (Ser.co l'))).set 0 (Ser.co l i) = (Ser.cut m d (Ser.mul (Ser.co (Ser.horC m d (Ser.co l) (Ser.co l') (j + 1))) (Ser.co l'))).set 0 (Ser.co l (d - (j + 1)))
          rw [e]
        obtain ⟨x3, x4⟩ := (⟨VV.out.c0, VV.out.c1⟩ : _ ∧ _)
        obtain ⟨y3, y4, -⟩ := YB.out
        clear ht sh hL3
        go_wp2_with fail
        refine HT.out.mono ?_
        rintro e w3 ⟨s3, rfl, ho3, hb3⟩
        obtain ⟨g3, c3, rfl⟩ := ho3.openv (by intro h; rw [h] at hlen3; simp at hlen3)
        rw [hlen3] at ho3 ⊢
        have v3 := VV.out.keep hb3
        have q5 := v3.c0
        have q6 := v3.c1
        have q7 := v3.fz 0
        have q8 := v3.fz 1
        clear x3 x4 y3 y4
        have hb9 := below_step BB.out hb3
        obtain ⟨X9, hX9⟩ : ∃ X9, set2 w3 g7 (.int .i64 m) (.slice (some ⟨g3, 0, none⟩) (d + 1) c3) = X9 := ⟨_, rfl⟩
        have vx : Var2 X9 g7 (.int .i64 m) (.slice (some ⟨g3, 0, none⟩) (d + 1) c3) := by rw [← hX9]; exact v3.set2 _ _
        have ox : OwnI X9 wr.heap.size (.slice (some ⟨g3, 0, none⟩) (d + 1) c3) L3 := by rw [← hX9]; exact ho3.set2 v3 _ _
        have bx : Below W1.heap.size W1 X9 := by rw [← hX9]; exact below_set2 hb9 hg7 _ _
        have ya : Box X9 w.heap.size m (some ⟨b, off, none⟩) l.length c := Y1.out.keep bx
        obtain ⟨b', off', hbe, hbb', hci⟩ := (HR.out.below (below_step HB1.out bx)).at i (by have := HS.out.len; omega)
        injection hbe with hbe
        injection hbe with hbe1 hbe2
        subst hbe1 hbe2
        obtain ⟨Z, hZ⟩ : ∃ Z, Ser.co l i = Z := ⟨_, rfl⟩
        rw [hZ] at hci hst
        obtain ⟨-, -, o3, o4⟩ := ox.cells
        have d1 := o3 0 (by omega)
        have f1 := o4 0
        have hset := ox.set 0 Z
        rw [hst] at hset
        have hg3 := (ox.lt g3 rfl).1
        have hwr := BB.out.size
        have HSET := Lib.hid (hset.more hwr)
        have ne2 : g3 ≠ g7 := fun e => own_ne_var vx ox (by rw [e]; rfl)
        have V9 := Lib.hid (vx.far g3 0 (.int .i64 Z) ne2)
        have BX := Lib.hid (bx.setCell (p := ⟨g3, 0, none⟩) (by show W1.heap.size ≤ g3; omega) (.int .i64 Z)).drew
        obtain ⟨x5, x6, -⟩ := ya
        obtain ⟨x7, x8⟩ := (⟨vx.c0, vx.c1⟩ : _ ∧ _)
        have j0 : (0 : Int) ≤ (i : Int) := by omega
        have j1 : (i : Int) < (l.length : Int) := by have := HS.out.len; omega
        have j2 : (0 : Int) < (d : Int) + 1 := by omega
        unfold set2 at hX9
        have HX := Lib.hid hX9
        clear ho3 hb3 v3 hb9 vx ox bx hZ hst o3 o4 hset hX9
        go_upto_region 7 with fail
        rw [HX.out]
        clear HX q5 q6 q7 q8
        go_still_tail 8, (by kernel_rfl)
        change wpList _ _ _ _ _ X9.drew
        go_wp2
        go_roundw
        case rel => exact ⟨j + 1, i, _, _, c3, by omega, rfl, by first | rfl | go_num, V9.out, HSET.out, BX.out⟩
        case measure => simp only [intOf]; omega

end Go.Proofs.YtfhdgcndiljjcaaGreatDoor

/- Contract of a grid with a curve put into its second variable. -/
namespace Go.Proofs.YtfhdgcndiljjcaaGreatDoor
open Go.RowKit Go.WideShapes Go.ChangeShapes Go.ChangeAt

/-- a grid's box, a series' box, the result's variable -/
theorem gproB (w : World) (m : Int) (d : Nat) (A : Option Addr) (n c : Nat) (m' : Int) (A' : Option Addr) (n' c' : Nat) : ∃ W, ((w.alloc (.cells #[.int .i64 m, .int .i64 d, .slice A n c] 63)).alloc (.cells #[.int .i64 m', .slice A' n' c'] 71)).alloc (.cells #[.int .i64 0, .int .i64 0, .slice none 0 0] 63) = W ∧
    GBox W w.heap.size m d A n c ∧ Box W (w.heap.size + 1) m' A' n' c' ∧ VarC 63 W (w.heap.size + 1 + 1) #[.int .i64 0, .int .i64 0, .slice none 0 0] ∧ Below w.heap.size w W := by
  refine ⟨_, rfl, ((GBox.new _ _ _ _ _ _ _).keep (below_one _ _)).keep (below_one _ _), ?_, ?_, below_alloc _ (below_alloc _ (below_one _ _))⟩
  · have := (Box.newT 71 (w.alloc (.cells #[.int .i64 m, .int .i64 d, .slice A n c] 63)) m' A' n' c').keep (below_one _ (.cells #[.int .i64 0, .int .i64 0, .slice none 0 0] 63))
    simpa using this
  · have := VarC.new 63 ((w.alloc (.cells #[.int .i64 m, .int .i64 d, .slice A n c] 63)).alloc (.cells #[.int .i64 m', .slice A' n' c'] 71)) #[.int .i64 0, .int .i64 0, .slice none 0 0]
    simpa using this
def wcyF (t : List (List Int)) (l' : List Int) : Nat → Nat → Int := fun i => Ser.comp (Pl.pc t i) (Ser.co l')
theorem wcy_row {m : Int} {d : Nat} {t : List (List Int)} {l' : List Int} (hs : Pl.Ok m d t) (hz : Ser.co l' 0 = 0) (k : Nat) : Ser.cmpL m (d - k) (Pl.rw' t k) l' = Ser.cut m (d - k) (wcyF t l' k) :=
  Ser.cmpL_cut (by have := hs.m1; omega) hz (hs.red k)
set_option maxHeartbeats 4000000 in
set_option maxRecDepth 100000 in
theorem withCurveInY_any (m : Int) (d : Nat) (A : Option Addr) (c : Nat) (t : List (List Int)) (A' : Option Addr) (c' : Nat) (l' : List Int) (w : World) (hs : Pl.Ok m d t) (hs' : SerOk m d l') (hz : Ser.co l' 0 = 0) (hr : RP w A t) (hr' : RI w A' l') :
    Calls Tryz.prog 111 #[.agg #[.int .i64 m, .int .i64 d, .slice A t.length c], .agg #[.int .i64 m, .slice A' l'.length c']] w fun e w' => ∃ v, e = .returned (.agg #[.int .i64 m, .int .i64 d, v]) ∧ OwnR w' w.heap.size w'.heap.size v (Pl.tab m d (wcyF t l')) ∧ Below w.heap.size w w' := by
  obtain ⟨W, hW, b1, b2, v3, hwb⟩ := gproB w m d A t.length c m A' l'.length c'
  obtain ⟨b, off, rfl, hbb, hrow⟩ := hr (by intro e; have := hs.len; rw [e] at this; simp at this)
  have HROW := Lib.hid hrow
  have HCP := Lib.hid (fun (k : Nat) (Ak : Option Addr) (ck : Nat) (W0 : World) (hk : k ≤ d) (h : RI W0 Ak (Pl.rw' t k)) (h' : RI W0 A' l') => by
    have := composedR_any m (d - k) d Ak ck (Pl.rw' t k) m A' c' l' W0 (hs.rowOk k hk) hs' (by omega) h h'
    rw [wcy_row hs hz k] at this
    exact this)
  have HRL := Lib.hid (fun k (hk : k ≤ d) => hs.row k hk)
  have HR' := Lib.hid hr'
  have B1 := Lib.hid b1
  have B2 := Lib.hid b2
  have V3 := Lib.hid v3
  have HB := Lib.hid hwb
  have HW := Lib.hid hW
  have HWS : Hid (W.heap.size = w.heap.size + 1 + 1 + 1) := Lib.hid (by rw [← hW]; simp)
  have hd2 := hs.d2
  have hl := hs.len
  obtain ⟨L, hL⟩ : ∃ L, t.length = L := ⟨_, rfl⟩
  rw [hL] at HW B1 hl HROW ⊢
  have hsz3 := v3.lt
  have hmk : ∀ W : World, (Instr.makeSlice 22 (.int .i64 (L : Int)) (.int .i64 (L : Int))).run Tryz.prog W = .ok (.slice (some ⟨W.heap.size, 0, none⟩) L L) (W.alloc (.cells (madeCells #[Value.slice none 0 0] L) 32)) := by
    intro W
    exact run_make_row' (P := Tryz.prog) 22 32 (.slice none 0 0) 24 Tryz.underlying22 infoRow rfl .i64 .i64 L (by omega) (by omega) W
  obtain ⟨f, hf⟩ : ∃ f, wcyF t l' = f := ⟨_, rfl⟩
  rw [hf] at HCP ⊢
  obtain ⟨l, hll⟩ : ∃ n, l'.length = n := ⟨_, rfl⟩
  rw [hll] at HCP HW B2 ⊢
  have HLd := Lib.hid hl
  have hLb : L ≤ 11 := by omega
  have hfd := fun (a b : Value) (W : World) => (show (Instr.field 71 (.agg #[a, b]) 1).run Tryz.prog W = .ok b W by kernel_rfl)
  obtain ⟨x1, x2, x3, x4⟩ := b1
  rw [hL] at x3
  clear b2 v3 hwb hW hr hr' hs hs' hL hf hll hrow hz hl
  go_enter Tryz.func111, Tryz.ntmps111
  go_wp2
  rw [HW.out]
  go_wp2
  go_loopw [6, 7, 15] (fun _ _ i wr => ∃ k : Nat, k ≤ L ∧ i = .int .i64 k ∧ OwnR wr (w.heap.size + 1 + 1 + 1) wr.heap.size (.slice (some ⟨w.heap.size + 1 + 1 + 1, 0, none⟩) L L) ((Pl.tab m d f).take k ++ List.replicate (d + 1 - k) []) ∧ Below W.heap.size W wr) (fun _ _ i _ => L - (intOf i).toNat)
  case atStart =>
    refine ⟨0, Nat.zero_le _, rfl, ?_, below_one _ _⟩
    have h := OwnR.made W L (by unfold maxLen; omega)
    rw [HWS.out] at h
    rw [← HLd.out]
    simpa [HWS.out] using h
  case round =>
    clear hmk x1 x2 x3 x4
    obtain ⟨k, hk, rfl, hown, hbel⟩ := hrel
    have HO := Lib.hid hown
    have HBW := Lib.hid hbel
    obtain ⟨y1, y2, y3, -⟩ := B1.out.keep hbel
    obtain ⟨z1, z2, -⟩ := B2.out.keep hbel
    clear hown hbel
    by_cases hlt : k < L
    · obtain ⟨Ak, ck, h1, h2, h3⟩ := HROW.out k hlt
      have h1 := ((below_step HB.out HBW.out).cell (p := ⟨b, off + k, none⟩) hbb).trans h1
      have h3 := h3.below (below_step HB.out HBW.out)
      have HCK := Lib.hid (HCP.out k Ak ck wr (by have := HLd.out; omega) h3 (HR'.out.below (below_step HB.out HBW.out)))
      have hrl := HRL.out k (by have := HLd.out; omega)
      obtain ⟨n, hn⟩ : ∃ n, (Pl.rw' t k).length = n := ⟨_, rfl⟩
      rw [hn] at h1 h2 HCK
      obtain ⟨R, hR⟩ : ∃ R, Ser.cut m (d - k) (f k) = R := ⟨_, rfl⟩
      rw [hR] at HCK
      have HR := Lib.hid hR
      have j0 : (0 : Int) ≤ (k : Int) := by omega
      have j1 : (k : Int) < (L : Int) := by omega
      clear h2 h3 hrl hn hR
      go_wp2_with fail
      refine HCK.out.mono ?_
      rintro e w1 ⟨v1, rfl, ho, hb1⟩
      obtain ⟨A1, c1, rfl, -⟩ := ho.form
      have hlen : k < ((Pl.tab m d f).take k ++ List.replicate (d + 1 - k) []).length := by have := Pl.tab_length m d f; have := HLd.out; simp; omega
      have ho1 := HO.out.keep hb1
      obtain ⟨_, o2, _, o4, _, _, o5, _⟩ := ho1.cell k hlen
      have hput := ho1.put k hlen (.slice A1 R.length c1) R (ho.more (by rw [← HWS.out]; exact HBW.out.size)) (hi' := w1.heap.size) (fun b hb => ho.lt b hb) hb1.size
      rw [← HR.out, Pl.tab_step m d f k (by have := HLd.out; omega), Pl.tab_done m d f k (by have := HLd.out; omega)] at hput
      have hbx : Below W.heap.size W (w1.setCell ⟨w.heap.size + 1 + 1 + 1, k, none⟩ (.slice A1 R.length c1)) := (below_step HBW.out hb1).setCell (by show W.heap.size ≤ w.heap.size + 1 + 1 + 1; rw [HWS.out]; exact Nat.le_refl _) _
      rw [HR.out] at hput
      have HP := Lib.hid hput
      have HBX := Lib.hid hbx
      have hs1 : w1.heap.size ≤ (w1.setCell ⟨w.heap.size + 1 + 1 + 1, k, none⟩ (.slice A1 R.length c1)).heap.size := by show _ ≤ (w1.heap.modify _ _).size; simp
      have HS1 := Lib.hid hs1
      clear ho ho1 hput hbx hb1 hlen hs1 o2 y1 y2 y3 z1 z2 h1
      go_wp2
      go_roundw
      case rel => exact ⟨k + 1, by omega, by go_num, HP.out.more HS1.out, HBX.out⟩
      case measure => simp only [intOf]; omega
    · obtain rfl : k = L := by omega
      have ho := HO.out
      rw [HLd.out, Pl.tab_take_all, Nat.sub_self, List.replicate_zero, List.append_nil] at ho
      have hv := V3.out.keep HBW.out
      obtain ⟨q0, q1, q2, q3, q4, q5⟩ := hv.tells3
      obtain ⟨f0, f1, f2, f3, f4⟩ := fin_grid (w := w) hv ho (by omega) (by omega) (Nat.le_refl _) (below_step HB.out HBW.out) (.int .i64 m) (.int .i64 d) (.slice (some ⟨w.heap.size + 1 + 1 + 1, 0, none⟩) (d + 1) (d + 1))
      have F3 := Lib.hid (f3.low (show w.heap.size ≤ w.heap.size + 1 + 1 + 1 by omega))
      have F4 := Lib.hid f4
      have hkd := HLd.out
      subst hkd
      unfold set3 at f0 f1 f2
      clear f3 f4 ho hv HO
      go_wp2
      exact bodyPost_ret (v := .agg #[.int .i64 m, .int .i64 d, .slice (some ⟨w.heap.size + 1 + 1 + 1, 0, none⟩) (d + 1) (d + 1)]) (by simp [results, Tryz.results111, go_sem, f0, f1, f2]) rfl ⟨_, rfl, F3.out, F4.out⟩
end Go.Proofs.YtfhdgcndiljjcaaGreatDoor

