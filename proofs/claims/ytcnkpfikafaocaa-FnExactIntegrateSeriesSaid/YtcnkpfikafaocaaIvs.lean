/- Contracts of InverseOfSeries, of the program and of the model. -/
import Derived.Test.YtcnkpfikafaocaaVrs
import Derived.Test.YtcnkpfikafaocaaUnit
namespace Go.Proofs.Ytcnkpfikafaocaa
open Go.RowKit Go.WideShapes Go.ChangeShapes Go.ChangeAt

theorem remainder_big (m n : Int) (w : World) (h1 : 1 ≤ m) (h2 : m ≤ 10000) (h3 : -1000000000000000000 ≤ n) (h4 : n ≤ 1000000000000000000) :
    Calls Try.prog 120 #[.int .i64 m, .int .i64 n] w fun e w' => e = .returned (.int .i64 (n % m)) ∧ w = w' := by
  by_cases hn : 0 ≤ n
  · have h5 := Int.emod_nonneg n (show m ≠ 0 by omega)
    have h6 := Int.emod_lt_of_pos n (show 0 < m by omega)
    go_enter Try.func120, Try.ntmps120
    go_wp2
    go_ret
    exact ⟨rfl, rfl⟩
  · obtain ⟨r, a1, a2, a3, a4, a5⟩ := rem_neg m n (by omega) (by omega)
    have H4 := Lib.hid a4
    clear a4 a5
    by_cases hr : r = 0
    · subst hr
      go_enter Try.func120, Try.ntmps120
      go_wp2
      go_ret
      exact ⟨ret_int (by rw [H4.out]; simp), rfl⟩
    · have hr' : 0 < r := by omega
      clear hr
      go_enter Try.func120, Try.ntmps120
      go_wp2
      go_ret
      exact ⟨ret_int (by rw [H4.out, if_neg (by omega)]; omega), rfl⟩

/-- the program's list while the inverse is made -/
def ivL (m u : Int) (a : Nat → Int) (d n : Nat) : List Int := Ser.invC m u a n ++ List.replicate (d - n) 0
theorem ivL_len (m u : Int) (a : Nat → Int) (d n : Nat) (h : n ≤ d) : (ivL m u a d n).length = d + 1 := by
  unfold ivL; rw [List.length_append, Ser.invC_length, List.length_replicate]; omega
theorem ivL_red {m u : Int} (hm : 0 < m) (h1 : 0 ≤ u) (h2 : u < m) (a : Nat → Int) (d n : Nat) : Ser.Red m (ivL m u a d n) := by
  intro i
  unfold ivL
  rw [Ser.co_pad]
  exact Ser.invC_red hm h1 h2 a n i
theorem ivL_zero {m u : Int} (h1 : 0 ≤ u) (h2 : u < m) (a : Nat → Int) (d : Nat) : Ser.cut m d (Ser.mon 0 u) = ivL m u a d 0 := by
  refine Ser.list_ext (by rw [Ser.cut_length, ivL_len _ _ _ _ _ (Nat.zero_le _)]) (fun i hi => ?_)
  rw [Ser.cut_length] at hi
  unfold ivL
  rw [Ser.co_pad, Ser.co_cut (by omega)]
  unfold Ser.mon
  cases i with
  | zero => rw [if_pos rfl, Int.emod_eq_of_lt h1 h2]; rfl
  | succ i => rw [if_neg (by omega), Int.zero_emod, Ser.co_over (by simp [Ser.invC])]
theorem ivL_step (m u : Int) (a : Nat → Int) (d n : Nat) (h : n + 1 ≤ d) : (ivL m u a d n).set (n + 1) ((-u * Ser.cv (n + 1) a (Ser.co (ivL m u a d n))) % m) = ivL m u a d (n + 1) := by
  have e : Ser.co (ivL m u a d n) = Ser.co (Ser.invC m u a n) := by unfold ivL; rw [Ser.co_pad]
  rw [e]
  unfold ivL
  rw [List.set_append_right _ _ (by rw [Ser.invC_length]; omega), Ser.invC_length, Nat.sub_self, show d - n = (d - (n + 1)) + 1 by omega, List.replicate_succ, List.set_cons_zero, Ser.invC, List.append_assoc]
  rfl
theorem ivL_all (m u : Int) (a : Nat → Int) (d : Nat) : ivL m u a d d = Ser.invC m u a d := by unfold ivL; rw [Nat.sub_self]; simp

theorem Box.set1 {w : World} {g : Nat} {m : Int} {A : Option Addr} {n c : Nat} (h : Box w g m A n c) (b i : Nat) (x : Value) (hne : b ≠ g) : Box (w.setCell ⟨b, i, none⟩ x) g m A n c := by
  refine ⟨?_, ?_, by simpa [World.setCell] using h.2.2⟩
  · rw [World.cell?_setCell_other _ _ _ _ (by intro e; injection e with e; exact hne e)]; exact h.1
  · rw [World.cell?_setCell_other _ _ _ _ (by intro e; injection e with e; exact hne e)]; exact h.2.1
theorem box22_set {w : World} {g g' b i : Nat} {m m' : Int} {A A' : Option Addr} {n c n' c' : Nat} {x : Value} (hne : b ≠ g) (hne' : b ≠ g')
    (h : (w.cell? ⟨g, 0, none⟩ = some (.int .i64 m) ∧ w.cell? ⟨g, 1, none⟩ = some (.slice A n c) ∧ g < w.heap.size) ∧ (w.cell? ⟨g', 0, none⟩ = some (.int .i64 m') ∧ w.cell? ⟨g', 1, none⟩ = some (.slice A' n' c') ∧ g' < w.heap.size)) :
    ((w.setCell ⟨b, i, none⟩ x).cell? ⟨g, 0, none⟩ = some (.int .i64 m) ∧ (w.setCell ⟨b, i, none⟩ x).cell? ⟨g, 1, none⟩ = some (.slice A n c) ∧ g < (w.setCell ⟨b, i, none⟩ x).heap.size) ∧
    ((w.setCell ⟨b, i, none⟩ x).cell? ⟨g', 0, none⟩ = some (.int .i64 m') ∧ (w.setCell ⟨b, i, none⟩ x).cell? ⟨g', 1, none⟩ = some (.slice A' n' c') ∧ g' < (w.setCell ⟨b, i, none⟩ x).heap.size) := by
  refine ⟨⟨?_, ?_, by simpa [World.setCell] using h.1.2.2⟩, ⟨?_, ?_, by simpa [World.setCell] using h.2.2.2⟩⟩
  · rw [World.cell?_setCell_other _ _ _ _ (by intro e; injection e with e; exact hne e)]; exact h.1.1
  · rw [World.cell?_setCell_other _ _ _ _ (by intro e; injection e with e; exact hne e)]; exact h.1.2.1
  · rw [World.cell?_setCell_other _ _ _ _ (by intro e; injection e with e; exact hne' e)]; exact h.2.1
  · rw [World.cell?_setCell_other _ _ _ _ (by intro e; injection e with e; exact hne' e)]; exact h.2.2.1
set_option maxHeartbeats 8000000 in
set_option maxRecDepth 100000 in
theorem inverse_any (m : Int) (d : Nat) (A : Option Addr) (c : Nat) (l : List Int) (u : Int) (w : World) (hs : SerOk m d l) (hr : RI w A l) (u1 : 0 ≤ u) (u2 : u < m) :
    Calls Try.prog 76 #[.agg #[.int .i64 m, .slice A l.length c], .int .i64 u] w fun e w' => ∃ v, e = .returned (.agg #[.int .i64 m, v]) ∧ OwnI w' w.heap.size v (Ser.invC m u (Ser.co l) d) ∧ Below w.heap.size w w' := by
  obtain ⟨W1, hW, b1, v3, hwb⟩ := spro1 w m A l.length c
  have B1 := Lib.hid b1
  have V1 := Lib.hid v3
  have HB := Lib.hid hwb
  have HW := Lib.hid hW
  have HR0 := Lib.hid hr
  have HSZ : w.heap.size + 1 < W1.heap.size := v3.lt
  have Y1 := B1
  have m1 := hs.m1
  have m2 := hs.m2
  have hd := hs.d2
  have hd1 := hs.d1
  have HDG := Lib.hid (fun W0 => degree_nat m A l.length c d W0 hs.len (by omega))
  have HMO := Lib.hid (fun W0 => monomial_any m d 0 u W0 (by omega) m2 (by omega) (by omega) (by omega))
  have HSO := Lib.hid hs
  obtain ⟨a, ha⟩ : ∃ a, Ser.co l = a := ⟨_, rfl⟩
  have HAE := Lib.hid ha
  obtain ⟨L0, hL0⟩ : ∃ L0, Ser.cut m d (Ser.mon 0 u) = L0 := ⟨_, rfl⟩
  have HL0 := Lib.hid (show L0 = ivL m u a d 0 by rw [← hL0]; exact ivL_zero u1 u2 a d)
  rw [hL0] at HMO
  rw [ha]
  clear b1 v3 hwb hW hr hs hL0 ha
  go_enter Try.func76, Try.ntmps76
  go_wp2
  rw [HW.out]
  go_cut [5] (fun s7 wx => ∃ g A1 c1, s7 = .pointer (some ⟨g, 0, none⟩) ∧ Var2 wx g (.int .i64 m) (.slice A1 L0.length c1) ∧ OwnI wx W1.heap.size (.slice A1 L0.length c1) L0 ∧ Below W1.heap.size W1 wx ∧ W1.heap.size ≤ g)
  case first =>
    go_region_held3 (fun w' => (w'.cell? ⟨w.heap.size, 0, none⟩ = some (.int .i64 m) ∧ w'.cell? ⟨w.heap.size, 1, none⟩ = some (.slice A l.length c)) ∧ True ∧ Below W1.heap.size W1 w') (first | exact one_in Y1.out (below_drew0 _) | exact one_in Y1.out hka | exact one_in Y1.out hbel | exact one_in Y1.out (below_alloc _ (trd (by assumption))) | exact one_in Y1.out (below_alloc _ hbel) | exact one_in Y1.out (reg_fin2 hwg hgc hv hod hbel m).2.2.1) (first
      | (go_at_call 68; refine (HDG.out _).mono ?_; rintro e wa ⟨rfl, hba⟩; obtain ⟨hka, -⟩ := reg_end (by assumption) hba)
      | (go_at_call 79; refine (HMO.out _).mono ?_; rintro e wd ⟨sd, rfl, hod, hbd⟩; obtain ⟨Ad, cd, rfl, -⟩ := hod.form; obtain ⟨hbel, hle⟩ := reg_end (by assumption) hbd; first | (refine use_it (var_keep ((Var2.new W1 _ _).drew.keep hba) hbd) ?_; rintro ⟨hv, hgc⟩; have hwg := var_at (k := W1.heap.size) hv (Nat.le_refl _); have q0 := hv.c0; have q1 := hv.c1; have q2 := hv.fz 0; have q3 := hv.fz 1) | (refine use_it (var_keep (Var2.new _ _ _).drew hbd) ?_; rintro ⟨hv, hgc⟩; have hwg := var_at (k := W1.heap.size) hv (Nat.le_refl _); have q0 := hv.c0; have q1 := hv.c1; have q2 := hv.fz 0; have q3 := hv.fz 1) | (refine use_it (var_keep (Var2.new _ _ _) hbd) ?_; rintro ⟨hv, hgc⟩; have hwg := var_at (k := W1.heap.size) hv hka.size; have q0 := hv.c0; have q1 := hv.c1; have q2 := hv.fz 0; have q3 := hv.fz 1) | skip))
    all_goals
      go_wp2_with fail
      go_meet
      case rel => first | exact ⟨_, _, _, rfl, reg_new2 hle hod hbel m⟩ | exact ⟨_, _, _, rfl, reg_fin2 hwg hgc hv hod hbel m⟩
  case rest =>
    obtain ⟨w2, hwc⟩ : ∃ w9, w9 = wc := ⟨_, rfl⟩
    subst hwc
    obtain ⟨g7, A7, c7, rfl, v7, o7, hb7, hg7⟩ := hcut
    rw [HL0.out] at v7 o7
    have hll := ivL_len m u a d 0 (Nat.zero_le _)
    rw [hll] at v7 o7
    obtain ⟨gl, cl, hvl⟩ := o7.openv (by intro h; rw [h] at hll; simp at hll)
    rw [hll] at hvl
    have O7 := Lib.hid o7
    have V7 := Lib.hid v7
    have V2 := Lib.hid (V1.out.keep hb7)
    have Y2 := Lib.hid (Y1.out.keep hb7)
    have B7 := Lib.hid (below_step HB.out hb7)
    have G7 := Lib.hid hg7
    have SZ := hb7.size
    injection hvl with e1 e2 e3
    subst e1 e3
    have hgl := (o7.lt gl rfl).1
    clear v7 o7 hb7 Y1 HMO HB B1 V1 hll e2
    go_wp2
    go_loopw [6] (fun s6 wr => ∃ n k : Nat, n = k + 1 ∧ k ≤ d ∧ s6 = .int .i64 (n : Int) ∧ OwnI wr W1.heap.size (.slice (some ⟨gl, 0, none⟩) (d + 1) c7) (ivL m u a d k) ∧ Var2 wr g7 (.int .i64 m) (.slice (some ⟨gl, 0, none⟩) (d + 1) c7) ∧ Var2 wr (w.heap.size + 1) (.int .i64 0) (.slice none 0 0) ∧ Box wr w.heap.size m A l.length c ∧ Below w.heap.size w wr) (fun s6 _ => d + 2 - (intOf s6).toNat)
    case atStart => exact ⟨1, 0, rfl, Nat.zero_le _, rfl, O7.out, V7.out, V2.out, Y2.out, B7.out⟩
    case round =>
      obtain ⟨n, k, hkn, hk, rfl, own, v7, v2, y2, hbl⟩ := hrel
      have OW := Lib.hid own
      have V8 := Lib.hid v7
      have V9 := Lib.hid v2
      have Y9 := Lib.hid y2
      have HB := Lib.hid hbl
      obtain ⟨x1, x2, -⟩ := y2
      have hlk := ivL_len m u a d k hk
      clear own v7 v2 hbl O7 V7 V2 Y2 B7
      by_cases hlt : n ≤ d
      · have hlt2 : (n : Int) ≤ (d : Int) := by omega
        have sk : SerOk m d (ivL m u a d k) := ⟨m1, m2, hd1, hd, hlk, ivL_red (by omega) u1 u2 a d k⟩
        go_wp2_with fail
        refine (HDG.out _).mono ?_
        rintro e w3 ⟨rfl, hb3⟩
        have Y4 := Lib.hid (Y9.out.keep hb3)
        have V4 := Lib.hid (V8.out.keep hb3)
        have OW4 := Lib.hid (OW.out.keep hb3)
        have V5 := Lib.hid (V9.out.keep hb3)
        have HB4 := Lib.hid (below_step HB.out hb3)
        have R4 := Lib.hid (HR0.out.below HB4.out)
        clear x1 x2 hb3
        obtain ⟨x1, x2, x3⟩ := Y4.out
        obtain ⟨y1, y2, y3⟩ := (⟨V4.out.c0, V4.out.c1, V4.out.lt⟩ : _ ∧ _ ∧ _)
        obtain ⟨P, hP⟩ : ∃ P, Ser.cv n a (Ser.co (ivL m u a d k)) = P := ⟨_, rfl⟩
        have hbd := cv_bd m2 HSO.out.red sk.red n (by omega)
        rw [HAE.out, hP] at hbd
        obtain ⟨U, hU⟩ : ∃ U, -u = U := ⟨_, rfl⟩
        have hst := ivL_step m u a d k (by omega)
        rw [← hkn, hP, hU] at hst
        have HST := Lib.hid hst
        have HP := Lib.hid (fun W0 (h : Below w3.heap.size w3 W0) => by
          have := productAt_any m d n A c l m (some ⟨gl, 0, none⟩) c7 (ivL m u a d k) W0 HSO.out sk (R4.out.below h) ((OW4.out.ri).below h) hlt
          rw [HAE.out, hP, hlk] at this
          exact this)
        have p1 : -1100000000000000 ≤ U * P ∧ U * P ≤ 0 := by
          rw [← hU, Int.neg_mul]
          have z1 := Int.mul_nonneg u1 hbd.1
          have z2 := Int.mul_le_mul (show u ≤ 10000 by omega) hbd.2 hbd.1 (by omega)
          omega
        have hub : -10000 ≤ U ∧ U ≤ 0 := by omega
        have j1 : (0 : Int) ≤ (n : Int) := by omega
        have j2 : (n : Int) < (d : Int) + 1 := by omega
        clear hst hbd hP sk hkn
        obtain ⟨hub1, hub2⟩ := hub
        have w1 : IntKind.i64.wrap U = U := by rw [IntKind.wrap_i64]; omega
        have w2 : IntKind.i64.wrap (U * P) = U * P := by rw [IntKind.wrap_i64]; omega
        go_wp2
        go_region_held3 (fun w' => (w'.cell? ⟨w.heap.size, 0, none⟩ = some (.int .i64 m) ∧ w'.cell? ⟨w.heap.size, 1, none⟩ = some (.slice A l.length c) ∧ w.heap.size < w'.heap.size) ∧ (w'.cell? ⟨g7, 0, none⟩ = some (.int .i64 m) ∧ w'.cell? ⟨g7, 1, none⟩ = some (.slice (some ⟨gl, 0, none⟩) (d + 1) c7) ∧ g7 < w'.heap.size)) (first | exact ⟨⟨x1, x2, x3⟩, ⟨y1, y2, y3⟩⟩ | exact box22_call (by assumption) (by assumption) | exact (by assumption) | exact box22_set ne1 ne2 (by assumption)) (first
          | (go_at_call 116; refine (HP.out _ (below_drew0 _)).mono ?_; rintro e w4 ⟨rfl, hb4⟩; have ow5 := OW4.out.keep (below_step (below_drew0 _) hb4); obtain ⟨-, -, o3, o4⟩ := ow5.cells; have ne1 : gl ≠ w.heap.size := (by omega); have ne2 : gl ≠ g7 := fun e => own_ne_var (V4.out.keep (below_step (below_drew0 _) hb4)) ow5 (by rw [e]; rfl); have hd1 := o3 n (by omega); have hf1 := o4 n)
          | (go_at_call 120; refine (remainder_big _ _ _ (by omega) m2 (by omega) (by omega)).mono ?_; rintro e w5 ⟨rfl, rfl⟩))
        all_goals
          have ow6 := ow5.set n (U * P % m)
          rw [HST.out] at ow6
          have v6 := (V4.out.keep (below_step (below_drew0 _) hb4)).far gl n (.int .i64 (U * P % m)) ne2
          have v7 := (V5.out.keep (below_step (below_drew0 _) hb4)).far gl n (.int .i64 (U * P % m)) (by omega)
          have b7 := (below_step HB4.out (below_step (below_drew0 _) hb4)).setCell (p := ⟨gl, n, none⟩) (by show w.heap.size ≤ gl; omega) (.int .i64 (U * P % m))
          have Z1 := Lib.hid ow6
          have Z2 := Lib.hid v6
          have Z3 := Lib.hid v7
          have Z4 := Lib.hid b7
          have Z5 := Lib.hid ((Y4.out.keep (below_step (below_drew0 _) hb4)).set1 gl n (.int .i64 (U * P % m)) ne1)
          clear ow6 v6 v7 b7 ow5 o3 o4 hb4 hd1 hf1
          go_wp2
          go_roundw
          case rel => exact ⟨n + 1, n, rfl, hlt, by first | rfl | go_num, Z1.out, Z2.out, Z3.out, Z5.out, Z4.out⟩
          case measure => simp only [intOf]; omega
      · have hlt2 : ¬ (n : Int) ≤ (d : Int) := by omega
        obtain rfl : k = d := by omega
        have ow := OW.out
        rw [ivL_all] at ow
        have OWF := Lib.hid ow
        clear ow hlt
        go_wp2_with fail
        refine (HDG.out _).mono ?_
        rintro e w3 ⟨rfl, hb3⟩
        have v5 := V9.out.keep hb3
        have v4 := V8.out.keep hb3
        have z1 := v4.c0
        have z2 := v4.c1
        have z3 := v5.c0
        have z4 := v5.c1
        have z5 := v5.fz 0
        have z6 := v5.fz 1
        have f2 := (v5.set2 (.int .i64 m) (.slice (some ⟨gl, 0, none⟩) (k + 1) c7))
        have F1 := f2.c0
        have F2 := f2.c1
        have F3 := Lib.hid (((OWF.out.keep hb3).set2 v5 (.int .i64 m) (.slice (some ⟨gl, 0, none⟩) (k + 1) c7)).more (show w.heap.size ≤ W1.heap.size by omega))
        have F4 := Lib.hid (below_set2 (below_step HB.out hb3) (by omega : w.heap.size ≤ w.heap.size + 1) (.int .i64 m) (.slice (some ⟨gl, 0, none⟩) (k + 1) c7))
        unfold set2 at F1 F2 F3 F4
        clear f2 v4 v5 hb3
        go_wp2
        exact bodyPost_ret (v := .agg #[.int .i64 m, .slice (some ⟨gl, 0, none⟩) (k + 1) c7]) (by simp [results, Try.results76, go_sem, F1, F2]) rfl ⟨_, rfl, F3.out, F4.out⟩

/-! a box and one number of its list, across a call -/
theorem bc_call {w w' : World} {g : Nat} {m : Int} {A : Option Addr} {n c b o : Nat} {x : Value} (hb : Below w.heap.size w w')
    (h : (w.cell? ⟨g, 0, none⟩ = some (.int .i64 m) ∧ w.cell? ⟨g, 1, none⟩ = some (.slice A n c) ∧ g < w.heap.size) ∧ (w.cell? ⟨b, o, none⟩ = some x ∧ b < w.heap.size)) :
    (w'.cell? ⟨g, 0, none⟩ = some (.int .i64 m) ∧ w'.cell? ⟨g, 1, none⟩ = some (.slice A n c) ∧ g < w'.heap.size) ∧ (w'.cell? ⟨b, o, none⟩ = some x ∧ b < w'.heap.size) :=
  ⟨box_call hb h.1, (hb.cell (p := ⟨b, o, none⟩) h.2.2).trans h.2.1, Nat.lt_of_lt_of_le h.2.2 hb.size⟩

def ivsM (m : Int) (l : List Int) : Int × List Int × Int :=
  if isS m l = true then (if gcdI (Ser.co l 0) m = 1 then (m, Ser.invC m (egI m (Ser.co l 0)).2 (Ser.co l) (l.length - 1), 0) else (0, [], 5)) else (0, [], 1)
theorem ivsM_len (m : Int) (l : List Int) : (ivsM m l).2.1.length ≤ 1048576 := by
  unfold ivsM
  split
  · rename_i h
    obtain ⟨d, e, s⟩ := serOk_of h
    have := s.d2
    split
    · dsimp only; rw [Ser.invC_length]; omega
    · simp
  · simp
theorem invM_unit {m a : Int} (h1 : 2 ≤ m) (h2 : m ≤ 10000) (h3 : 0 ≤ a) (h4 : a < m) (h : gcdI a m = 1) : invM m a = ((egI m a).2, 0) := by
  unfold invM; rw [if_pos ((codeU_zero m a).2 ⟨(codeN_one m a).2 ⟨h1, h2, h3, h4⟩, h⟩)]
theorem invM_not {m a : Int} (h1 : 2 ≤ m) (h2 : m ≤ 10000) (h3 : 0 ≤ a) (h4 : a < m) (h : ¬ gcdI a m = 1) : invM m a = (0, 5) := by
  have hc := (codeN_one m a).2 ⟨h1, h2, h3, h4⟩
  unfold invM
  rw [if_neg (fun e => h ((codeU_zero m a).1 e).2), codeU, if_pos hc, if_neg h]

set_option maxHeartbeats 8000000 in
set_option maxRecDepth 100000 in
theorem InverseOfSeries_any (m : Int) (A : Option Addr) (c : Nat) (l : List Int) (w : World) (hl : l.length ≤ 1048576) (hr : RI w A l) :
    Calls Try.prog 27 #[.agg #[.int .i64 m, .slice A l.length c]] w fun e w' => ∃ s, e = .returned (.tuple #[.agg #[.int .i64 (ivsM m l).1, s], .int .i64 (ivsM m l).2.2]) ∧ OwnI w' w.heap.size s (ivsM m l).2.1 ∧ Below w.heap.size w w' := by
  obtain ⟨W, hW, b1, v3, b4, hwb⟩ := pro1 w m A l.length c
  have B1 := Lib.hid b1
  have V3 := Lib.hid v3
  have HB := Lib.hid hwb
  have HW := Lib.hid hW
  have R1 := Lib.hid (hr.below hwb)
  have HC := Lib.hid (codeOfSeries1_any (w.heap.size + 1 + 1) m A c l W (by omega) R1.out b4)
  clear b1 v3 b4 hwb hW hr
  by_cases h0 : isS m l = true
  · obtain ⟨d, e1, s1⟩ := serOk_of h0
    have hc := HC.out
    rw [code1_isS h0] at hc
    have HC0 := Lib.hid hc
    have m1 := s1.m1
    have m2 := s1.m2
    obtain ⟨b, off, rfl, hb, hcl⟩ := R1.out.at 0 (by omega)
    have hcl0 : W.cell? ⟨b, off, none⟩ = some (.int .i64 (Ser.co l 0)) := hcl
    obtain ⟨X, hX⟩ : ∃ X, Ser.co l 0 = X := ⟨_, rfl⟩
    obtain ⟨r1, r2⟩ := s1.red 0
    rw [hX] at hcl0 r1 r2
    have z0 : (0 : Int) < (l.length : Int) := by omega
    have z1 : 0 < l.length := by omega
    clear hc HC hcl
    by_cases hg : gcdI X m = 1
    · have HA : Hid (ivsM m l = (m, Ser.invC m (egI m X).2 (Ser.co l) d, 0)) := Lib.hid (by unfold ivsM; rw [if_pos h0, hX, if_pos hg, e1]; rfl)
      rw [HA.out]
      obtain ⟨-, -, u1, u2⟩ := eg_fact m X r1 r2
      have hiv := invM_unit m1 m2 r1 r2 hg
      obtain ⟨u, hu⟩ : ∃ u, (egI m X).2 = u := ⟨_, rfl⟩
      rw [hu] at hiv u1 u2 ⊢
      have HI := Lib.hid (fun W0 => by have := InverseModulo_any m X W0; rw [hiv] at this; exact this)
      have HS := Lib.hid (fun W0 (h0 : Below W.heap.size W W0) => inverse_any m d (some ⟨b, off, none⟩) c l u W0 s1 (R1.out.below h0) u1 u2)
      obtain ⟨L, hL⟩ : ∃ L, Ser.invC m u (Ser.co l) d = L := ⟨_, rfl⟩
      rw [hL] at HS ⊢
      clear e1 s1 hL h0 hu hiv hX hg
      go_enter Try.func27, Try.ntmps27
      go_wp2_with fail
      rw [HW.out]
      refine HC0.out.mono ?_
      rintro e w1 ⟨rfl, hb1⟩
      obtain ⟨x1, x2, x3⟩ := B1.out.keep hb1
      have x4 := (hb1.cell (p := ⟨b, off, none⟩) hb).trans hcl0
      have x5 := Nat.lt_of_lt_of_le hb hb1.size
      go_wp2
      go_region_held3 (fun w' => (w'.cell? ⟨w.heap.size, 0, none⟩ = some (.int .i64 m) ∧ w'.cell? ⟨w.heap.size, 1, none⟩ = some (.slice (some ⟨b, off, none⟩) l.length c) ∧ w.heap.size < w'.heap.size) ∧ (w'.cell? ⟨b, off, none⟩ = some (.int .i64 X) ∧ b < w'.heap.size)) (first | exact ⟨⟨x1, x2, x3⟩, x4, x5⟩ | exact bc_call hb2 (by assumption) | exact (by assumption)) (first
        | (go_at_call 75; refine (HI.out _).mono ?_; rintro e w2 ⟨rfl, hb2⟩))
      all_goals
        have hb3 := below_step hb1 (below_step (below_drew0 _) hb2)
        clear x1 x2 x3 x4 x5
        obtain ⟨x1, x2⟩ := box_in B1.out hb3
        go_wp2_with fail
        refine (HS.out _ hb3).mono ?_
        rintro e w4 ⟨s, rfl, ho, hb4⟩
        obtain ⟨A2, c2, rfl, _⟩ := ho.form
        have hv := V3.out.keep (below_step hb3 hb4)
        have q0 := hv.c0
        have q1 := hv.c1
        have q2 := hv.fz 0
        have q3 := hv.fz 1
        obtain ⟨f0, f1, f2, f3⟩ := fin_var (w := w) hv ho (by have := V3.out.lt; have := (hb3).size; omega) (by omega) (below_step HB.out (below_step hb3 hb4)) (.int .i64 m) (.slice A2 L.length c2)
        have F2 := Lib.hid f2
        have F3 := Lib.hid f3
        clear f2 f3 hv
        go_wp2
        exact bodyPost_ret (v := .tuple #[.agg #[.int .i64 m, .slice A2 L.length c2], .int .i64 0]) (by simp [results, Try.results27, go_sem, f0, f1]) rfl ⟨_, rfl, F2.out, F3.out⟩
    · have HA : Hid (ivsM m l = (0, [], 5)) := Lib.hid (by unfold ivsM; rw [if_pos h0, hX, if_neg hg])
      rw [HA.out]
      have hiv := invM_not m1 m2 r1 r2 hg
      have HI := Lib.hid (fun W0 => by have := InverseModulo_any m X W0; rw [hiv] at this; exact this)
      clear e1 s1 h0 hiv hX hg
      go_enter Try.func27, Try.ntmps27
      go_wp2_with fail
      rw [HW.out]
      refine HC0.out.mono ?_
      rintro e w1 ⟨rfl, hb1⟩
      obtain ⟨x1, x2, x3⟩ := B1.out.keep hb1
      have x4 := (hb1.cell (p := ⟨b, off, none⟩) hb).trans hcl0
      have x5 := Nat.lt_of_lt_of_le hb hb1.size
      go_wp2
      go_region_held3 (fun w' => (w'.cell? ⟨w.heap.size, 0, none⟩ = some (.int .i64 m) ∧ w'.cell? ⟨w.heap.size, 1, none⟩ = some (.slice (some ⟨b, off, none⟩) l.length c) ∧ w.heap.size < w'.heap.size) ∧ (w'.cell? ⟨b, off, none⟩ = some (.int .i64 X) ∧ b < w'.heap.size)) (first | exact ⟨⟨x1, x2, x3⟩, x4, x5⟩ | exact bc_call hb2 (by assumption) | exact (by assumption)) (first
        | (go_at_call 75; refine (HI.out _).mono ?_; rintro e w2 ⟨rfl, hb2⟩))
      all_goals
        have hb3 := below_step hb1 (below_step (below_drew0 _) hb2)
        clear x1 x2 x3 x4 x5
        have hv := V3.out.keep hb3
        have q0 := hv.c0
        have q1 := hv.c1
        have q2 := hv.fz 0
        have q3 := hv.fz 1
        obtain ⟨f0, f1, f2, f3⟩ := fin_var (w := w) hv (OwnI.nil _ (w.heap.size + 1 + 1 + 1)) (by omega) (by omega) (below_step HB.out hb3) (.int .i64 0) (.slice none 0 0)
        have F2 := Lib.hid f2
        have F3 := Lib.hid f3
        clear f2 f3 hv
        go_wp2
        exact bodyPost_ret (v := .tuple #[.agg #[.int .i64 0, .slice none 0 0], .int .i64 5]) (by simp [results, Try.results27, go_sem, f0, f1]) rfl ⟨_, rfl, F2.out, F3.out⟩
  · have h0' : isS m l = false := by simpa using h0
    have HA : Hid (ivsM m l = (0, [], 1)) := Lib.hid (by unfold ivsM; rw [if_neg h0])
    rw [HA.out]
    have hc := HC.out
    rw [code1_no h0'] at hc
    have HC0 := Lib.hid hc
    clear hc HC h0
    go_enter Try.func27, Try.ntmps27
    go_wp2_with fail
    rw [HW.out]
    refine HC0.out.mono ?_
    rintro e w1 ⟨rfl, hb1⟩
    have hv := V3.out.keep hb1
    have q0 := hv.c0
    have q1 := hv.c1
    have q2 := hv.fz 0
    have q3 := hv.fz 1
    obtain ⟨f0, f1, f2, f3⟩ := fin_var (w := w) hv (OwnI.nil _ (w.heap.size + 1 + 1 + 1)) (by omega) (by omega) (below_step HB.out hb1) (.int .i64 0) (.slice none 0 0)
    have F2 := Lib.hid f2
    have F3 := Lib.hid f3
    clear f2 f3 hv
    go_wp2
    exact bodyPost_ret (v := .tuple #[.agg #[.int .i64 0, .slice none 0 0], .int .i64 1]) (by simp [results, Try.results27, go_sem, f0, f1]) rfl ⟨_, rfl, F2.out, F3.out⟩
end Go.Proofs.Ytcnkpfikafaocaa
