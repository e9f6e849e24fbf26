/- Texts of contracts, joined. -/
import Derived.Test.YtfhdgcndiljjcabGreatMgab
import Derived.StillTailTactics
import Derived.Test.YtfhdgcndiljjcabGreatMgaa
/- Contract of the model's product of lists. -/
namespace Go.Proofs.YtfhdgcndiljjcabGreat
open Go.RowKit Go.WideShapes Go.ChangeShapes Go.ChangeAt
end Go.Proofs.YtfhdgcndiljjcabGreat

/- Contracts of AddSeries, of the program. -/
namespace Go.Proofs.YtfhdgcndiljjcabGreat
open Go.RowKit Go.WideShapes Go.ChangeShapes Go.ChangeAt
def addL (m : Int) (d : Nat) (l l' : List Int) : List Int := Ser.cut m d fun n => Ser.co l n + Ser.co l' n
end Go.Proofs.YtfhdgcndiljjcabGreat

/- Contracts of the model's functions that look at series and make them. -/
namespace Go.Proofs.YtfhdgcndiljjcabGreat
open Go.RowKit Go.WideShapes Go.ChangeShapes Go.ChangeAt
end Go.Proofs.YtfhdgcndiljjcabGreat

/- Contracts of MultiplySeries, of the program and of the model. -/
namespace Go.Proofs.YtfhdgcndiljjcabGreat
open Go.RowKit Go.WideShapes Go.ChangeShapes Go.ChangeAt
theorem psum_bd (f : Nat → Int) (B : Int) (hf : ∀ i, 0 ≤ f i ∧ f i ≤ B) : ∀ n : Nat, 0 ≤ Ser.psum f n ∧ Ser.psum f n ≤ n * B := by
  intro n
  induction n with
  | zero => simp [Ser.psum]
  | succ n ih =>
    have := hf n
    have e : ((n + 1 : Nat) : Int) * B = n * B + B := by rw [show ((n + 1 : Nat) : Int) = (n : Int) + 1 by omega, Int.add_mul, Int.one_mul]
    rw [Ser.psum, e]
    omega
end Go.Proofs.YtfhdgcndiljjcabGreat

/- Series with great moduli, up to 10^8: written by wip/tools/mk_bgs.py. -/
namespace Go.Proofs.YtfhdgcndiljjcabGreat
open Go Go.RowKit Go.WideShapes Go.ChangeShapes Go.ChangeAt
structure SerOkG (m : Int) (d : Nat) (l : List Int) : Prop where
  m1 : 2 ≤ m
  m2 : m ≤ 100000000
  d1 : 1 ≤ d
  d2 : d ≤ 10
  len : l.length = d + 1
  red : Ser.Red m l
theorem SerOkG.cut {m : Int} {d : Nat} {l : List Int} (h : SerOkG m d l) (f : Nat → Int) : SerOkG m d (Ser.cut m d f) :=
  ⟨h.m1, h.m2, h.d1, h.d2, Ser.cut_length _ _ _, Ser.cut_red (by have := h.m1; omega) _ _⟩
theorem SerOkG.of {m : Int} {d : Nat} (m1 : 2 ≤ m) (m2 : m ≤ 100000000) (d1 : 1 ≤ d) (d2 : d ≤ 10) (f : Nat → Int) : SerOkG m d (Ser.cut m d f) :=
  ⟨m1, m2, d1, d2, Ser.cut_length _ _ _, Ser.cut_red (by omega) _ _⟩
set_option maxHeartbeats 2000000 in
set_option maxRecDepth 100000 in
theorem seriesOf_anyG (m : Int) (d fn : Nat) (cap : Array Value) (f : Nat → Int) (w : World) (h1 : 1 ≤ m) (h2 : m ≤ 100000000) (hd : d ≤ 1000) (hlo : ∀ n, n ≤ d → -4000000000000000000 ≤ f n ∧ f n ≤ 4000000000000000000)
    (hen : ∀ (args : Array Value) (W : World), (callFunc fn args).run Tryz.prog W = .ok (.enter fn args) W)
    (hf : ∀ (n : Nat) (W : World), n ≤ d → Below w.heap.size w W → Calls Tryz.prog fn (#[.int .i64 n] ++ cap) W fun e w' => e = .returned (.int .i64 (f n)) ∧ Below W.heap.size W w') :
    Calls Tryz.prog 108 #[.int .i64 m, .int .i64 d, .func (.func fn) #[] cap] w fun e w' => ∃ v, e = .returned (.agg #[.int .i64 m, v]) ∧ OwnI w' w.heap.size v (Ser.cut m d f) ∧ Below w.heap.size w w' := by
  have HF := Lib.hid hf
  have HL := Lib.hid hlo
  clear hf hlo
  have hmk : ∀ W : World, (Instr.makeSlice 26 (.int .i64 ((d : Int) + 1)) (.int .i64 ((d : Int) + 1))).run Tryz.prog W = .ok (.slice (some ⟨W.heap.size, 0, none⟩) (d + 1) (d + 1)) (W.alloc (.cells (madeCells #[.int .i64 0] (d + 1)) 2)) := by
    intro W
    have := run_make_row' (P := Tryz.prog) 26 2 (.int .i64 0) 8 Tryz.underlying26 info64 rfl .i64 .i64 (d + 1) (by omega) (by omega) W
    rwa [show ((d + 1 : Nat) : Int) = (d : Int) + 1 by omega] at this
  go_enter Tryz.func108, Tryz.ntmps108
  go_wp2
  go_loopw [14] (fun i wr => ∃ k : Nat, k ≤ d + 1 ∧ i = .int .i64 k ∧ OwnI wr (w.heap.size + 1) (.slice (some ⟨w.heap.size + 1, 0, none⟩) (d + 1) (d + 1)) ((Ser.cut m d f).take k ++ List.replicate (d + 1 - k) 0) ∧ Var2 wr w.heap.size (.int .i64 0) (.slice none 0 0) ∧ Below w.heap.size w wr) (fun i _ => d + 1 - (intOf i).toNat)
  case atStart =>
    refine ⟨0, Nat.zero_le _, rfl, ?_, (Var2.new w _ _).keep (below_one _ _), below_alloc _ (below_one _ _)⟩
    have h := OwnI.made (w.alloc (.cells #[.int .i64 0, .slice none 0 0] 39)) (d + 1) (by unfold maxLen; omega)
    simpa using h
  case round =>
    clear hmk
    obtain ⟨k, hk, rfl, hown, hvar, hbel⟩ := hrel
    have HV := Lib.hid hvar
    have HB := Lib.hid hbel
    have HO := Lib.hid hown
    clear hown hbel hvar
    by_cases hlt : k < d + 1
    · obtain ⟨q1, q2⟩ := HL.out k (by omega)
      obtain ⟨F, hF⟩ : ∃ F, f k = F := ⟨_, rfl⟩
      have HC := HF.out k wr (by omega) HB.out
      rw [hF] at q1 q2 HC
      have HC' := Lib.hid HC
      have HFk := Lib.hid hF
      clear HC hF
      have hkd : (k : Int) < (d : Int) + 1 := by omega
      go_wp2_with fail
      refine HC'.out.mono ?_
      rintro e w1 ⟨rfl, hb1⟩
      have HO1 := Lib.hid (HO.out.keep hb1)
      have HV1 := Lib.hid (HV.out.keep hb1)
      obtain ⟨_, _, o3, o4⟩ := HO1.out.cells
      have hd1 := o3 k (by simp [Ser.cut_length]; omega)
      have hf1 := o4 k
      obtain ⟨y, hy⟩ : ∃ y, ((Ser.cut m d f).take k ++ List.replicate (d + 1 - k) 0)[k]?.getD 0 = y := ⟨_, rfl⟩
      rw [hy] at hd1
      have hs := HO1.out.set k (f k % m)
      rw [cut_step m d f k (by omega), HFk.out] at hs
      have HS := Lib.hid hs
      have HB1 := Lib.hid (HB.out.trans (hb1.mono HB.out.size))
      clear hy o3 o4 hs hb1
      go_wp2_with (first | (go_at_call 142; refine (remB_any _ _ _ h1 h2 q1 q2).mono ?_; rintro e w' ⟨rfl, rfl⟩))
      go_roundw
      case rel => exact ⟨k + 1, by omega, by go_num, HS.out, HV1.out.far _ _ _ (by omega), HB1.out.setCell (by show w.heap.size ≤ w.heap.size + 1; omega) _⟩
      case measure => simp only [intOf]; omega
    · obtain rfl : k = d + 1 := by omega
      have ho := HO.out
      rw [Ser.cut_take_all, Nat.sub_self, List.replicate_zero, List.append_nil] at ho
      have HFin := Lib.hid ho
      clear ho
      have v0 := HV.out.c0
      have v1 := HV.out.c1
      have v2 := HV.out.fz 0
      have v3 := HV.out.fz 1
      obtain ⟨v4, v5⟩ : (set2 wr w.heap.size (.int .i64 m) (.slice (some ⟨w.heap.size + 1, 0, none⟩) (d + 1) (d + 1))).cell? ⟨w.heap.size, 0, none⟩ = some (.int .i64 m) ∧
        (set2 wr w.heap.size (.int .i64 m) (.slice (some ⟨w.heap.size + 1, 0, none⟩) (d + 1) (d + 1))).cell? ⟨w.heap.size, 1, none⟩ = some (.slice (some ⟨w.heap.size + 1, 0, none⟩) (d + 1) (d + 1)) := ⟨(HV.out.set2 _ _).c0, (HV.out.set2 _ _).c1⟩
      unfold set2 at v4 v5
      go_wp2
      refine bodyPost_ret (v := .agg #[.int .i64 m, .slice (some ⟨w.heap.size + 1, 0, none⟩) (d + 1) (d + 1)]) (by simp [results, Tryz.results108, go_sem, v4, v5]) rfl ⟨_, rfl, ?_, below_set2 HB.out (Nat.le_refl _) _ _⟩
      exact (HFin.out.other (grown_set2 wr w.heap.size _ _) (.inr (by simp [Value.ownBlock]))).more (by omega)
set_option maxHeartbeats 1000000 in
theorem plusC_anyG (n : Nat) (g g' : Nat) (m : Int) (A : Option Addr) (c : Nat) (l : List Int) (m' : Int) (A' : Option Addr) (c' : Nat) (l' : List Int) (W : World)
    (hb : Box W g m A l.length c) (hb' : Box W g' m' A' l'.length c') (hr : RI W A l) (hr' : RI W A' l') (h1 : n < l.length) (h2 : n < l'.length)
    (h3 : 0 ≤ Ser.co l n) (h4 : Ser.co l n ≤ 100000000) (h5 : 0 ≤ Ser.co l' n) (h6 : Ser.co l' n ≤ 100000000) :
    Calls Tryz.prog 109 #[.int .i64 n, .pointer (some ⟨g, 0, none⟩), .pointer (some ⟨g', 0, none⟩)] W fun e w' => e = .returned (.int .i64 (Ser.co l n + Ser.co l' n)) ∧ Below W.heap.size W w' := by
  obtain ⟨b, off, rfl, hlt, hc⟩ := hr.at n h1
  obtain ⟨b', off', rfl, hlt', hc'⟩ := hr'.at n h2
  obtain ⟨x1, x2, _⟩ := hb
  obtain ⟨y1, y2, _⟩ := hb'
  obtain ⟨X, hX⟩ : ∃ X, Ser.co l n = X := ⟨_, rfl⟩
  obtain ⟨Y, hY⟩ : ∃ Y, Ser.co l' n = Y := ⟨_, rfl⟩
  rw [hX] at hc h3 h4 ⊢
  rw [hY] at hc' h5 h6 ⊢
  have j1 : (0 : Int) ≤ (n : Int) := by omega
  have j2 : (n : Int) < (l.length : Int) := by omega
  have j3 : (n : Int) < (l'.length : Int) := by omega
  clear hr hr' hX hY
  go_enter Tryz.func109, Tryz.ntmps109
  go_wp2
  go_quiet (fail)
  go_wp2
  go_ret
  exact ⟨rfl, below_drewN (Below.refl _ _) _⟩
set_option maxHeartbeats 2000000 in
set_option maxRecDepth 100000 in
theorem plus_anyG (m : Int) (d : Nat) (A : Option Addr) (c : Nat) (l : List Int) (m' : Int) (A' : Option Addr) (c' : Nat) (l' : List Int) (w : World) (hs : SerOkG m d l) (hs' : SerOkG m d l') (hr : RI w A l) (hr' : RI w A' l') :
    Calls Tryz.prog 71 #[.agg #[.int .i64 m, .slice A l.length c], .agg #[.int .i64 m', .slice A' l'.length c']] w fun e w' => ∃ v, e = .returned (.agg #[.int .i64 m, v]) ∧ OwnI w' w.heap.size v (Ser.cut m d fun n => Ser.co l n + Ser.co l' n) ∧ Below w.heap.size w w' := by
  obtain ⟨W, hW⟩ : ∃ W, (((w.alloc (.cells #[.int .i64 m, .slice A l.length c] 39)).alloc (.cells #[.int .i64 m', .slice A' l'.length c'] 39)).alloc (.cells #[.int .i64 0, .slice none 0 0] 39)) = W := ⟨_, rfl⟩
  obtain ⟨b1, b2, v3, hwb⟩ := box3_new w m m' A A' l.length c l'.length c' W hW
  have B1 := Lib.hid b1
  have B2 := Lib.hid b2
  have V3 := Lib.hid v3
  have HB := Lib.hid hwb
  have HW := Lib.hid hW
  have R1 := Lib.hid (hr.below hwb)
  have R2 := Lib.hid (hr'.below hwb)
  have HS := Lib.hid (fun W0 (h0 : Below W.heap.size W W0) => seriesOf_anyG m d 109 #[.pointer (some ⟨w.heap.size, 0, none⟩), .pointer (some ⟨w.heap.size + 1, 0, none⟩)] (fun n => Ser.co l n + Ser.co l' n) W0 (by have := hs.m1; omega) hs.m2 (by have := hs.d2; omega)
    (fun n _ => by have h1 := hs.red n; have h2 := hs'.red n; have h3 := hs.m2; omega)
    (enters_fn Tryz.func109 (of_decide_eq_true (by kernel_rfl)) rfl)
    (fun n W1 hn hb => by
      have h1 := hs.red n
      have h2 := hs'.red n
      have h3 := hs.m2
      have hb2 := h0.trans (hb.mono h0.size)
      exact plusC_anyG n _ _ m A c l m' A' c' l' W1 (B1.out.keep hb2) (B2.out.keep hb2) (R1.out.below hb2) (R2.out.below hb2) (by rw [hs.len]; omega) (by rw [hs'.len]; omega) (by omega) (by omega) (by omega) (by omega)))
  have HL := Lib.hid hs.len
  have HD := Lib.hid hs.d2
  clear b1 b2 v3 hwb hW hr hr' hs hs'
  go_enter Tryz.func71, Tryz.ntmps71
  go_wp2
  rw [HW.out]
  obtain ⟨x1, x2, x3⟩ := B1.out
  go_region_held3 (fun w' => w'.cell? ⟨w.heap.size, 0, none⟩ = some (.int .i64 m) ∧ w'.cell? ⟨w.heap.size, 1, none⟩ = some (.slice A l.length c) ∧ w.heap.size < w'.heap.size) (first | exact ⟨x1, x2, x3⟩ | exact box_store (by omega) (by assumption) | exact box_call (by assumption) (by assumption)) (first
    | (go_at_call 76; refine (degree_nat _ _ _ _ d _ HL.out (by have := HD.out; omega)).mono ?_; rintro e1 w1 ⟨rfl, hb1⟩)
    | (go_at_call 108; refine (HS.out _ ((below_drew0 W).trans hb1)).mono ?_; rintro e2 w2 ⟨v, rfl, ho2, hb2⟩; obtain ⟨A2, c2, rfl, _⟩ := ho2.form; have hv := V3.out.keep (((below_drew0 W).trans hb1).trans (hb2.mono ((below_drew0 W).trans hb1).size)); have q0 := hv.c0; have q1 := hv.c1; have q2 := hv.fz 0; have q3 := hv.fz 1))
  all_goals
    have hz := ((below_drew0 W).trans hb1).size
    have hg := x3
    have hw2 : Below w.heap.size w w2 := (HB.out.trans (((below_drew0 W).trans hb1).mono HB.out.size)).trans (hb2.mono (by have := HB.out.size; omega))
    obtain ⟨f0, f1, f2, f3⟩ := fin_var (w := w) hv ho2 (by have := V3.out.lt; omega) (by omega) hw2 (.int .i64 m) (.slice A2 (Ser.cut m d fun n => Ser.co l n + Ser.co l' n).length c2)
    have F2 := Lib.hid f2
    have F3 := Lib.hid f3
    clear f2 f3 hw2 ho2 hb2 hb1
    go_wp2
    refine bodyPost_ret (v := .agg #[.int .i64 m, .slice A2 (Ser.cut m d fun n => Ser.co l n + Ser.co l' n).length c2]) (by simp [results, Tryz.results71, go_sem, f0, f1]) rfl ⟨_, rfl, F2.out, F3.out⟩
set_option maxHeartbeats 2000000 in
theorem monomial_anyG (m : Int) (d k : Nat) (c : Int) (w : World) (h1 : 1 ≤ m) (h2 : m ≤ 100000000) (hd : d ≤ 1000) (h3 : -1000000000 ≤ c) (h4 : c ≤ 1000000000) :
    Calls Tryz.prog 72 #[.int .i64 m, .int .i64 d, .int .i64 k, .int .i64 c] w fun e w' => ∃ v, e = .returned (.agg #[.int .i64 m, v]) ∧ OwnI w' w.heap.size v (Ser.cut m d (Ser.mon k c)) ∧ Below w.heap.size w w' := by
  obtain ⟨W, hW⟩ : ∃ W, ((w.alloc (.cells #[.int .i64 k] 2)).alloc (.cells #[.int .i64 c] 2)).alloc (.cells #[.int .i64 0, .slice none 0 0] 39) = W := ⟨_, rfl⟩
  have hwb : Below w.heap.size w W := by rw [← hW]; exact below_alloc _ (below_alloc _ (below_one _ _))
  have b1 : Cel W w.heap.size k := by rw [← hW]; exact ((Cel.new w k).keep (below_one _ _)).keep (below_one _ _)
  have b2 : Cel W (w.heap.size + 1) c := by
    rw [← hW]
    have := (Cel.new (w.alloc (.cells #[.int .i64 k] 2)) c).keep (below_one _ (.cells #[.int .i64 0, .slice none 0 0] 39))
    simpa using this
  have v3 : Var2 W (w.heap.size + 1 + 1) (.int .i64 0) (.slice none 0 0) := by
    rw [← hW]
    have := Var2.new ((w.alloc (.cells #[.int .i64 k] 2)).alloc (.cells #[.int .i64 c] 2)) (.int .i64 0) (.slice none 0 0)
    simpa using this
  have V3 := Lib.hid v3
  have HB := Lib.hid hwb
  have HW := Lib.hid hW
  have HS := Lib.hid (seriesOf_anyG m d 110 #[.pointer (some ⟨w.heap.size, 0, none⟩), .pointer (some ⟨w.heap.size + 1, 0, none⟩)] (Ser.mon k c) W h1 h2 hd
    (fun n _ => mon_bd k c _ _ (by omega) (by omega) (by omega) (by omega) n)
    (enters_fn Tryz.func110 (of_decide_eq_true (by kernel_rfl)) rfl)
    (fun n W1 hn hb => monoC_any n k _ _ c W1 (b1.keep hb) (b2.keep hb)))
  obtain ⟨L, hL⟩ : ∃ L, Ser.cut m d (Ser.mon k c) = L := ⟨_, rfl⟩
  rw [hL] at HS ⊢
  clear b1 b2 v3 hwb hW hL
  go_enter Tryz.func72, Tryz.ntmps72
  go_wp2_with fail
  rw [HW.out]
  refine HS.out.mono ?_
  rintro e w2 ⟨v, rfl, ho, hb⟩
  obtain ⟨A2, c2, rfl, _⟩ := ho.form
  have hv := V3.out.keep hb
  have q0 := hv.c0
  have q1 := hv.c1
  have q2 := hv.fz 0
  have q3 := hv.fz 1
  obtain ⟨f0, f1, f2, f3⟩ := fin_var (w := w) hv ho (by have := V3.out.lt; omega) (by omega) (below_step HB.out hb) (.int .i64 m) (.slice A2 L.length c2)
  have F2 := Lib.hid f2
  have F3 := Lib.hid f3
  clear f2 f3 hv ho hb
  go_wp2
  exact bodyPost_ret (v := .agg #[.int .i64 m, .slice A2 L.length c2]) (by simp [results, Tryz.results72, go_sem, f0, f1]) rfl ⟨_, rfl, F2.out, F3.out⟩
theorem mul_bdG {x y : Int} (h1 : 0 ≤ x) (h2 : x ≤ 100000000) (h3 : -100000000 ≤ y) (h4 : y ≤ 100000000) : -10000000000000000 ≤ x * y ∧ x * y ≤ 10000000000000000 := by
  constructor
  · have := Int.mul_le_mul_of_nonneg_left (c := x) h3 h1
    have e : x * -100000000 = -(x * 100000000) := Int.mul_neg _ _
    omega
  · have := Int.mul_le_mul_of_nonneg_left (c := x) h4 h1
    omega
set_option maxHeartbeats 1000000 in
theorem scaledC_anyG (n : Nat) (g g' : Nat) (m : Int) (A : Option Addr) (c : Nat) (l : List Int) (k : Int) (W : World)
    (hb : Box W g m A l.length c) (hb' : Cel W g' k) (hr : RI W A l) (h1 : n < l.length) (h3 : 0 ≤ Ser.co l n) (h4 : Ser.co l n ≤ 100000000) (h5 : -100000000 ≤ k) (h6 : k ≤ 100000000) :
    Calls Tryz.prog 117 #[.int .i64 n, .pointer (some ⟨g, 0, none⟩), .pointer (some ⟨g', 0, none⟩)] W fun e w' => e = .returned (.int .i64 (Ser.co l n * k)) ∧ Below W.heap.size W w' := by
  obtain ⟨b, off, rfl, hlt, hc⟩ := hr.at n h1
  obtain ⟨x1, x2, _⟩ := hb
  obtain ⟨y1, _⟩ := hb'
  obtain ⟨X, hX⟩ : ∃ X, Ser.co l n = X := ⟨_, rfl⟩
  rw [hX] at hc h3 h4 ⊢
  obtain ⟨p1, p2⟩ := mul_bdG h3 h4 h5 h6
  have j1 : (0 : Int) ≤ (n : Int) := by omega
  have j2 : (n : Int) < (l.length : Int) := by omega
  clear hr hX
  go_enter Tryz.func117, Tryz.ntmps117
  go_wp2
  go_quiet (fail)
  go_wp2
  go_ret
  exact ⟨rfl, below_drewN (Below.refl _ _) _⟩
set_option maxHeartbeats 2000000 in
set_option maxRecDepth 100000 in
theorem scaled_anyG (m : Int) (d : Nat) (A : Option Addr) (c : Nat) (l : List Int) (k : Int) (w : World) (hs : SerOkG m d l) (hr : RI w A l) (h5 : -100000000 ≤ k) (h6 : k ≤ 100000000) :
    Calls Tryz.prog 78 #[.agg #[.int .i64 m, .slice A l.length c], .int .i64 k] w fun e w' => ∃ v, e = .returned (.agg #[.int .i64 m, v]) ∧ OwnI w' w.heap.size v (scaL m d l k) ∧ Below w.heap.size w w' := by
  obtain ⟨W, hW⟩ : ∃ W, (((w.alloc (.cells #[.int .i64 m, .slice A l.length c] 39)).alloc (.cells #[.int .i64 k] 2)).alloc (.cells #[.int .i64 0, .slice none 0 0] 39)) = W := ⟨_, rfl⟩
  have hwb : Below w.heap.size w W := by rw [← hW]; exact below_alloc _ (below_alloc _ (below_one _ _))
  have b1 : Box W w.heap.size m A l.length c := by rw [← hW]; exact ((Box.new w m A l.length c).keep (below_one _ _)).keep (below_one _ _)
  have b2 : Cel W (w.heap.size + 1) k := by
    rw [← hW]
    have := (Cel.new (w.alloc (.cells #[.int .i64 m, .slice A l.length c] 39)) k).keep (below_one _ (.cells #[.int .i64 0, .slice none 0 0] 39))
    simpa using this
  have v3 : Var2 W (w.heap.size + 1 + 1) (.int .i64 0) (.slice none 0 0) := by
    rw [← hW]
    have := Var2.new ((w.alloc (.cells #[.int .i64 m, .slice A l.length c] 39)).alloc (.cells #[.int .i64 k] 2)) (.int .i64 0) (.slice none 0 0)
    simpa using this
  have B1 := Lib.hid b1
  have B2 := Lib.hid b2
  have V3 := Lib.hid v3
  have HB := Lib.hid hwb
  have HW := Lib.hid hW
  have R1 := Lib.hid (hr.below hwb)
  have HS := Lib.hid (fun W0 (h0 : Below W.heap.size W W0) => seriesOf_anyG m d 117 #[.pointer (some ⟨w.heap.size, 0, none⟩), .pointer (some ⟨w.heap.size + 1, 0, none⟩)] (fun n => Ser.co l n * k) W0 (by have := hs.m1; omega) hs.m2 (by have := hs.d2; omega)
    (fun n _ => by have h1 := hs.red n; have h3 := hs.m2; have := mul_bdG h1.1 (by omega) h5 h6; omega)
    (enters_fn Tryz.func117 (of_decide_eq_true (by kernel_rfl)) rfl)
    (fun n W1 hn hb => by
      have h1 := hs.red n
      have h3 := hs.m2
      have hb2 := h0.trans (hb.mono h0.size)
      exact scaledC_anyG n _ _ m A c l k W1 (B1.out.keep hb2) (B2.out.keep hb2) (R1.out.below hb2) (by rw [hs.len]; omega) (by omega) (by omega) h5 h6))
  have HL := Lib.hid hs.len
  have HD := Lib.hid hs.d2
  obtain ⟨L, hLL⟩ : ∃ L, scaL m d l k = L := ⟨_, rfl⟩
  unfold scaL at hLL ⊢
  rw [hLL] at HS ⊢
  clear b1 b2 v3 hwb hW hr hs hLL
  go_enter Tryz.func78, Tryz.ntmps78
  go_wp2
  rw [HW.out]
  obtain ⟨x1, x2, x3⟩ := B1.out
  go_region_held3 (fun w' => w'.cell? ⟨w.heap.size, 0, none⟩ = some (.int .i64 m) ∧ w'.cell? ⟨w.heap.size, 1, none⟩ = some (.slice A l.length c) ∧ w.heap.size < w'.heap.size) (first | exact ⟨x1, x2, x3⟩ | exact box_store (by omega) (by assumption) | exact box_call (by assumption) (by assumption)) (first
    | (go_at_call 76; refine (degree_nat _ _ _ _ d _ HL.out (by have := HD.out; omega)).mono ?_; rintro e1 w1 ⟨rfl, hb1⟩)
    | (go_at_call 108; refine (HS.out _ ((below_drew0 W).trans hb1)).mono ?_; rintro e2 w2 ⟨v, rfl, ho2, hb2⟩; obtain ⟨A2, c2, rfl, _⟩ := ho2.form; have hv := V3.out.keep (((below_drew0 W).trans hb1).trans (hb2.mono ((below_drew0 W).trans hb1).size)); have q0 := hv.c0; have q1 := hv.c1; have q2 := hv.fz 0; have q3 := hv.fz 1))
  all_goals
    have hz := ((below_drew0 W).trans hb1).size
    have hg := x3
    have hw2 : Below w.heap.size w w2 := (HB.out.trans (((below_drew0 W).trans hb1).mono HB.out.size)).trans (hb2.mono (by have := HB.out.size; omega))
    obtain ⟨f0, f1, f2, f3⟩ := fin_var (w := w) hv ho2 (by have := V3.out.lt; omega) (by omega) hw2 (.int .i64 m) (.slice A2 L.length c2)
    have F2 := Lib.hid f2
    have F3 := Lib.hid f3
    clear f2 f3 hw2 ho2 hb2 hb1
    go_wp2
    refine bodyPost_ret (v := .agg #[.int .i64 m, .slice A2 L.length c2]) (by simp [results, Tryz.results78, go_sem, f0, f1]) rfl ⟨_, rfl, F2.out, F3.out⟩
set_option maxHeartbeats 4000000 in
theorem productAt_anyG (m : Int) (d n : Nat) (A : Option Addr) (c : Nat) (l : List Int) (m' : Int) (A' : Option Addr) (c' : Nat) (l' : List Int) (w : World) (hs : SerOkG m d l) (hs' : SerOkG m d l') (hr : RI w A l) (hr' : RI w A' l') (hn : n ≤ d) :
    Calls Tryz.prog 116 #[.agg #[.int .i64 m, .slice A l.length c], .agg #[.int .i64 m', .slice A' l'.length c'], .int .i64 n] w fun e w' => e = .returned (.int .i64 (Ser.cv n (Ser.co l) (Ser.co l'))) ∧ Below w.heap.size w w' := by
  obtain ⟨W, hW⟩ : ∃ W, (w.alloc (.cells #[.int .i64 m, .slice A l.length c] 39)).alloc (.cells #[.int .i64 m', .slice A' l'.length c'] 39) = W := ⟨_, rfl⟩
  obtain ⟨b1, b2, hwb⟩ := box2_new w m m' A A' l.length c l'.length c' W hW
  obtain ⟨x1, x2, _⟩ := b1
  obtain ⟨y1, y2, _⟩ := b2
  have HB := Lib.hid hwb
  have HW := Lib.hid hW
  have R1 := Lib.hid (hr.below hwb)
  have R2 := Lib.hid (hr'.below hwb)
  have HS := Lib.hid hs
  have HS' := Lib.hid hs'
  have HD := hs.d2
  obtain ⟨f, hf⟩ : ∃ f, f = fun i => Ser.co l i * Ser.co l' (n - i) := ⟨_, rfl⟩
  have HE := Lib.hid (show Ser.cv n (Ser.co l) (Ser.co l') = Ser.psum f (n + 1) by rw [hf]; exact Ser.cv_psum _ _ _)
  have HF := Lib.hid hf
  clear hwb hW hr hr' hs hs' hf
  go_enter Tryz.func116, Tryz.ntmps116
  go_wp2
  rw [HW.out]
  go_loopw [7, 8, 11] (fun s _ i wr => ∃ k : Nat, k ≤ n + 1 ∧ i = .int .i64 k ∧ s = .int .i64 (Ser.psum f k) ∧ 0 ≤ Ser.psum f k ∧ Ser.psum f k ≤ k * 10000000000000000 ∧ ∃ q, wr = W.drewN q) (fun _ _ i _ => n + 1 - (intOf i).toNat)
  case atStart => exact ⟨0, Nat.zero_le _, rfl, rfl, Int.le_refl _, Int.le_refl _, 0, rfl⟩
  case round =>
    obtain ⟨k, hk, rfl, rfl, z1, z2, q, rfl⟩ := hrel
    by_cases hlt : k < n + 1
    · obtain ⟨b, off, rfl, hb, hc⟩ := R1.out.at k (by have := HS.out.len; omega)
      obtain ⟨b', off', rfl, hb', hc'⟩ := R2.out.at (n - k) (by have := HS'.out.len; omega)
      have r1 := HS.out.red k
      have r2 := HS'.out.red (n - k)
      have m2 := HS.out.m2
      have hst : Ser.psum f (k + 1) = Ser.psum f k + Ser.co l k * Ser.co l' (n - k) := by rw [Ser.psum, HF.out]
      obtain ⟨X, hX⟩ : ∃ X, Ser.co l k = X := ⟨_, rfl⟩
      obtain ⟨Y, hY⟩ : ∃ Y, Ser.co l' (n - k) = Y := ⟨_, rfl⟩
      obtain ⟨P, hP⟩ : ∃ P, Ser.psum f k = P := ⟨_, rfl⟩
      rw [hX] at hc r1 hst
      rw [hY] at hc' r2 hst
      rw [hP] at z1 z2 hst
      obtain ⟨p1, p2⟩ := mul_bdG (x := X) (y := Y) r1.1 (by omega) (by omega) (by omega)
      have p3 : 0 ≤ X * Y := Int.mul_nonneg r1.1 r2.1
      have l1 := HS.out.len
      have l2 := HS'.out.len
      have j0 : (0 : Int) ≤ (k : Int) := by omega
      have j1 : (k : Int) < (l.length : Int) := by omega
      have j3 : (0 : Int) ≤ (n : Int) - (k : Int) := by omega
      have j4 : (n : Int) - (k : Int) < (l'.length : Int) := by omega
      have j5 : ((n : Int) - (k : Int)).toNat = n - k := by omega
      have HST := Lib.hid hst
      have HP := Lib.hid hP
      clear hX hY hP hst l1 l2
      rw [HP.out]
      go_wp2
      go_quiet (fail)
      go_wp2
      go_roundw
      case rel => exact ⟨k + 1, by omega, by go_num, by rw [HST.out], by rw [HST.out]; omega, by rw [HST.out]; omega, _, rfl⟩
      case measure => simp only [intOf]; omega
    · obtain rfl : k = n + 1 := by omega
      go_wp2
      go_ret
      exact ⟨ret_int HE.out.symm, below_drewN HB.out _⟩
theorem cv_bdG {m : Int} {l l' : List Int} (m2 : m ≤ 100000000) (h : Ser.Red m l) (h' : Ser.Red m l') (n : Nat) (hn : n ≤ 50) : 0 ≤ Ser.cv n (Ser.co l) (Ser.co l') ∧ Ser.cv n (Ser.co l) (Ser.co l') ≤ 510000000000000000 := by
  rw [Ser.cv_psum]
  have := psum_bd (fun i => Ser.co l i * Ser.co l' (n - i)) 10000000000000000 (fun i => by
    have h1 := h i
    have h2 := h' (n - i)
    exact ⟨Int.mul_nonneg h1.1 h2.1, (mul_bdG h1.1 (by omega) (by omega) (by omega)).2⟩) (n + 1)
  refine ⟨this.1, Int.le_trans this.2 ?_⟩
  omega
set_option maxHeartbeats 1000000 in
theorem timesC_anyG (n : Nat) (g g' : Nat) (m : Int) (d : Nat) (A : Option Addr) (c : Nat) (l : List Int) (m' : Int) (A' : Option Addr) (c' : Nat) (l' : List Int) (W : World)
    (hb : Box W g m A l.length c) (hb' : Box W g' m' A' l'.length c') (hs : SerOkG m d l) (hs' : SerOkG m d l') (hr : RI W A l) (hr' : RI W A' l') (hn : n ≤ d) :
    Calls Tryz.prog 115 #[.int .i64 n, .pointer (some ⟨g, 0, none⟩), .pointer (some ⟨g', 0, none⟩)] W fun e w' => e = .returned (.int .i64 (Ser.cv n (Ser.co l) (Ser.co l'))) ∧ Below W.heap.size W w' := by
  obtain ⟨x1, x2, _⟩ := hb
  obtain ⟨y1, y2, _⟩ := hb'
  have HP := Lib.hid (productAt_anyG m d n A c l m' A' c' l' W hs hs' hr hr' hn)
  clear hs hs' hr hr'
  go_enter Tryz.func115, Tryz.ntmps115
  go_wp2_with fail
  refine HP.out.mono ?_
  rintro e w1 ⟨rfl, hb1⟩
  go_wp2
  go_ret
  exact ⟨rfl, hb1⟩
set_option maxHeartbeats 2000000 in
set_option maxRecDepth 100000 in
theorem times_anyG (m : Int) (d : Nat) (A : Option Addr) (c : Nat) (l : List Int) (m' : Int) (A' : Option Addr) (c' : Nat) (l' : List Int) (w : World) (hs : SerOkG m d l) (hs' : SerOkG m d l') (hr : RI w A l) (hr' : RI w A' l') :
    Calls Tryz.prog 77 #[.agg #[.int .i64 m, .slice A l.length c], .agg #[.int .i64 m', .slice A' l'.length c']] w fun e w' => ∃ v, e = .returned (.agg #[.int .i64 m, v]) ∧ OwnI w' w.heap.size v (Ser.mulL m d l l') ∧ Below w.heap.size w w' := by
  obtain ⟨W, hW⟩ : ∃ W, (((w.alloc (.cells #[.int .i64 m, .slice A l.length c] 39)).alloc (.cells #[.int .i64 m', .slice A' l'.length c'] 39)).alloc (.cells #[.int .i64 0, .slice none 0 0] 39)) = W := ⟨_, rfl⟩
  obtain ⟨b1, b2, v3, hwb⟩ := box3_new w m m' A A' l.length c l'.length c' W hW
  have B1 := Lib.hid b1
  have B2 := Lib.hid b2
  have V3 := Lib.hid v3
  have HB := Lib.hid hwb
  have HW := Lib.hid hW
  have R1 := Lib.hid (hr.below hwb)
  have R2 := Lib.hid (hr'.below hwb)
  have HS := Lib.hid (fun W0 (h0 : Below W.heap.size W W0) => seriesOf_anyG m d 115 #[.pointer (some ⟨w.heap.size, 0, none⟩), .pointer (some ⟨w.heap.size + 1, 0, none⟩)] (Ser.mul (Ser.co l) (Ser.co l')) W0 (by have := hs.m1; omega) hs.m2 (by have := hs.d2; omega)
    (fun n hn => by have := cv_bdG hs.m2 hs.red hs'.red n (by have := hs.d2; omega); rw [Ser.mul_at]; omega)
    (enters_fn Tryz.func115 (of_decide_eq_true (by kernel_rfl)) rfl)
    (fun n W1 hn hb => by
      have hb2 := h0.trans (hb.mono h0.size)
      exact timesC_anyG n _ _ m d A c l m' A' c' l' W1 (B1.out.keep hb2) (B2.out.keep hb2) hs hs' (R1.out.below hb2) (R2.out.below hb2) hn))
  have HL := Lib.hid hs.len
  have HD := Lib.hid hs.d2
  obtain ⟨L, hLL⟩ : ∃ L, Ser.mulL m d l l' = L := ⟨_, rfl⟩
  unfold Ser.mulL at hLL ⊢
  rw [hLL] at HS ⊢
  clear b1 b2 v3 hwb hW hr hr' hs hs' hLL
  go_enter Tryz.func77, Tryz.ntmps77
  go_wp2
  rw [HW.out]
  obtain ⟨x1, x2, x3⟩ := B1.out
  go_region_held3 (fun w' => w'.cell? ⟨w.heap.size, 0, none⟩ = some (.int .i64 m) ∧ w'.cell? ⟨w.heap.size, 1, none⟩ = some (.slice A l.length c) ∧ w.heap.size < w'.heap.size) (first | exact ⟨x1, x2, x3⟩ | exact box_store (by omega) (by assumption) | exact box_call (by assumption) (by assumption)) (first
    | (go_at_call 76; refine (degree_nat _ _ _ _ d _ HL.out (by have := HD.out; omega)).mono ?_; rintro e1 w1 ⟨rfl, hb1⟩)
    | (go_at_call 108; refine (HS.out _ ((below_drew0 W).trans hb1)).mono ?_; rintro e2 w2 ⟨v, rfl, ho2, hb2⟩; obtain ⟨A2, c2, rfl, _⟩ := ho2.form; have hv := V3.out.keep (((below_drew0 W).trans hb1).trans (hb2.mono ((below_drew0 W).trans hb1).size)); have q0 := hv.c0; have q1 := hv.c1; have q2 := hv.fz 0; have q3 := hv.fz 1))
  all_goals
    have hz := ((below_drew0 W).trans hb1).size
    have hg := x3
    have hw2 : Below w.heap.size w w2 := (HB.out.trans (((below_drew0 W).trans hb1).mono HB.out.size)).trans (hb2.mono (by have := HB.out.size; omega))
    obtain ⟨f0, f1, f2, f3⟩ := fin_var (w := w) hv ho2 (by have := V3.out.lt; omega) (by omega) hw2 (.int .i64 m) (.slice A2 L.length c2)
    have F2 := Lib.hid f2
    have F3 := Lib.hid f3
    clear f2 f3 hw2 ho2 hb2 hb1
    go_wp2
    refine bodyPost_ret (v := .agg #[.int .i64 m, .slice A2 L.length c2]) (by simp [results, Tryz.results77, go_sem, f0, f1]) rfl ⟨_, rfl, F2.out, F3.out⟩
end Go.Proofs.YtfhdgcndiljjcabGreat

/- Appending a row that the call has made to a slice of slices of its own. -/
namespace Go.Proofs.YtfhdgcndiljjcabGreat
open Go.RowKit Go.WideShapes Go.ChangeShapes Go.ChangeAt
theorem made_from {b n c g : Nat} (h : (Value.slice (some ⟨b, 0, none⟩) n c).ownBlock = some g) : b ≤ g := by
  have : g = b := by simpa [Value.ownBlock] using h.symm
  omega
/-- what an append of one row leaves -/
theorem OwnR.pushed {w w' : World} {lo hi : Nat} {v v' u : Value} {rows : List (List Int)} {r : List Int} {vs : List Value} {o : Obj}
    (h1 : w.ownsRow lo 26 1 v rows.length vs)
    (h3 : ∀ (i : Nat) (r : List Int), rows[i]? = some r → ∃ u : Value, vs[i]? = some u ∧ OwnI w lo u r ∧ ∀ g, u.ownBlock = some g → g < hi)
    (h4 : ∀ (i j : Nat) (u u' : Value), i < j → vs[i]? = some u → vs[j]? = some u' → u.ownBlock = none ∨ u.ownBlock ≠ u'.ownBlock)
    (hhi : hi ≤ w.heap.size) (hu : OwnI w lo u r) (hub : ∀ g, u.ownBlock = some g → hi ≤ g)
    (g1 : w'.ownsRow lo 26 1 v' (rows.length + 1) (vs ++ [u])) (g2 : (w.alloc o).grownBy w' v.ownBlock) : OwnR w' lo w'.heap.size v' (rows ++ [r]) := by
  have hsz : w.heap.size + 1 ≤ w'.heap.size := by have := g2.size; simpa using this
  have hvsl : vs.length = rows.length := by have := h1.1; omega
  refine ⟨vs ++ [u], by rw [List.length_append]; exact g1, fun g hg => (World.ownsRow.lt g1 g hg).2, ?_, ?_⟩
  · intro i r' hr
    by_cases hi' : i < rows.length
    · rw [List.getElem?_append_left hi'] at hr
      obtain ⟨u', a1, a2, a3⟩ := h3 i r' hr
      have hk := a2.alloc o
      exact ⟨u', by rw [List.getElem?_append_left (by omega)]; exact a1, hk.other g2 (ne_types (h1.alloc o) hk), fun g hg => by have := a3 g hg; omega⟩
    · rw [List.getElem?_append_right (by omega)] at hr
      have hi2 : i = rows.length := by
        rcases Nat.eq_or_lt_of_le (Nat.le_of_not_lt hi') with e | e
        · exact e.symm
        · rw [show i - rows.length = (i - rows.length - 1) + 1 by omega] at hr; simp at hr
      subst hi2
      rw [Nat.sub_self] at hr
      simp at hr
      subst hr
      have hk := hu.alloc o
      exact ⟨u, by rw [← hvsl, List.getElem?_append_right (Nat.le_refl _), Nat.sub_self]; rfl, hk.other g2 (ne_types (h1.alloc o) hk), fun g hg => by have := (hu.lt g hg).2; omega⟩
  · intro i j x y hij hx hy
    by_cases hj : j < vs.length
    · rw [List.getElem?_append_left hj] at hy
      rw [List.getElem?_append_left (by omega)] at hx
      exact h4 i j x y hij hx hy
    · have hju : j = vs.length := by
        rw [List.getElem?_append_right (by omega)] at hy
        rcases Nat.eq_or_lt_of_le (Nat.le_of_not_lt hj) with e | e
        · exact e.symm
        · rw [show j - vs.length = (j - vs.length - 1) + 1 by omega] at hy; simp at hy
      subst hju
      rw [List.getElem?_append_right (Nat.le_refl _), Nat.sub_self] at hy
      simp at hy
      subst hy
      rw [List.getElem?_append_left hij] at hx
      obtain ⟨r', hr'⟩ : ∃ r', rows[i]? = some r' := ⟨_, List.getElem?_eq_getElem (by omega)⟩
      obtain ⟨u2, a1, _, a3⟩ := h3 i r' hr'
      rw [hx] at a1
      injection a1 with a1
      subst a1
      rcases hc : x.ownBlock with _ | g
      · exact .inl rfl
      · refine .inr fun e => ?_
        have p1 := a3 g hc
        have p2 := hub g e.symm
        omega
theorem wp_pushU {ops : Array Oper} {rest : List Oper} {o : Oper} {a : Act} {Q : Exit → Act → World → Prop} {w : World} (s x : Operand) (t : TypeId)
    (hgd : o.guard = none) (ho : o.op = .call { callee := .builtin .append, args := #[s, x], argTypes := #[t, t] })
    (ht : Tryz.prog.underlying t = some (.slice 26)) (lo hi : Nat) (v : Value) (rows : List (List Int)) (hs : a.eval s = v) (hown : OwnR w lo hi v rows) (hhi : hi ≤ w.heap.size)
    (u : Value) (r : List Int) (hu : OwnI w lo u r) (hub : ∀ g, u.ownBlock = some g → hi ≤ g) (G : Nat) (hG : w.heap.size = G) (hx : a.eval x = .slice (some ⟨G, 0, none⟩) 1 1) (hlen : rows.length ≤ 1000000000000) (hlo : lo ≤ w.heap.size)
    (h : ∀ v' w', OwnR w' lo w'.heap.size v' (rows ++ [r]) → Below lo w w' → wpList Tryz.prog ops Q rest (a.put o.dst v') w') :
    wpList Tryz.prog ops Q (o :: rest) a (w.alloc (.cells #[u] 26)) := by
  subst hG
  obtain ⟨i0, hi0, hz0, hz1, hz2⟩ := info_parts infoRow
  obtain ⟨vs, h1, h2, h3, h4⟩ := hown
  obtain ⟨Au, cu, hue, -⟩ := hu.form
  refine wpList_append_own _ hgd s x t ho lo 26 i0 (.slice none 0 0) 1 24 ht hi0 hz0 hz1 hz2 rfl (by decide) v rows.length vs hs (h1.alloc _)
    ⟨w.heap.size, 0, none⟩ 1 1 [u] hx rfl ?_ ?_ ?_ ?_ ?_ ?_
  · intro j u' hj
    match j, hj with
    | 0, hj => simp at hj; subst hj; simp [Addr.add]
  · intro u' hu'; simp at hu'; subst hu'; rw [hue]; rfl
  · unfold maxLen; omega
  · omega
  · simp; omega
  · intro v' w' g1 g2 _
    exact h v' w' (OwnR.pushed h1 h3 h4 hhi hu hub g1 g2) (((Below.refl lo w).alloc hlo _).grown g2 (by simp; omega) (fun k hk => (World.ownsRow.lt h1 k hk).1))
/-- the same at a step of a region that draws its order: the row's header lies in block g -/
theorem step_pushU {ops : Array Oper} {o : Oper} {a : Act} {K : Act → World → Prop} {Q : Exit → Act → World → Prop} {E : Prop} {w : World} (s x : Operand) (t : TypeId)
    (hgd : o.guard = none) (ho : o.op = .call { callee := .builtin .append, args := #[s, x], argTypes := #[t, t] })
    (ht : Tryz.prog.underlying t = some (.slice 26)) (lo hi : Nat) (v : Value) (rows : List (List Int)) (hs : a.eval s = v) (hown : OwnR w lo hi v rows) (hhi : hi ≤ w.heap.size)
    (u : Value) (r : List Int) (hu : OwnI w lo u r) (hub : ∀ g, u.ownBlock = some g → hi ≤ g) (g : Nat) (hx : a.eval x = .slice (some ⟨g, 0, none⟩) 1 1) (hy : w.cell? ⟨g, 0, none⟩ = some u) (hlen : rows.length ≤ 1000000000000) (hlo : lo ≤ w.heap.size)
    (h : ∀ v' w', OwnR w' lo w'.heap.size v' (rows ++ [r]) → Below lo w w' → K (a.put o.dst v') w') :
    if Region.wanted o (yielded ops a.tmps) = true then Oper.wp Tryz.prog o a w K Q else E := by
  have hw : Region.wanted o (yielded ops a.tmps) = true := by simp [Region.wanted, hgd]
  rw [if_pos hw]
  obtain ⟨i0, hi0, hz0, hz1, hz2⟩ := info_parts infoRow
  obtain ⟨vs, h1, h2, h3, h4⟩ := hown
  obtain ⟨Au, cu, hue, -⟩ := hu.form
  refine wp_append_own _ s x t ho lo 26 i0 (.slice none 0 0) 1 24 ht hi0 hz0 hz1 hz2 rfl (by decide) v rows.length vs hs h1
    ⟨g, 0, none⟩ 1 1 [u] hx rfl ?_ ?_ ?_ ?_ hlo ?_
  · intro j u' hj
    match j, hj with
    | 0, hj => simp at hj; subst hj; simp [Addr.add]; exact hy
  · intro u' hu'; simp at hu'; subst hu'; rw [hue]; rfl
  · unfold maxLen; omega
  · omega
  · intro v' w' g1 g2 _
    refine h v' w' ?_ ((Below.refl lo w).grown g2 hlo (fun k hk => (World.ownsRow.lt h1 k hk).1))
    have hsz := g2.size
    have hvsl : vs.length = rows.length := by have := h1.1; omega
    refine ⟨vs ++ [u], by rw [List.length_append]; exact g1, fun g hg => (World.ownsRow.lt g1 g hg).2, ?_, ?_⟩
    · intro i r' hr
      by_cases hi' : i < rows.length
      · rw [List.getElem?_append_left hi'] at hr
        obtain ⟨u', a1, a2, a3⟩ := h3 i r' hr
        exact ⟨u', by rw [List.getElem?_append_left (by omega)]; exact a1, a2.other g2 (ne_types h1 a2), fun g hg => by have := a3 g hg; omega⟩
      · rw [List.getElem?_append_right (by omega)] at hr
        have hi2 : i = rows.length := by
          rcases Nat.eq_or_lt_of_le (Nat.le_of_not_lt hi') with e | e
          · exact e.symm
          · rw [show i - rows.length = (i - rows.length - 1) + 1 by omega] at hr; simp at hr
        subst hi2
        rw [Nat.sub_self] at hr
        simp at hr
        subst hr
        exact ⟨u, by rw [← hvsl, List.getElem?_append_right (Nat.le_refl _), Nat.sub_self]; rfl, hu.other g2 (ne_types h1 hu), fun g hg => by have := (hu.lt g hg).2; omega⟩
    · intro i j x y hij hx hy
      by_cases hj : j < vs.length
      · rw [List.getElem?_append_left hj] at hy
        rw [List.getElem?_append_left (by omega)] at hx
        exact h4 i j x y hij hx hy
      · have hju : j = vs.length := by
          rw [List.getElem?_append_right (by omega)] at hy
          rcases Nat.eq_or_lt_of_le (Nat.le_of_not_lt hj) with e | e
          · exact e.symm
          · rw [show j - vs.length = (j - vs.length - 1) + 1 by omega] at hy; simp at hy
        subst hju
        rw [List.getElem?_append_right (Nat.le_refl _), Nat.sub_self] at hy
        simp at hy
        subst hy
        rw [List.getElem?_append_left hij] at hx
        obtain ⟨r', hr'⟩ : ∃ r', rows[i]? = some r' := ⟨_, List.getElem?_eq_getElem (by omega)⟩
        obtain ⟨u2, a1, _, a3⟩ := h3 i r' hr'
        rw [hx] at a1
        injection a1 with a1
        subst a1
        rcases hc : x.ownBlock with _ | g
        · exact .inl rfl
        · refine .inr fun e => ?_
          have p1 := a3 g hc
          have p2 := hub g e.symm
          omega
end Go.Proofs.YtfhdgcndiljjcabGreat

