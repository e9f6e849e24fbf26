/- Texts of contracts, joined. -/
import Derived.Test.YtakdmnecllcmnaaMgad
import Derived.Test.YtakdmnecllcmnaaMgaa
import Derived.Test.YtakdmnecllcmnaaMgac
import Derived.Deep.DeepCutAuto
import Derived.Laws.CopyOwn
/- Series with great moduli, up to 10^8: written by wip/tools/mk_bgs.py. -/
namespace Go.Proofs.Ytakdmnecllcmnaa
open Go Go.RowKit Go.WideShapes Go.ChangeShapes Go.ChangeAt

structure SerOkG (m : Int) (d : Nat) (l : List Int) : Prop where
  m1 : 2 ≤ m
  m2 : m ≤ 100000000
  d1 : 1 ≤ d
  d2 : d ≤ 10
  len : l.length = d + 1
  red : Ser.Red m l
theorem SerOkG.cut {m : Int} {d : Nat} {l : List Int} (h : SerOkG m d l) (f : Nat → Int) : SerOkG m d (Ser.cut m d f) :=
  ⟨h.m1, h.m2, h.d1, h.d2, Ser.cut_length _ _ _, Ser.cut_red (by have := h.m1; omega) _ _⟩
theorem SerOkG.of {m : Int} {d : Nat} (m1 : 2 ≤ m) (m2 : m ≤ 100000000) (d1 : 1 ≤ d) (d2 : d ≤ 10) (f : Nat → Int) : SerOkG m d (Ser.cut m d f) :=
  ⟨m1, m2, d1, d2, Ser.cut_length _ _ _, Ser.cut_red (by omega) _ _⟩
set_option maxHeartbeats 2000000 in
set_option maxRecDepth 100000 in
theorem seriesOf_anyG (m : Int) (d fn : Nat) (cap : Array Value) (f : Nat → Int) (w : World) (h1 : 1 ≤ m) (h2 : m ≤ 100000000) (hd : d ≤ 1000) (hlo : ∀ n, n ≤ d → -1000000000000000000 ≤ f n ∧ f n ≤ 1000000000000000000)
    (hen : ∀ (args : Array Value) (W : World), (callFunc fn args).run Try.prog W = .ok (.enter fn args) W)
    (hf : ∀ (n : Nat) (W : World), n ≤ d → Below w.heap.size w W → Calls Try.prog fn (#[.int .i64 n] ++ cap) W fun e w' => e = .returned (.int .i64 (f n)) ∧ Below W.heap.size W w') :
    Calls Try.prog 100 #[.int .i64 m, .int .i64 d, .func (.func fn) #[] cap] w fun e w' => ∃ v, e = .returned (.agg #[.int .i64 m, v]) ∧ OwnI w' w.heap.size v (Ser.cut m d f) ∧ Below w.heap.size w w' := by
  have HF := Lib.hid hf
  have HL := Lib.hid hlo
  clear hf hlo
  have hmk : ∀ W : World, (Instr.makeSlice 22 (.int .i64 ((d : Int) + 1)) (.int .i64 ((d : Int) + 1))).run Try.prog W = .ok (.slice (some ⟨W.heap.size, 0, none⟩) (d + 1) (d + 1)) (W.alloc (.cells (madeCells #[.int .i64 0] (d + 1)) 2)) := by
    intro W
    have := run_make_row' (P := Try.prog) 22 2 (.int .i64 0) 8 Try.underlying22 info64 rfl .i64 .i64 (d + 1) (by omega) (by omega) W
    rwa [show ((d + 1 : Nat) : Int) = (d : Int) + 1 by omega] at this
  go_enter Try.func100, Try.ntmps100
  go_wp2
  go_loopw [14] (fun i wr => ∃ k : Nat, k ≤ d + 1 ∧ i = .int .i64 k ∧ OwnI wr (w.heap.size + 1) (.slice (some ⟨w.heap.size + 1, 0, none⟩) (d + 1) (d + 1)) ((Ser.cut m d f).take k ++ List.replicate (d + 1 - k) 0) ∧ Var2 wr w.heap.size (.int .i64 0) (.slice none 0 0) ∧ Below w.heap.size w wr) (fun i _ => d + 1 - (intOf i).toNat)
  case atStart =>
    refine ⟨0, Nat.zero_le _, rfl, ?_, (Var2.new w _ _).keep (below_one _ _), below_alloc _ (below_one _ _)⟩
    have h := OwnI.made (w.alloc (.cells #[.int .i64 0, .slice none 0 0] 30)) (d + 1) (by unfold maxLen; omega)
    simpa using h
  case round =>
    clear hmk
    obtain ⟨k, hk, rfl, hown, hvar, hbel⟩ := hrel
    have HV := Lib.hid hvar
    have HB := Lib.hid hbel
    have HO := Lib.hid hown
    clear hown hbel hvar
    by_cases hlt : k < d + 1
    · obtain ⟨q1, q2⟩ := HL.out k (by omega)
      obtain ⟨F, hF⟩ : ∃ F, f k = F := ⟨_, rfl⟩
      have HC := HF.out k wr (by omega) HB.out
      rw [hF] at q1 q2 HC
      have HC' := Lib.hid HC
      have HFk := Lib.hid hF
      clear HC hF
      have hkd : (k : Int) < (d : Int) + 1 := by omega
      go_wp2_with fail
      refine HC'.out.mono ?_
      rintro e w1 ⟨rfl, hb1⟩
      have HO1 := Lib.hid (HO.out.keep hb1)
      have HV1 := Lib.hid (HV.out.keep hb1)
      obtain ⟨_, _, o3, o4⟩ := HO1.out.cells
      have hd1 := o3 k (by simp [Ser.cut_length]; omega)
      have hf1 := o4 k
      obtain ⟨y, hy⟩ : ∃ y, ((Ser.cut m d f).take k ++ List.replicate (d + 1 - k) 0)[k]?.getD 0 = y := ⟨_, rfl⟩
      rw [hy] at hd1
      have hs := HO1.out.set k (f k % m)
      rw [cut_step m d f k (by omega), HFk.out] at hs
      have HS := Lib.hid hs
      have HB1 := Lib.hid (HB.out.trans (hb1.mono HB.out.size))
      clear hy o3 o4 hs hb1
      go_wp2_with (first | (go_at_call 57; refine (remB_any _ _ _ h1 h2 q1 q2).mono ?_; rintro e w' ⟨rfl, rfl⟩))
      go_roundw
      case rel => exact ⟨k + 1, by omega, by go_num, HS.out, HV1.out.far _ _ _ (by omega), HB1.out.setCell (by show w.heap.size ≤ w.heap.size + 1; omega) _⟩
      case measure => simp only [intOf]; omega
    · obtain rfl : k = d + 1 := by omega
      have ho := HO.out
      rw [Ser.cut_take_all, Nat.sub_self, List.replicate_zero, List.append_nil] at ho
      have HFin := Lib.hid ho
      clear ho
      have v0 := HV.out.c0
      have v1 := HV.out.c1
      have v2 := HV.out.fz 0
      have v3 := HV.out.fz 1
      obtain ⟨v4, v5⟩ : (set2 wr w.heap.size (.int .i64 m) (.slice (some ⟨w.heap.size + 1, 0, none⟩) (d + 1) (d + 1))).cell? ⟨w.heap.size, 0, none⟩ = some (.int .i64 m) ∧
        (set2 wr w.heap.size (.int .i64 m) (.slice (some ⟨w.heap.size + 1, 0, none⟩) (d + 1) (d + 1))).cell? ⟨w.heap.size, 1, none⟩ = some (.slice (some ⟨w.heap.size + 1, 0, none⟩) (d + 1) (d + 1)) := ⟨(HV.out.set2 _ _).c0, (HV.out.set2 _ _).c1⟩
      unfold set2 at v4 v5
      go_wp2
      refine bodyPost_ret (v := .agg #[.int .i64 m, .slice (some ⟨w.heap.size + 1, 0, none⟩) (d + 1) (d + 1)]) (by simp [results, Try.results100, go_sem, v4, v5]) rfl ⟨_, rfl, ?_, below_set2 HB.out (Nat.le_refl _) _ _⟩
      exact (HFin.out.other (grown_set2 wr w.heap.size _ _) (.inr (by simp [Value.ownBlock]))).more (by omega)
set_option maxHeartbeats 1000000 in
theorem plusC_anyG (n : Nat) (g g' : Nat) (m : Int) (A : Option Addr) (c : Nat) (l : List Int) (m' : Int) (A' : Option Addr) (c' : Nat) (l' : List Int) (W : World)
    (hb : Box W g m A l.length c) (hb' : Box W g' m' A' l'.length c') (hr : RI W A l) (hr' : RI W A' l') (h1 : n < l.length) (h2 : n < l'.length)
    (h3 : 0 ≤ Ser.co l n) (h4 : Ser.co l n ≤ 100000000) (h5 : 0 ≤ Ser.co l' n) (h6 : Ser.co l' n ≤ 100000000) :
    Calls Try.prog 104 #[.int .i64 n, .pointer (some ⟨g, 0, none⟩), .pointer (some ⟨g', 0, none⟩)] W fun e w' => e = .returned (.int .i64 (Ser.co l n + Ser.co l' n)) ∧ Below W.heap.size W w' := by
  obtain ⟨b, off, rfl, hlt, hc⟩ := hr.at n h1
  obtain ⟨b', off', rfl, hlt', hc'⟩ := hr'.at n h2
  obtain ⟨x1, x2, _⟩ := hb
  obtain ⟨y1, y2, _⟩ := hb'
  obtain ⟨X, hX⟩ : ∃ X, Ser.co l n = X := ⟨_, rfl⟩
  obtain ⟨Y, hY⟩ : ∃ Y, Ser.co l' n = Y := ⟨_, rfl⟩
  rw [hX] at hc h3 h4 ⊢
  rw [hY] at hc' h5 h6 ⊢
  have j1 : (0 : Int) ≤ (n : Int) := by omega
  have j2 : (n : Int) < (l.length : Int) := by omega
  have j3 : (n : Int) < (l'.length : Int) := by omega
  clear hr hr' hX hY
  go_enter Try.func104, Try.ntmps104
  go_wp2
  go_quiet (fail)
  go_wp2
  go_ret
  exact ⟨rfl, below_drewN (Below.refl _ _) _⟩

set_option maxHeartbeats 2000000 in
set_option maxRecDepth 100000 in
theorem plus_anyG (m : Int) (d : Nat) (A : Option Addr) (c : Nat) (l : List Int) (m' : Int) (A' : Option Addr) (c' : Nat) (l' : List Int) (w : World) (hs : SerOkG m d l) (hs' : SerOkG m d l') (hr : RI w A l) (hr' : RI w A' l') :
    Calls Try.prog 70 #[.agg #[.int .i64 m, .slice A l.length c], .agg #[.int .i64 m', .slice A' l'.length c']] w fun e w' => ∃ v, e = .returned (.agg #[.int .i64 m, v]) ∧ OwnI w' w.heap.size v (Ser.cut m d fun n => Ser.co l n + Ser.co l' n) ∧ Below w.heap.size w w' := by
  obtain ⟨W, hW⟩ : ∃ W, (((w.alloc (.cells #[.int .i64 m, .slice A l.length c] 30)).alloc (.cells #[.int .i64 m', .slice A' l'.length c'] 30)).alloc (.cells #[.int .i64 0, .slice none 0 0] 30)) = W := ⟨_, rfl⟩
  obtain ⟨b1, b2, v3, hwb⟩ := box3_new w m m' A A' l.length c l'.length c' W hW
  have B1 := Lib.hid b1
  have B2 := Lib.hid b2
  have V3 := Lib.hid v3
  have HB := Lib.hid hwb
  have HW := Lib.hid hW
  have R1 := Lib.hid (hr.below hwb)
  have R2 := Lib.hid (hr'.below hwb)
  have HS := Lib.hid (fun W0 (h0 : Below W.heap.size W W0) => seriesOf_anyG m d 104 #[.pointer (some ⟨w.heap.size, 0, none⟩), .pointer (some ⟨w.heap.size + 1, 0, none⟩)] (fun n => Ser.co l n + Ser.co l' n) W0 (by have := hs.m1; omega) hs.m2 (by have := hs.d2; omega)
    (fun n _ => by have h1 := hs.red n; have h2 := hs'.red n; have h3 := hs.m2; omega)
    (enters_fn Try.func104 (of_decide_eq_true (by kernel_rfl)) rfl)
    (fun n W1 hn hb => by
      have h1 := hs.red n
      have h2 := hs'.red n
      have h3 := hs.m2
      have hb2 := h0.trans (hb.mono h0.size)
      exact plusC_anyG n _ _ m A c l m' A' c' l' W1 (B1.out.keep hb2) (B2.out.keep hb2) (R1.out.below hb2) (R2.out.below hb2) (by rw [hs.len]; omega) (by rw [hs'.len]; omega) (by omega) (by omega) (by omega) (by omega)))
  have HL := Lib.hid hs.len
  have HD := Lib.hid hs.d2
  clear b1 b2 v3 hwb hW hr hr' hs hs'
  go_enter Try.func70, Try.ntmps70
  go_wp2
  rw [HW.out]
  obtain ⟨x1, x2, x3⟩ := B1.out
  go_region_held3 (fun w' => w'.cell? ⟨w.heap.size, 0, none⟩ = some (.int .i64 m) ∧ w'.cell? ⟨w.heap.size, 1, none⟩ = some (.slice A l.length c) ∧ w.heap.size < w'.heap.size) (first | exact ⟨x1, x2, x3⟩ | exact box_store (by omega) (by assumption) | exact box_call (by assumption) (by assumption)) (first
    | (go_at_call 102; refine (degree_nat _ _ _ _ d _ HL.out (by have := HD.out; omega)).mono ?_; rintro e1 w1 ⟨rfl, hb1⟩)
    | (go_at_call 100; refine (HS.out _ ((below_drew0 W).trans hb1)).mono ?_; rintro e2 w2 ⟨v, rfl, ho2, hb2⟩; obtain ⟨A2, c2, rfl, _⟩ := ho2.form; have hv := V3.out.keep (((below_drew0 W).trans hb1).trans (hb2.mono ((below_drew0 W).trans hb1).size)); have q0 := hv.c0; have q1 := hv.c1; have q2 := hv.fz 0; have q3 := hv.fz 1))
  all_goals
    have hz := ((below_drew0 W).trans hb1).size
    have hg := x3
    have hw2 : Below w.heap.size w w2 := (HB.out.trans (((below_drew0 W).trans hb1).mono HB.out.size)).trans (hb2.mono (by have := HB.out.size; omega))
    obtain ⟨f0, f1, f2, f3⟩ := fin_var (w := w) hv ho2 (by have := V3.out.lt; omega) (by omega) hw2 (.int .i64 m) (.slice A2 (Ser.cut m d fun n => Ser.co l n + Ser.co l' n).length c2)
    have F2 := Lib.hid f2
    have F3 := Lib.hid f3
    clear f2 f3 hw2 ho2 hb2 hb1
    go_wp2
    refine bodyPost_ret (v := .agg #[.int .i64 m, .slice A2 (Ser.cut m d fun n => Ser.co l n + Ser.co l' n).length c2]) (by simp [results, Try.results70, go_sem, f0, f1]) rfl ⟨_, rfl, F2.out, F3.out⟩
set_option maxHeartbeats 2000000 in
theorem monomial_anyG (m : Int) (d k : Nat) (c : Int) (w : World) (h1 : 1 ≤ m) (h2 : m ≤ 100000000) (hd : d ≤ 1000) (h3 : -1000000 ≤ c) (h4 : c ≤ 1000000) :
    Calls Try.prog 67 #[.int .i64 m, .int .i64 d, .int .i64 k, .int .i64 c] w fun e w' => ∃ v, e = .returned (.agg #[.int .i64 m, v]) ∧ OwnI w' w.heap.size v (Ser.cut m d (Ser.mon k c)) ∧ Below w.heap.size w w' := by
  obtain ⟨W, hW⟩ : ∃ W, ((w.alloc (.cells #[.int .i64 k] 2)).alloc (.cells #[.int .i64 c] 2)).alloc (.cells #[.int .i64 0, .slice none 0 0] 30) = W := ⟨_, rfl⟩
  have hwb : Below w.heap.size w W := by rw [← hW]; exact below_alloc _ (below_alloc _ (below_one _ _))
  have b1 : Cel W w.heap.size k := by rw [← hW]; exact ((Cel.new w k).keep (below_one _ _)).keep (below_one _ _)
  have b2 : Cel W (w.heap.size + 1) c := by
    rw [← hW]
    have := (Cel.new (w.alloc (.cells #[.int .i64 k] 2)) c).keep (below_one _ (.cells #[.int .i64 0, .slice none 0 0] 30))
    simpa using this
  have v3 : Var2 W (w.heap.size + 1 + 1) (.int .i64 0) (.slice none 0 0) := by
    rw [← hW]
    have := Var2.new ((w.alloc (.cells #[.int .i64 k] 2)).alloc (.cells #[.int .i64 c] 2)) (.int .i64 0) (.slice none 0 0)
    simpa using this
  have V3 := Lib.hid v3
  have HB := Lib.hid hwb
  have HW := Lib.hid hW
  have HS := Lib.hid (seriesOf_anyG m d 101 #[.pointer (some ⟨w.heap.size, 0, none⟩), .pointer (some ⟨w.heap.size + 1, 0, none⟩)] (Ser.mon k c) W h1 h2 hd
    (fun n _ => mon_bd k c _ _ (by omega) (by omega) (by omega) (by omega) n)
    (enters_fn Try.func101 (of_decide_eq_true (by kernel_rfl)) rfl)
    (fun n W1 hn hb => monoC_any n k _ _ c W1 (b1.keep hb) (b2.keep hb)))
  obtain ⟨L, hL⟩ : ∃ L, Ser.cut m d (Ser.mon k c) = L := ⟨_, rfl⟩
  rw [hL] at HS ⊢
  clear b1 b2 v3 hwb hW hL
  go_enter Try.func67, Try.ntmps67
  go_wp2_with fail
  rw [HW.out]
  refine HS.out.mono ?_
  rintro e w2 ⟨v, rfl, ho, hb⟩
  obtain ⟨A2, c2, rfl, _⟩ := ho.form
  have hv := V3.out.keep hb
  have q0 := hv.c0
  have q1 := hv.c1
  have q2 := hv.fz 0
  have q3 := hv.fz 1
  obtain ⟨f0, f1, f2, f3⟩ := fin_var (w := w) hv ho (by have := V3.out.lt; omega) (by omega) (below_step HB.out hb) (.int .i64 m) (.slice A2 L.length c2)
  have F2 := Lib.hid f2
  have F3 := Lib.hid f3
  clear f2 f3 hv ho hb
  go_wp2
  exact bodyPost_ret (v := .agg #[.int .i64 m, .slice A2 L.length c2]) (by simp [results, Try.results67, go_sem, f0, f1]) rfl ⟨_, rfl, F2.out, F3.out⟩

theorem mul_bdG {x y : Int} (h1 : 0 ≤ x) (h2 : x ≤ 100000000) (h3 : -100000000 ≤ y) (h4 : y ≤ 100000000) : -10000000000000000 ≤ x * y ∧ x * y ≤ 10000000000000000 := by
  constructor
  · have := Int.mul_le_mul_of_nonneg_left (c := x) h3 h1
    have e : x * -100000000 = -(x * 100000000) := Int.mul_neg _ _
    omega
  · have := Int.mul_le_mul_of_nonneg_left (c := x) h4 h1
    omega
set_option maxHeartbeats 1000000 in
theorem scaledC_anyG (n : Nat) (g g' : Nat) (m : Int) (A : Option Addr) (c : Nat) (l : List Int) (k : Int) (W : World)
    (hb : Box W g m A l.length c) (hb' : Cel W g' k) (hr : RI W A l) (h1 : n < l.length) (h3 : 0 ≤ Ser.co l n) (h4 : Ser.co l n ≤ 100000000) (h5 : -100000000 ≤ k) (h6 : k ≤ 100000000) :
    Calls Try.prog 103 #[.int .i64 n, .pointer (some ⟨g, 0, none⟩), .pointer (some ⟨g', 0, none⟩)] W fun e w' => e = .returned (.int .i64 (Ser.co l n * k)) ∧ Below W.heap.size W w' := by
  obtain ⟨b, off, rfl, hlt, hc⟩ := hr.at n h1
  obtain ⟨x1, x2, _⟩ := hb
  obtain ⟨y1, _⟩ := hb'
  obtain ⟨X, hX⟩ : ∃ X, Ser.co l n = X := ⟨_, rfl⟩
  rw [hX] at hc h3 h4 ⊢
  obtain ⟨p1, p2⟩ := mul_bdG h3 h4 h5 h6
  have j1 : (0 : Int) ≤ (n : Int) := by omega
  have j2 : (n : Int) < (l.length : Int) := by omega
  clear hr hX
  go_enter Try.func103, Try.ntmps103
  go_wp2
  go_quiet (fail)
  go_wp2
  go_ret
  exact ⟨rfl, below_drewN (Below.refl _ _) _⟩

set_option maxHeartbeats 2000000 in
set_option maxRecDepth 100000 in
theorem scaled_anyG (m : Int) (d : Nat) (A : Option Addr) (c : Nat) (l : List Int) (k : Int) (w : World) (hs : SerOkG m d l) (hr : RI w A l) (h5 : -100000000 ≤ k) (h6 : k ≤ 100000000) :
    Calls Try.prog 68 #[.agg #[.int .i64 m, .slice A l.length c], .int .i64 k] w fun e w' => ∃ v, e = .returned (.agg #[.int .i64 m, v]) ∧ OwnI w' w.heap.size v (scaL m d l k) ∧ Below w.heap.size w w' := by
  obtain ⟨W, hW⟩ : ∃ W, (((w.alloc (.cells #[.int .i64 m, .slice A l.length c] 30)).alloc (.cells #[.int .i64 k] 2)).alloc (.cells #[.int .i64 0, .slice none 0 0] 30)) = W := ⟨_, rfl⟩
  have hwb : Below w.heap.size w W := by rw [← hW]; exact below_alloc _ (below_alloc _ (below_one _ _))
  have b1 : Box W w.heap.size m A l.length c := by rw [← hW]; exact ((Box.new w m A l.length c).keep (below_one _ _)).keep (below_one _ _)
  have b2 : Cel W (w.heap.size + 1) k := by
    rw [← hW]
    have := (Cel.new (w.alloc (.cells #[.int .i64 m, .slice A l.length c] 30)) k).keep (below_one _ (.cells #[.int .i64 0, .slice none 0 0] 30))
    simpa using this
  have v3 : Var2 W (w.heap.size + 1 + 1) (.int .i64 0) (.slice none 0 0) := by
    rw [← hW]
    have := Var2.new ((w.alloc (.cells #[.int .i64 m, .slice A l.length c] 30)).alloc (.cells #[.int .i64 k] 2)) (.int .i64 0) (.slice none 0 0)
    simpa using this
  have B1 := Lib.hid b1
  have B2 := Lib.hid b2
  have V3 := Lib.hid v3
  have HB := Lib.hid hwb
  have HW := Lib.hid hW
  have R1 := Lib.hid (hr.below hwb)
  have HS := Lib.hid (fun W0 (h0 : Below W.heap.size W W0) => seriesOf_anyG m d 103 #[.pointer (some ⟨w.heap.size, 0, none⟩), .pointer (some ⟨w.heap.size + 1, 0, none⟩)] (fun n => Ser.co l n * k) W0 (by have := hs.m1; omega) hs.m2 (by have := hs.d2; omega)
    (fun n _ => by have h1 := hs.red n; have h3 := hs.m2; have := mul_bdG h1.1 (by omega) h5 h6; omega)
    (enters_fn Try.func103 (of_decide_eq_true (by kernel_rfl)) rfl)
    (fun n W1 hn hb => by
      have h1 := hs.red n
      have h3 := hs.m2
      have hb2 := h0.trans (hb.mono h0.size)
      exact scaledC_anyG n _ _ m A c l k W1 (B1.out.keep hb2) (B2.out.keep hb2) (R1.out.below hb2) (by rw [hs.len]; omega) (by omega) (by omega) h5 h6))
  have HL := Lib.hid hs.len
  have HD := Lib.hid hs.d2
  obtain ⟨L, hLL⟩ : ∃ L, scaL m d l k = L := ⟨_, rfl⟩
  unfold scaL at hLL ⊢
  rw [hLL] at HS ⊢
  clear b1 b2 v3 hwb hW hr hs hLL
  go_enter Try.func68, Try.ntmps68
  go_wp2
  rw [HW.out]
  obtain ⟨x1, x2, x3⟩ := B1.out
  go_region_held3 (fun w' => w'.cell? ⟨w.heap.size, 0, none⟩ = some (.int .i64 m) ∧ w'.cell? ⟨w.heap.size, 1, none⟩ = some (.slice A l.length c) ∧ w.heap.size < w'.heap.size) (first | exact ⟨x1, x2, x3⟩ | exact box_store (by omega) (by assumption) | exact box_call (by assumption) (by assumption)) (first
    | (go_at_call 102; refine (degree_nat _ _ _ _ d _ HL.out (by have := HD.out; omega)).mono ?_; rintro e1 w1 ⟨rfl, hb1⟩)
    | (go_at_call 100; refine (HS.out _ ((below_drew0 W).trans hb1)).mono ?_; rintro e2 w2 ⟨v, rfl, ho2, hb2⟩; obtain ⟨A2, c2, rfl, _⟩ := ho2.form; have hv := V3.out.keep (((below_drew0 W).trans hb1).trans (hb2.mono ((below_drew0 W).trans hb1).size)); have q0 := hv.c0; have q1 := hv.c1; have q2 := hv.fz 0; have q3 := hv.fz 1))
  all_goals
    have hz := ((below_drew0 W).trans hb1).size
    have hg := x3
    have hw2 : Below w.heap.size w w2 := (HB.out.trans (((below_drew0 W).trans hb1).mono HB.out.size)).trans (hb2.mono (by have := HB.out.size; omega))
    obtain ⟨f0, f1, f2, f3⟩ := fin_var (w := w) hv ho2 (by have := V3.out.lt; omega) (by omega) hw2 (.int .i64 m) (.slice A2 L.length c2)
    have F2 := Lib.hid f2
    have F3 := Lib.hid f3
    clear f2 f3 hw2 ho2 hb2 hb1
    go_wp2
    refine bodyPost_ret (v := .agg #[.int .i64 m, .slice A2 L.length c2]) (by simp [results, Try.results68, go_sem, f0, f1]) rfl ⟨_, rfl, F2.out, F3.out⟩
set_option maxHeartbeats 4000000 in
theorem productAt_anyG (m : Int) (d n : Nat) (A : Option Addr) (c : Nat) (l : List Int) (m' : Int) (A' : Option Addr) (c' : Nat) (l' : List Int) (w : World) (hs : SerOkG m d l) (hs' : SerOkG m d l') (hr : RI w A l) (hr' : RI w A' l') (hn : n ≤ d) :
    Calls Try.prog 124 #[.agg #[.int .i64 m, .slice A l.length c], .agg #[.int .i64 m', .slice A' l'.length c'], .int .i64 n] w fun e w' => e = .returned (.int .i64 (Ser.cv n (Ser.co l) (Ser.co l'))) ∧ Below w.heap.size w w' := by
  obtain ⟨W, hW⟩ : ∃ W, (w.alloc (.cells #[.int .i64 m, .slice A l.length c] 30)).alloc (.cells #[.int .i64 m', .slice A' l'.length c'] 30) = W := ⟨_, rfl⟩
  obtain ⟨b1, b2, hwb⟩ := box2_new w m m' A A' l.length c l'.length c' W hW
  obtain ⟨x1, x2, _⟩ := b1
  obtain ⟨y1, y2, _⟩ := b2
  have HB := Lib.hid hwb
  have HW := Lib.hid hW
  have R1 := Lib.hid (hr.below hwb)
  have R2 := Lib.hid (hr'.below hwb)
  have HS := Lib.hid hs
  have HS' := Lib.hid hs'
  have HD := hs.d2
  obtain ⟨f, hf⟩ : ∃ f, f = fun i => Ser.co l i * Ser.co l' (n - i) := ⟨_, rfl⟩
  have HE := Lib.hid (show Ser.cv n (Ser.co l) (Ser.co l') = Ser.psum f (n + 1) by rw [hf]; exact Ser.cv_psum _ _ _)
  have HF := Lib.hid hf
  clear hwb hW hr hr' hs hs' hf
  go_enter Try.func124, Try.ntmps124
  go_wp2
  rw [HW.out]
  go_loopw [7, 8, 11] (fun s _ i wr => ∃ k : Nat, k ≤ n + 1 ∧ i = .int .i64 k ∧ s = .int .i64 (Ser.psum f k) ∧ 0 ≤ Ser.psum f k ∧ Ser.psum f k ≤ k * 10000000000000000 ∧ ∃ q, wr = W.drewN q) (fun _ _ i _ => n + 1 - (intOf i).toNat)
  case atStart => exact ⟨0, Nat.zero_le _, rfl, rfl, Int.le_refl _, Int.le_refl _, 0, rfl⟩
  case round =>
    obtain ⟨k, hk, rfl, rfl, z1, z2, q, rfl⟩ := hrel
    by_cases hlt : k < n + 1
    · obtain ⟨b, off, rfl, hb, hc⟩ := R1.out.at k (by have := HS.out.len; omega)
      obtain ⟨b', off', rfl, hb', hc'⟩ := R2.out.at (n - k) (by have := HS'.out.len; omega)
      have r1 := HS.out.red k
      have r2 := HS'.out.red (n - k)
      have m2 := HS.out.m2
      have hst : Ser.psum f (k + 1) = Ser.psum f k + Ser.co l k * Ser.co l' (n - k) := by rw [Ser.psum, HF.out]
      obtain ⟨X, hX⟩ : ∃ X, Ser.co l k = X := ⟨_, rfl⟩
      obtain ⟨Y, hY⟩ : ∃ Y, Ser.co l' (n - k) = Y := ⟨_, rfl⟩
      obtain ⟨P, hP⟩ : ∃ P, Ser.psum f k = P := ⟨_, rfl⟩
      rw [hX] at hc r1 hst
      rw [hY] at hc' r2 hst
      rw [hP] at z1 z2 hst
      obtain ⟨p1, p2⟩ := mul_bdG (x := X) (y := Y) r1.1 (by omega) (by omega) (by omega)
      have p3 : 0 ≤ X * Y := Int.mul_nonneg r1.1 r2.1
      have l1 := HS.out.len
      have l2 := HS'.out.len
      have j0 : (0 : Int) ≤ (k : Int) := by omega
      have j1 : (k : Int) < (l.length : Int) := by omega
      have j3 : (0 : Int) ≤ (n : Int) - (k : Int) := by omega
      have j4 : (n : Int) - (k : Int) < (l'.length : Int) := by omega
      have j5 : ((n : Int) - (k : Int)).toNat = n - k := by omega
      have HST := Lib.hid hst
      have HP := Lib.hid hP
      clear hX hY hP hst l1 l2
      rw [HP.out]
      go_wp2
      go_quiet (fail)
      go_wp2
      go_roundw
      case rel => exact ⟨k + 1, by omega, by go_num, by rw [HST.out], by rw [HST.out]; omega, by rw [HST.out]; omega, _, rfl⟩
      case measure => simp only [intOf]; omega
    · obtain rfl : k = n + 1 := by omega
      go_wp2
      go_ret
      exact ⟨ret_int HE.out.symm, below_drewN HB.out _⟩
theorem cv_bdG {m : Int} {l l' : List Int} (m2 : m ≤ 100000000) (h : Ser.Red m l) (h' : Ser.Red m l') (n : Nat) (hn : n ≤ 50) : 0 ≤ Ser.cv n (Ser.co l) (Ser.co l') ∧ Ser.cv n (Ser.co l) (Ser.co l') ≤ 510000000000000000 := by
  rw [Ser.cv_psum]
  have := psum_bd (fun i => Ser.co l i * Ser.co l' (n - i)) 10000000000000000 (fun i => by
    have h1 := h i
    have h2 := h' (n - i)
    exact ⟨Int.mul_nonneg h1.1 h2.1, (mul_bdG h1.1 (by omega) (by omega) (by omega)).2⟩) (n + 1)
  refine ⟨this.1, Int.le_trans this.2 ?_⟩
  omega

set_option maxHeartbeats 1000000 in
theorem timesC_anyG (n : Nat) (g g' : Nat) (m : Int) (d : Nat) (A : Option Addr) (c : Nat) (l : List Int) (m' : Int) (A' : Option Addr) (c' : Nat) (l' : List Int) (W : World)
    (hb : Box W g m A l.length c) (hb' : Box W g' m' A' l'.length c') (hs : SerOkG m d l) (hs' : SerOkG m d l') (hr : RI W A l) (hr' : RI W A' l') (hn : n ≤ d) :
    Calls Try.prog 123 #[.int .i64 n, .pointer (some ⟨g, 0, none⟩), .pointer (some ⟨g', 0, none⟩)] W fun e w' => e = .returned (.int .i64 (Ser.cv n (Ser.co l) (Ser.co l'))) ∧ Below W.heap.size W w' := by
  obtain ⟨x1, x2, _⟩ := hb
  obtain ⟨y1, y2, _⟩ := hb'
  have HP := Lib.hid (productAt_anyG m d n A c l m' A' c' l' W hs hs' hr hr' hn)
  clear hs hs' hr hr'
  go_enter Try.func123, Try.ntmps123
  go_wp2_with fail
  refine HP.out.mono ?_
  rintro e w1 ⟨rfl, hb1⟩
  go_wp2
  go_ret
  exact ⟨rfl, hb1⟩

set_option maxHeartbeats 2000000 in
set_option maxRecDepth 100000 in
theorem times_anyG (m : Int) (d : Nat) (A : Option Addr) (c : Nat) (l : List Int) (m' : Int) (A' : Option Addr) (c' : Nat) (l' : List Int) (w : World) (hs : SerOkG m d l) (hs' : SerOkG m d l') (hr : RI w A l) (hr' : RI w A' l') :
    Calls Try.prog 111 #[.agg #[.int .i64 m, .slice A l.length c], .agg #[.int .i64 m', .slice A' l'.length c']] w fun e w' => ∃ v, e = .returned (.agg #[.int .i64 m, v]) ∧ OwnI w' w.heap.size v (Ser.mulL m d l l') ∧ Below w.heap.size w w' := by
  obtain ⟨W, hW⟩ : ∃ W, (((w.alloc (.cells #[.int .i64 m, .slice A l.length c] 30)).alloc (.cells #[.int .i64 m', .slice A' l'.length c'] 30)).alloc (.cells #[.int .i64 0, .slice none 0 0] 30)) = W := ⟨_, rfl⟩
  obtain ⟨b1, b2, v3, hwb⟩ := box3_new w m m' A A' l.length c l'.length c' W hW
  have B1 := Lib.hid b1
  have B2 := Lib.hid b2
  have V3 := Lib.hid v3
  have HB := Lib.hid hwb
  have HW := Lib.hid hW
  have R1 := Lib.hid (hr.below hwb)
  have R2 := Lib.hid (hr'.below hwb)
  have HS := Lib.hid (fun W0 (h0 : Below W.heap.size W W0) => seriesOf_anyG m d 123 #[.pointer (some ⟨w.heap.size, 0, none⟩), .pointer (some ⟨w.heap.size + 1, 0, none⟩)] (Ser.mul (Ser.co l) (Ser.co l')) W0 (by have := hs.m1; omega) hs.m2 (by have := hs.d2; omega)
    (fun n hn => by have := cv_bdG hs.m2 hs.red hs'.red n (by have := hs.d2; omega); rw [Ser.mul_at]; omega)
    (enters_fn Try.func123 (of_decide_eq_true (by kernel_rfl)) rfl)
    (fun n W1 hn hb => by
      have hb2 := h0.trans (hb.mono h0.size)
      exact timesC_anyG n _ _ m d A c l m' A' c' l' W1 (B1.out.keep hb2) (B2.out.keep hb2) hs hs' (R1.out.below hb2) (R2.out.below hb2) hn))
  have HL := Lib.hid hs.len
  have HD := Lib.hid hs.d2
  obtain ⟨L, hLL⟩ : ∃ L, Ser.mulL m d l l' = L := ⟨_, rfl⟩
  unfold Ser.mulL at hLL ⊢
  rw [hLL] at HS ⊢
  clear b1 b2 v3 hwb hW hr hr' hs hs' hLL
  go_enter Try.func111, Try.ntmps111
  go_wp2
  rw [HW.out]
  obtain ⟨x1, x2, x3⟩ := B1.out
  go_region_held3 (fun w' => w'.cell? ⟨w.heap.size, 0, none⟩ = some (.int .i64 m) ∧ w'.cell? ⟨w.heap.size, 1, none⟩ = some (.slice A l.length c) ∧ w.heap.size < w'.heap.size) (first | exact ⟨x1, x2, x3⟩ | exact box_store (by omega) (by assumption) | exact box_call (by assumption) (by assumption)) (first
    | (go_at_call 102; refine (degree_nat _ _ _ _ d _ HL.out (by have := HD.out; omega)).mono ?_; rintro e1 w1 ⟨rfl, hb1⟩)
    | (go_at_call 100; refine (HS.out _ ((below_drew0 W).trans hb1)).mono ?_; rintro e2 w2 ⟨v, rfl, ho2, hb2⟩; obtain ⟨A2, c2, rfl, _⟩ := ho2.form; have hv := V3.out.keep (((below_drew0 W).trans hb1).trans (hb2.mono ((below_drew0 W).trans hb1).size)); have q0 := hv.c0; have q1 := hv.c1; have q2 := hv.fz 0; have q3 := hv.fz 1))
  all_goals
    have hz := ((below_drew0 W).trans hb1).size
    have hg := x3
    have hw2 : Below w.heap.size w w2 := (HB.out.trans (((below_drew0 W).trans hb1).mono HB.out.size)).trans (hb2.mono (by have := HB.out.size; omega))
    obtain ⟨f0, f1, f2, f3⟩ := fin_var (w := w) hv ho2 (by have := V3.out.lt; omega) (by omega) hw2 (.int .i64 m) (.slice A2 L.length c2)
    have F2 := Lib.hid f2
    have F3 := Lib.hid f3
    clear f2 f3 hw2 ho2 hb2 hb1
    go_wp2
    refine bodyPost_ret (v := .agg #[.int .i64 m, .slice A2 L.length c2]) (by simp [results, Try.results111, go_sem, f0, f1]) rfl ⟨_, rfl, F2.out, F3.out⟩

end Go.Proofs.Ytakdmnecllcmnaa

/- Variables of series: what a store into one leaves alone; making one of a monomial. -/
namespace Go.Proofs.Ytakdmnecllcmnaa
open Go.RowKit Go.WideShapes Go.ChangeShapes Go.ChangeAt

theorem t_ne : ¬ (2 : TypeId) = (30 : TypeId) := by decide
theorem own_ne_var {w : World} {g base : Nat} {x y : Value} {v : Value} {l : List Int} (hv : Var2 w g x y) (h : OwnI w base v l) : v.ownBlock ≠ some g := by
  intro e
  unfold OwnI at h
  unfold Var2 at hv
  rcases h.2 with ⟨rfl, _⟩ | ⟨g', cap, cur, rfl, _, hg, _⟩
  · simp [Value.ownBlock] at e
  · simp [Value.ownBlock] at e
    subst e
    rw [hg] at hv
    injection hv with hv
    injection hv with _ hv
    exact t_ne hv
theorem OwnI.set2 {w : World} {g base : Nat} {x y : Value} {v : Value} {l : List Int} (h : OwnI w base v l) (hv : Var2 w g x y) (x' y' : Value) : OwnI (set2 w g x' y') base v l :=
  h.other (grown_set2 w g x' y') (.inr (own_ne_var hv h))
theorem Var2.set2' {w : World} {g g' : Nat} {x y : Value} (h : Var2 w g x y) (hne : g' ≠ g) (x' y' : Value) : Var2 (Proofs.Ytakdmnecllcmnaa.set2 w g' x' y') g x y := (h.far g' 0 x' hne).far g' 1 y' hne
theorem RI.set2 {w : World} {g : Nat} {x : Int} {A' : Option Addr} {n c : Nat} {A : Option Addr} {l : List Int} (h : RI w A l) (hv : Var2 w g (.int .i64 x) (.slice A' n c)) (hl : 2 ≤ l.length) (x' y' : Value) : RI (Proofs.Ytakdmnecllcmnaa.set2 w g x' y') A l := by
  intro hne
  obtain ⟨b, off, e, hlt, hc⟩ := h hne
  have hbg : b ≠ g := by
    rintro rfl
    have h0 := hc 0 (by omega)
    have h1 := hc 1 (by omega)
    unfold Var2 at hv
    simp only [World.cell?, hv] at h0 h1
    match off, h0, h1 with
    | 0, h0, h1 => simp at h1
    | off + 1, h0, h1 => simp at h1
  refine ⟨b, off, e, by simpa [Proofs.Ytakdmnecllcmnaa.set2, World.setCell] using hlt, fun k hk => ?_⟩
  have h1 : (w.setCell ⟨g, 0, none⟩ x').cell? ⟨b, off + k, none⟩ = w.cell? ⟨b, off + k, none⟩ := World.cell?_setCell_other _ _ _ _ (by intro e; injection e with e; exact hbg e.symm)
  have h2 : (Proofs.Ytakdmnecllcmnaa.set2 w g x' y').cell? ⟨b, off + k, none⟩ = (w.setCell ⟨g, 0, none⟩ x').cell? ⟨b, off + k, none⟩ := World.cell?_setCell_other _ _ _ _ (by intro e; injection e with e; exact hbg e.symm)
  rw [h2, h1]
  exact hc k hk
theorem RI.drew {w : World} {A : Option Addr} {l : List Int} (h : RI w A l) : RI w.drew A l := h

/-- a variable made of a result: the store comes into a variable that lay there before the call, or into a new one -/
theorem reg_fin2 {wk cur wd : World} {g : Nat} {A : Option Addr} {n c : Nat} {l : List Int} {x y : Value} (hk : wk.heap.size ≤ g) (hgc : g < cur.heap.size) (hv : Var2 wd g x y) (ho : OwnI wd cur.heap.size (.slice A n c) l) (hb : Below wk.heap.size wk wd) (M : Int) :
    Var2 ((wd.setCell ⟨g, 0, none⟩ (.int .i64 M)).setCell ⟨g, 1, none⟩ (.slice A n c)) g (.int .i64 M) (.slice A n c) ∧ OwnI ((wd.setCell ⟨g, 0, none⟩ (.int .i64 M)).setCell ⟨g, 1, none⟩ (.slice A n c)) wk.heap.size (.slice A n c) l ∧
    Below wk.heap.size wk ((wd.setCell ⟨g, 0, none⟩ (.int .i64 M)).setCell ⟨g, 1, none⟩ (.slice A n c)) ∧ wk.heap.size ≤ g := by
  obtain ⟨f0, f1, f2, f3⟩ := fin_var (w := wk) hv ho hgc hk hb (.int .i64 M) (.slice A n c)
  exact ⟨hv.set2 _ _, f2, f3, hk⟩
theorem reg_new2 {wk cur wd : World} {A : Option Addr} {n c : Nat} {l : List Int} (hk : wk.heap.size ≤ cur.heap.size) (ho : OwnI wd cur.heap.size (.slice A n c) l) (hb : Below wk.heap.size wk wd) (M : Int) :
    Var2 (wd.alloc (.cells #[.int .i64 M, .slice A n c] 30)) wd.heap.size (.int .i64 M) (.slice A n c) ∧ OwnI (wd.alloc (.cells #[.int .i64 M, .slice A n c] 30)) wk.heap.size (.slice A n c) l ∧
    Below wk.heap.size wk (wd.alloc (.cells #[.int .i64 M, .slice A n c] 30)) ∧ wk.heap.size ≤ wd.heap.size :=
  ⟨Var2.new _ _ _, (ho.keep (below_one _ _)).more hk, below_alloc _ hb, hb.size⟩
theorem one_in {W w' : World} {g : Nat} {m : Int} {A : Option Addr} {n c : Nat} (h : Box W g m A n c) (hb : Below W.heap.size W w') :
    (w'.cell? ⟨g, 0, none⟩ = some (.int .i64 m) ∧ w'.cell? ⟨g, 1, none⟩ = some (.slice A n c)) ∧ True ∧ Below W.heap.size W w' := ⟨box_in h hb, trivial, hb⟩
end Go.Proofs.Ytakdmnecllcmnaa

/- Contract of powerOf, for series. -/
namespace Go.Proofs.Ytakdmnecllcmnaa
open Go.RowKit Go.WideShapes Go.ChangeShapes Go.ChangeAt

/-- the power with exponent k + 1 -/
def powG (m : Int) (d : Nat) (l : List Int) : Nat → List Int
  | 0 => l
  | k + 1 => Ser.mulL m d (powG m d l k) l
theorem powG_ok {m : Int} {d : Nat} {l : List Int} (h : SerOkG m d l) : ∀ k, SerOkG m d (powG m d l k)
  | 0 => h
  | _ + 1 => h.cut _
theorem co_line {m : Int} {d : Nat} (a : Nat → Int) : Ser.Eq m d (Ser.co (Ser.cut m d a)) a := Ser.co_cut_eq m d a
theorem powG_line (m : Int) (d : Nat) : ∀ k, powG m d (Ser.cut m d (Ser.mon 1 1)) k = Ser.cut m d (Ser.mon (k + 1) 1)
  | 0 => rfl
  | k + 1 => by
    rw [powG, powG_line m d k]
    unfold Ser.mulL
    refine Ser.cut_congr ((Ser.Eq.mul (co_line _) (co_line _)).trans (Ser.Eq.of m d (fun i _ => ?_)))
    rw [Ser.mul_comm]
    show Ser.cv i (Ser.mon 1 1) (Ser.mon (k + 1) 1) = _
    rw [Ser.cv_t]
    unfold Ser.mon
    by_cases h : i = 0
    · rw [if_pos h, if_neg (by omega)]
    · rw [if_neg h]
      by_cases h2 : i - 1 = k + 1
      · rw [if_pos h2, if_pos (by omega)]
      · rw [if_neg h2, if_neg (by omega)]
set_option maxHeartbeats 4000000 in
set_option maxRecDepth 100000 in
theorem powerS_any (m : Int) (d : Nat) (A : Option Addr) (c : Nat) (l : List Int) (k : Nat) (w : World) (hs : SerOkG m d l) (hk : k ≤ 1000000) (hr : RI w A l) :
    Calls Try.prog 71 #[.agg #[.int .i64 m, .slice A l.length c], .int .i64 ((k : Int) + 1)] w fun e w' => ∃ A1 c1, e = .returned (.agg #[.int .i64 m, .slice A1 (d + 1) c1]) ∧ RI w' A1 (powG m d l k) ∧ Below w.heap.size w w' := by
  have HS := Lib.hid hs
  have HM := Lib.hid (fun (j : Nat) A1 c1 W0 (h1 : RI W0 A1 (powG m d l j)) (h2 : RI W0 A l) => by
    have := times_anyG m d A1 c1 (powG m d l j) m A c l W0 (powG_ok hs j) hs h1 h2
    rw [(powG_ok hs j).len] at this
    exact this)
  have HLP := Lib.hid (fun j => (powG_ok hs j).len)
  obtain ⟨L, hL⟩ : ∃ L, l.length = L := ⟨_, rfl⟩
  have hLd : L = d + 1 := by rw [← hL]; exact hs.len
  rw [hL] at HM ⊢
  subst hLd
  obtain ⟨W, hW⟩ : ∃ W, (((w.alloc (.cells #[.int .i64 m, .slice A (d + 1) c] 30)).alloc (.cells #[.int .i64 0, .slice none 0 0] 30)).alloc (.cells #[.int .i64 m, .slice A (d + 1) c] 30)) = W := ⟨_, rfl⟩
  have hwb : Below w.heap.size w W := by rw [← hW]; exact below_alloc _ (below_alloc _ (below_one _ _))
  have v0 : Var2 W w.heap.size (.int .i64 m) (.slice A (d + 1) c) := by
    rw [← hW]
    exact (((Var2.new w (.int .i64 m) (.slice A (d + 1) c)).keep (below_one _ (.cells #[.int .i64 0, .slice none 0 0] 30))).keep (below_one _ (.cells #[.int .i64 m, .slice A (d + 1) c] 30)))
  have v1 : Var2 W (w.heap.size + 1) (.int .i64 0) (.slice none 0 0) := by
    rw [← hW]
    have := (Var2.new (w.alloc (.cells #[.int .i64 m, .slice A (d + 1) c] 30)) (.int .i64 0) (.slice none 0 0)).keep (below_one _ (.cells #[.int .i64 m, .slice A (d + 1) c] 30))
    simpa using this
  have v2 : Var2 W (w.heap.size + 1 + 1) (.int .i64 m) (.slice A (d + 1) c) := by
    rw [← hW]
    have := Var2.new ((w.alloc (.cells #[.int .i64 m, .slice A (d + 1) c] 30)).alloc (.cells #[.int .i64 0, .slice none 0 0] 30)) (.int .i64 m) (.slice A (d + 1) c)
    simpa using this
  have HW := Lib.hid hW
  have HB := Lib.hid hwb
  have V0 := Lib.hid v0
  have V1 := Lib.hid v1
  have V2 := Lib.hid v2
  have HRW := Lib.hid (hr.below hwb)
  have HR0 := Lib.hid hr
  have mh := fun (a b : Value) (w : World) => (show (method 242 30 (.agg #[a, b]) "loop.example/g01152/impl.times").run Try.prog w = .ok (111, .agg #[a, b]) w by kernel_rfl)
  clear hwb hW v0 v1 v2 hs hr hL
  go_enter Try.func71, Try.ntmps71
  go_upto_region 2 with fail
  rw [HW.out]
  go_wp2
  go_loopw [9] (fun s9 wr => ∃ (j : Nat) (A1 : Option Addr) (c1 : Nat), j ≤ k ∧ s9 = .int .i64 j ∧ Var2 wr w.heap.size (.int .i64 m) (.slice A (d + 1) c) ∧ Var2 wr (w.heap.size + 1) (.int .i64 0) (.slice none 0 0) ∧ Var2 wr (w.heap.size + 1 + 1) (.int .i64 m) (.slice A1 (d + 1) c1) ∧ RI wr A1 (powG m d l j) ∧ Below w.heap.size w wr) (fun s9 _ => k + 1 - (intOf s9).toNat)
  case atStart => exact ⟨0, A, c, Nat.zero_le _, rfl, V0.out, V1.out, V2.out, HRW.out, HB.out⟩
  case round =>
    clear V0 V1 V2 HB HW HRW
    obtain ⟨j, A1, c1, hj, rfl, v0, v1, v2, hri, hb⟩ := hrel
    have V0 := Lib.hid v0
    have V1 := Lib.hid v1
    have V2 := Lib.hid v2
    have HB := Lib.hid hb
    have HRI := Lib.hid hri
    by_cases hlt : j < k
    · have a0 := v0.c0
      have b0 := v0.c1
      have a2 := v2.c0
      have b2 := v2.c1
      have i1 : (j : Int) < (k : Int) := by omega
      clear v0 v1 v2 hb hri
      go_wp2_with fail
      refine (HM.out j A1 c1 wr HRI.out (HR0.out.below HB.out)).mono ?_
      rintro e w1 ⟨v, rfl, ho, hb1⟩
      obtain ⟨A2, c2, hv2, -⟩ := ho.form
      subst hv2
      have hlen := HLP.out (j + 1)
      change OwnI w1 wr.heap.size _ (powG m d l (j + 1)) at ho
      rw [show (Ser.mulL m d (powG m d l j) l).length = d + 1 from hlen] at ho ⊢
      have hv2 := V2.out.keep hb1
      have q0 := hv2.c0
      have q1 := hv2.c1
      have q2 := hv2.fz 0
      have q3 := hv2.fz 1
      obtain ⟨X, hX⟩ : ∃ X, set2 w1 (w.heap.size + 1 + 1) (.int .i64 m) (.slice A2 (d + 1) c2) = X := ⟨_, rfl⟩
      have nb : Below w.heap.size w X := by rw [← hX]; exact below_set2 (below_step HB.out hb1) (by omega) _ _
      have n2 : Var2 X (w.heap.size + 1 + 1) (.int .i64 m) (.slice A2 (d + 1) c2) := by rw [← hX]; exact hv2.set2 _ _
      have n0 : Var2 X w.heap.size (.int .i64 m) (.slice A (d + 1) c) := by rw [← hX]; exact (V0.out.keep hb1).set2' (by omega) _ _
      have n1 : Var2 X (w.heap.size + 1) (.int .i64 0) (.slice none 0 0) := by rw [← hX]; exact (V1.out.keep hb1).set2' (by omega) _ _
      have nr : RI X A2 (powG m d l (j + 1)) := by rw [← hX]; exact (ho.set2 hv2 _ _).ri
      have HX := Lib.hid hX
      have NB := Lib.hid nb
      have N0 := Lib.hid n0
      have N1 := Lib.hid n1
      have N2 := Lib.hid n2
      have NR := Lib.hid nr
      unfold set2 at HX
      clear hX nb n0 n1 n2 nr hv2 hb1 ho hlen
      go_wp2
      rw [HX.out]
      go_roundw
      case rel => exact ⟨j + 1, A2, c2, by omega, by go_num, N0.out, N1.out, N2.out, NR.out, NB.out⟩
      case measure => simp only [intOf]; omega
    · obtain rfl : j = k := by omega
      have a1 := v1.c0
      have b1 := v1.c1
      have e1 := v1.fz 0
      have e2 := v1.fz 1
      have a2 := v2.c0
      have b2 := v2.c1
      have n1 := v1.set2 (.int .i64 m) (.slice A1 (d + 1) c1)
      have f0 := n1.c0
      have f1 := n1.c1
      have HR := Lib.hid (hri.set2 v1 (by rw [HLP.out j]; have := HS.out.d1; omega) (.int .i64 m) (.slice A1 (d + 1) c1))
      have HF := Lib.hid (below_set2 hb (show w.heap.size ≤ w.heap.size + 1 by omega) (.int .i64 m) (.slice A1 (d + 1) c1))
      unfold set2 at f0 f1 HR HF
      clear v0 v1 v2 hb n1 hri
      go_wp2
      exact bodyPost_ret (v := .agg #[.int .i64 m, .slice A1 (d + 1) c1]) (by simp [results, Try.results71, go_sem, f0, f1]) rfl ⟨A1, c1, rfl, HR.out, HF.out⟩

end Go.Proofs.Ytakdmnecllcmnaa

/- Contracts of CutSeries, of the program and of the model. -/
namespace Go.Proofs.Ytakdmnecllcmnaa
open Go.RowKit Go.WideShapes Go.ChangeShapes Go.ChangeAt

def cutM (m : Int) (l : List Int) (k : Int) : Int × List Int × Int :=
  if isS m l = true then (if inB k 1 ((l.length : Int) - 1) = true then (m, l.take (k.toNat + 1), 0) else (0, [], 2)) else (0, [], 1)
theorem cutM_len (m : Int) (l : List Int) (k : Int) : (cutM m l k).2.1.length ≤ 1048576 := by
  unfold cutM
  split
  · rename_i h
    obtain ⟨d, e, s⟩ := serOk_of h
    have := s.d2
    split
    · dsimp only; rw [List.length_take]; omega
    · simp
  · simp
theorem RI.take {w : World} {A : Option Addr} {l : List Int} (h : RI w A l) (n : Nat) : RI w A (l.take n) := by
  intro hl
  have hl2 : l ≠ [] := by rintro rfl; simp at hl
  obtain ⟨b, off, e, hlt, hc⟩ := h hl2
  refine ⟨b, off, e, hlt, fun k hk => ?_⟩
  rw [List.length_take] at hk
  rw [hc k (by omega), List.getElem?_take_of_lt (by omega)]

theorem OwnI.cap {w : World} {base : Nat} {A : Option Addr} {n c : Nat} {l : List Int} (h : OwnI w base (.slice A n c) l) : l.length ≤ c := by
  unfold OwnI at h
  rcases h.2 with ⟨hv, h0⟩ | ⟨g, cap, cur, hv, _, _, h1, _⟩
  · omega
  · injection hv with _ _ e
    subst e
    exact h1
theorem RI.news {w : World} {A : Option Addr} {l : List Int} (h : RI w A l) (hl : l ≠ []) : ∃ b off, A = some ⟨b, off, none⟩ ∧ ∀ j u, (l.map (Value.int .i64))[j]? = some u → w.cell? ((⟨b, off, none⟩ : Addr).add j) = some u := by
  obtain ⟨b, off, e, hlt, hc⟩ := h hl
  refine ⟨b, off, e, fun j u hj => ?_⟩
  rw [List.getElem?_map] at hj
  by_cases hjl : j < l.length
  · rw [List.getElem?_eq_getElem hjl] at hj
    simp only [Option.map_some, Option.some.injEq] at hj
    subst hj
    rw [add_plain, hc j hjl, List.getElem?_eq_getElem hjl]; rfl
  · rw [List.getElem?_eq_none (by omega)] at hj
    simp at hj
theorem cells1 (l : List Int) : ∀ v ∈ l.map (Value.int .i64), v.oneCell' = true := by
  intro v hv
  obtain ⟨x, _, rfl⟩ := List.mem_map.1 hv
  rfl
theorem OwnI.empty' (w : World) : World.ownsRow (w.alloc (.cells #[] 2)) w.heap.size 2 1 (.slice (some ⟨w.heap.size, 0, none⟩) 0 0) 0 [] := OwnI.empty w
set_option maxHeartbeats 2000000 in
theorem l01Own_any (A : Option Addr) (c : Nat) (l : List Int) (w : World) (hne : l ≠ []) (hl : l.length ≤ 1000) (hr : RI w A l) :
    Calls Try.prog 50 #[.slice A l.length c] w fun e w' => ∃ v, e = .returned v ∧ OwnI w' w.heap.size v l ∧ Below w.heap.size w w' := by
  obtain ⟨Z, hZ⟩ : ∃ Z, l.map (Value.int .i64) = Z := ⟨_, rfl⟩
  have hZl : Z.length = l.length := by rw [← hZ, List.length_map]
  have hZ1 : ∀ v ∈ Z, v.oneCell' = true := by rw [← hZ]; exact cells1 l
  obtain ⟨b, off, rfl, hn⟩ := (hr.below (below_one w (.cells #[] 2))).news hne
  rw [hZ] at hn
  obtain ⟨i0, hi, hz0, hz1, hz2⟩ := info_parts info64
  have HZ := Lib.hid hZ
  have HZL := Lib.hid hZl
  have HN := Lib.hid hn
  have HO := Lib.hid (OwnI.empty' w)
  clear hZ hZl hn hr
  go_enter Try.func50, Try.ntmps50
  go_wp2_with (at_builtin; refine wpList_append_own _ (by rfl) _ _ _ (by rfl) w.heap.size 2 i0 (.int .i64 0) 1 8 Try.underlying22 hi hz0 hz1 hz2 rfl (by decide) _ 0 [] (by rfl) HO.out _ l.length _ Z (by rfl) (by rw [HZL.out]; omega) HN.out hZ1 (by unfold maxLen; omega) (by omega) (by simp) ?_; intro v' w2 h2 h3 _)
  have HF : Hid (OwnI w2 w.heap.size v' l) := by
    refine Lib.hid ?_
    unfold OwnI
    rw [HZ.out]
    simpa using h2
  have HB := Lib.hid ((below_one w (.cells #[] 2)).grown h3 (by simp) (fun k hk => by simp [Value.ownBlock] at hk; omega))
  clear h2 h3
  go_wp2
  go_ret
  exact ⟨_, rfl, HF.out, HB.out⟩

end Go.Proofs.Ytakdmnecllcmnaa

/- Contracts of neededCount and neededOf. -/
namespace Go.Proofs.Ytakdmnecllcmnaa
open Go.RowKit Go.WideShapes Go.ChangeShapes Go.ChangeAt

/-- the number of k from 1 on with p^k at most d, for p at least 2 and d at most 10 -/
def needN (p d : Nat) : Nat := ((List.range 4).filter fun j => p ^ (j + 1) ≤ d).length
theorem needN_le3 : ∀ p ∈ [2, 3, 5, 7], ∀ d ∈ List.range 11, needN p d ≤ 3 := by decide
theorem needN_is : ∀ p ∈ [2, 3, 5, 7], ∀ d ∈ List.range 11, ∀ k ∈ List.range 5, (k = 0 ∨ p ^ k ≤ d) → d < p ^ (k + 1) → needN p d = k := by decide
theorem needN_at : ∀ p ∈ [2, 3, 5, 7], ∀ d ∈ List.range 11, ∀ k ∈ List.range 5, (1 ≤ k ∧ k ≤ needN p d ↔ 1 ≤ k ∧ p ^ k ≤ d) := by decide
theorem in4 {p : Nat} (h : p = 2 ∨ p = 3 ∨ p = 5 ∨ p = 7) : p ∈ [2, 3, 5, 7] := by simp; exact h
theorem pow_lt11 {p : Nat} (h : p = 2 ∨ p = 3 ∨ p = 5 ∨ p = 7) {k d : Nat} (hd : d ≤ 10) (hk : p ^ k ≤ d) : k ≤ 3 := by
  apply Classical.byContradiction
  intro hn
  have h1 : 2 ^ 4 ≤ p ^ 4 := Nat.pow_le_pow_left (by omega) 4
  have h2 : p ^ 4 ≤ p ^ k := Nat.pow_le_pow_right (by omega) (by omega)
  omega
set_option maxHeartbeats 1000000 in
theorem neededCount_any (p d : Nat) (w : World) (hp : p = 2 ∨ p = 3 ∨ p = 5 ∨ p = 7) (hd : d ≤ 10) :
    Calls Try.prog 56 #[.int .i64 p, .int .i64 d] w fun e w' => e = .returned (.int .i64 (needN p d)) ∧ w = w' := by
  have HL := Lib.hid (fun k (h : p ^ k ≤ d) => pow_lt11 hp hd h)
  have HE := Lib.hid (fun k (hk : k ≤ 3) (h1 : k = 0 ∨ p ^ k ≤ d) (h2 : d < p ^ (k + 1)) => needN_is p (in4 hp) d (List.mem_range.2 (by omega)) k (List.mem_range.2 (by omega)) h1 h2)
  have hp7 : p ≤ 7 := by omega
  clear hp
  go_enter Try.func56, Try.ntmps56
  go_wp2
  go_loop [5, 6] (fun s5 s6 => ∃ k : Nat, k ≤ 3 ∧ (k = 0 ∨ p ^ k ≤ d) ∧ s5 = .int .i64 k ∧ s6 = .int .i64 (p ^ (k + 1) : Nat)) (fun s5 _ => 4 - (intOf s5).toNat)
  case atStart => exact ⟨0, by omega, .inl rfl, rfl, by rw [Nat.zero_add, Nat.pow_one]⟩
  case round =>
    obtain ⟨k, hk, hk2, rfl, rfl⟩ := hrel
    have HK := Lib.hid hk2
    obtain ⟨q, hq⟩ : ∃ q, p ^ (k + 1) = q := ⟨_, rfl⟩
    have HQ := Lib.hid hq
    rw [hq]
    clear hq hk2
    by_cases hlt : q ≤ d
    · have i1 : (q : Int) ≤ (d : Int) := by omega
      have h3 := HL.out (k + 1) (by rw [HQ.out]; exact hlt)
      have hm : 0 ≤ (q : Int) * (p : Int) ∧ (q : Int) * (p : Int) ≤ 70 := by
        refine ⟨Int.mul_nonneg (by omega) (by omega), ?_⟩
        have := Int.mul_le_mul (show (q : Int) ≤ 10 by omega) (show (p : Int) ≤ 7 by omega) (by omega) (by omega)
        omega
      have HM := Lib.hid (show (q : Int) * (p : Int) = ((p ^ (k + 1 + 1) : Nat) : Int) by rw [Nat.pow_succ, HQ.out, Int.natCast_mul])
      go_wp2
      go_round
      case rel => exact ⟨k + 1, by omega, .inr (by rw [HQ.out]; exact hlt), by go_num, by rw [HM.out]⟩
      case measure => simp only [intOf]; omega
    · have i1 : ¬ (q : Int) ≤ (d : Int) := by omega
      have HN := Lib.hid (HE.out k hk HK.out (by rw [HQ.out]; omega))
      go_wp2
      go_ret
      exact ⟨ret_int (by rw [HN.out]), rfl⟩
/-- the first c numbers of a list; missing ones are 0 -/
def ndL (c : Nat) (l : List Int) : List Int := (List.range c).map (Ser.co l)
theorem ndL_length (c : Nat) (l : List Int) : (ndL c l).length = c := by simp [ndL]
theorem ndL_co (c : Nat) (l : List Int) (i : Nat) : Ser.co (ndL c l) i = if i < c then Ser.co l i else 0 := by
  by_cases h : i < c
  · rw [if_pos h]
    unfold ndL
    show ((List.range c).map (Ser.co l))[i]?.getD 0 = _
    rw [List.getElem?_map, List.getElem?_range h]; rfl
  · rw [if_neg h, Ser.co_over (by rw [ndL_length]; omega)]
theorem ndL_splice (c : Nat) (l : List Int) : splice (List.replicate c (Value.int .i64 0)) 0 ((l.take c).map (Value.int .i64)) = (ndL c l).map (Value.int .i64) := by
  unfold splice
  rw [List.take_zero, List.nil_append, Nat.zero_add]
  apply List.ext_getElem?
  intro i
  unfold ndL
  rw [List.map_map, List.getElem?_map, List.getElem?_append, List.length_map, List.length_take]
  by_cases h1 : i < min c l.length
  · rw [if_pos h1, List.getElem?_map, List.getElem?_take_of_lt (by omega), List.getElem?_eq_getElem (by omega), List.getElem?_range (by omega)]
    show some (Value.int .i64 l[i]) = some (Value.int .i64 (Ser.co l i))
    unfold Ser.co
    rw [List.getElem?_eq_getElem (by omega)]; rfl
  · rw [if_neg h1, List.getElem?_drop, List.getElem?_replicate]
    by_cases h2 : i < c
    · rw [if_pos (by omega), List.getElem?_range h2]
      show some (Value.int .i64 0) = some (Value.int .i64 (Ser.co l i))
      rw [Ser.co_over (by omega)]
    · rw [if_neg (by omega), List.getElem?_eq_none (by simp; omega)]; rfl
set_option maxHeartbeats 2000000 in
theorem neededOf_any (p d : Nat) (A : Option Addr) (c : Nat) (l : List Int) (w : World) (hp : p = 2 ∨ p = 3 ∨ p = 5 ∨ p = 7) (hd : d ≤ 10) (hr : RI w A l) :
    Calls Try.prog 69 #[.int .i64 p, .int .i64 d, .slice A l.length c] w fun e w' => ∃ v, e = .returned v ∧ OwnI w' w.heap.size v (ndL (needN p d) l) ∧ Below w.heap.size w w' := by
  have HC := Lib.hid (neededCount_any p d w hp hd)
  obtain ⟨N, hN⟩ : ∃ N, needN p d = N := ⟨_, rfl⟩
  have hN3 : N ≤ 3 := by rw [← hN]; exact needN_le3 p (in4 hp) d (List.mem_range.2 (by omega))
  rw [hN] at HC ⊢
  have hmk := fun W => run_make_row' (P := Try.prog) 22 2 (.int .i64 0) 8 Try.underlying22 info64 rfl .i64 .i64 N (by omega) (by omega) W
  obtain ⟨Z, hZ⟩ : ∃ Z, (l.take N).map (Value.int .i64) = Z := ⟨_, rfl⟩
  have hZl : Z.length = min N l.length := by rw [← hZ, List.length_map, List.length_take]
  have hZ1 : ∀ v ∈ Z, v.oneCell' = true := by rw [← hZ]; exact cells1 _
  have hn : 0 < Z.length → ∃ ad, A = some ad ∧ ∀ j v, Z[j]? = some v → (w.alloc (.cells (madeCells #[.int .i64 0] N) 2)).cell? (ad.add j) = some v := by
    intro h0
    have hne : l.take N ≠ [] := by
      intro e
      rw [e] at hZ
      rw [← hZ] at h0
      simp at h0
    obtain ⟨b, off, e, hc⟩ := ((hr.below (below_one w (.cells (madeCells #[.int .i64 0] N) 2))).take N).news hne
    rw [hZ] at hc
    exact ⟨_, e, hc⟩
  have hcur : (w.alloc (.cells (madeCells #[.int .i64 0] N) 2)).heap[w.heap.size]? = some (.cells (List.replicate N (Value.int .i64 0)).toArray 2 (0, 0)) := by
    rw [heap_alloc_new]
    congr 2
    apply Array.ext'
    rw [toList_madeCells_one]
  have hsp : splice (List.replicate N (Value.int .i64 0)) 0 Z = (ndL N l).map (Value.int .i64) := by rw [← hZ]; exact ndL_splice N l
  have HZL := Lib.hid hZl
  have HSP := Lib.hid hsp
  have HN := Lib.hid hn
  have HCU := Lib.hid hcur
  clear hZ hZl hsp hn hcur hr hN hp
  go_enter Try.func69, Try.ntmps69
  go_wp2_with (first
    | (go_at_call 56; refine HC.out.mono ?_; rintro e w' ⟨rfl, rfl⟩)
    | (refine wpList_copy_splice (by rfl) _ _ _ _ (by rfl) 2 Try.underlying22 (by kernel_rfl) _ _ _ _ _ _ (by rfl) (by rfl) w.heap.size 0 _ 2 HCU.out Z (by rw [HZL.out]; exact Nat.min_comm _ _) (fun h => ⟨rfl, HN.out h⟩) (by rw [HZL.out]; simp; omega) hZ1 w.heap.size w (below_one _ _) (Nat.le_refl _) ?_; intro w2 HG2 hB2))
  have hg2 := HG2.out
  rw [HSP.out] at hg2
  have HF : Hid (OwnI w2 w.heap.size (.slice (some ⟨w.heap.size, 0, none⟩) N N) (ndL N l)) := by
    refine Lib.hid ⟨by rw [List.length_map, Nat.mul_one], .inr ⟨w.heap.size, N, ((ndL N l).map (Value.int .i64)).toArray, by rw [ndL_length], Nat.le_refl _, hg2, by rw [ndL_length]; exact Nat.le_refl _, by unfold maxLen; omega, by rw [List.size_toArray, List.length_map, ndL_length]; omega, ?_⟩⟩
    simp [ndL_length]
    exact List.take_of_length_le (by simp [ndL_length])
  have HB := Lib.hid hB2
  clear hg2 HG2 hB2
  go_wp2
  go_ret
  exact ⟨_, rfl, HF.out, HB.out⟩

end Go.Proofs.Ytakdmnecllcmnaa

