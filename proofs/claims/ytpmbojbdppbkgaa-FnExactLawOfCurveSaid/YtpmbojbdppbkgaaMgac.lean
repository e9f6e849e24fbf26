/- Texts of contracts, joined. -/
import Derived.Test.YtpmbojbdppbkgaaMgaa
import Derived.Test.YtpmbojbdppbkgaaMgab
/- Contracts of sums and multiples of series, of the program. -/
namespace Go.Proofs.Ytpmbojbdppbkgaa
open Go.RowKit Go.WideShapes Go.ChangeShapes Go.ChangeAt

set_option maxHeartbeats 1000000 in
theorem plusC_any (n : Nat) (g g' : Nat) (m : Int) (A : Option Addr) (c : Nat) (l : List Int) (m' : Int) (A' : Option Addr) (c' : Nat) (l' : List Int) (W : World)
    (hb : Box W g m A l.length c) (hb' : Box W g' m' A' l'.length c') (hr : RI W A l) (hr' : RI W A' l') (h1 : n < l.length) (h2 : n < l'.length)
    (h3 : 0 ≤ Ser.co l n) (h4 : Ser.co l n ≤ 10000) (h5 : 0 ≤ Ser.co l' n) (h6 : Ser.co l' n ≤ 10000) :
    Calls Try.prog 165 #[.int .i64 n, .pointer (some ⟨g, 0, none⟩), .pointer (some ⟨g', 0, none⟩)] W fun e w' => e = .returned (.int .i64 (Ser.co l n + Ser.co l' n)) ∧ Below W.heap.size W w' := by
  obtain ⟨b, off, rfl, hlt, hc⟩ := hr.at n h1
  obtain ⟨b', off', rfl, hlt', hc'⟩ := hr'.at n h2
  obtain ⟨x1, x2, _⟩ := hb
  obtain ⟨y1, y2, _⟩ := hb'
  obtain ⟨X, hX⟩ : ∃ X, Ser.co l n = X := ⟨_, rfl⟩
  obtain ⟨Y, hY⟩ : ∃ Y, Ser.co l' n = Y := ⟨_, rfl⟩
  rw [hX] at hc h3 h4 ⊢
  rw [hY] at hc' h5 h6 ⊢
  have j1 : (0 : Int) ≤ (n : Int) := by omega
  have j2 : (n : Int) < (l.length : Int) := by omega
  have j3 : (n : Int) < (l'.length : Int) := by omega
  clear hr hr' hX hY
  go_enter Try.func165, Try.ntmps165
  go_wp2
  go_quiet (fail)
  go_wp2
  go_ret
  exact ⟨rfl, below_drewN (Below.refl _ _) _⟩

/-- the world behind the boxes and the result's variable -/
theorem box3_new (w : World) (m m' : Int) (A A' : Option Addr) (n c n' c' : Nat) (W : World) (hW : (((w.alloc (.cells #[.int .i64 m, .slice A n c] 28)).alloc (.cells #[.int .i64 m', .slice A' n' c'] 28)).alloc (.cells #[.int .i64 0, .slice none 0 0] 28)) = W) :
    Box W w.heap.size m A n c ∧ Box W (w.heap.size + 1) m' A' n' c' ∧ Var2 W (w.heap.size + 1 + 1) (.int .i64 0) (.slice none 0 0) ∧ Below w.heap.size w W := by
  subst hW
  obtain ⟨h1, h2, h3⟩ := box2_new w m m' A A' n c n' c' _ rfl
  refine ⟨h1.keep (below_one _ _), h2.keep (below_one _ _), ?_, below_alloc _ h3⟩
  have := Var2.new ((w.alloc (.cells #[.int .i64 m, .slice A n c] 28)).alloc (.cells #[.int .i64 m', .slice A' n' c'] 28)) (.int .i64 0) (.slice none 0 0)
  simpa using this

set_option maxHeartbeats 2000000 in
set_option maxRecDepth 100000 in
theorem plus_any (m : Int) (d : Nat) (A : Option Addr) (c : Nat) (l : List Int) (m' : Int) (A' : Option Addr) (c' : Nat) (l' : List Int) (w : World) (hs : SerOk m d l) (hs' : SerOk m d l') (hr : RI w A l) (hr' : RI w A' l') :
    Calls Try.prog 128 #[.agg #[.int .i64 m, .slice A l.length c], .agg #[.int .i64 m', .slice A' l'.length c']] w fun e w' => ∃ v, e = .returned (.agg #[.int .i64 m, v]) ∧ OwnI w' w.heap.size v (Ser.cut m d fun n => Ser.co l n + Ser.co l' n) ∧ Below w.heap.size w w' := by
  obtain ⟨W, hW⟩ : ∃ W, (((w.alloc (.cells #[.int .i64 m, .slice A l.length c] 28)).alloc (.cells #[.int .i64 m', .slice A' l'.length c'] 28)).alloc (.cells #[.int .i64 0, .slice none 0 0] 28)) = W := ⟨_, rfl⟩
  obtain ⟨b1, b2, v3, hwb⟩ := box3_new w m m' A A' l.length c l'.length c' W hW
  have B1 := Lib.hid b1
  have B2 := Lib.hid b2
  have V3 := Lib.hid v3
  have HB := Lib.hid hwb
  have HW := Lib.hid hW
  have R1 := Lib.hid (hr.below hwb)
  have R2 := Lib.hid (hr'.below hwb)
  have HS := Lib.hid (fun W0 (h0 : Below W.heap.size W W0) => seriesOf_any m d 165 #[.pointer (some ⟨w.heap.size, 0, none⟩), .pointer (some ⟨w.heap.size + 1, 0, none⟩)] (fun n => Ser.co l n + Ser.co l' n) W0 (by have := hs.m1; omega) hs.m2 (by have := hs.d2; omega)
    (fun n _ => by have h1 := hs.red n; have h2 := hs'.red n; have h3 := hs.m2; omega)
    (enters_fn Try.func165 (of_decide_eq_true (by kernel_rfl)) rfl)
    (fun n W1 hn hb => by
      have h1 := hs.red n
      have h2 := hs'.red n
      have h3 := hs.m2
      have hb2 := h0.trans (hb.mono h0.size)
      exact plusC_any n _ _ m A c l m' A' c' l' W1 (B1.out.keep hb2) (B2.out.keep hb2) (R1.out.below hb2) (R2.out.below hb2) (by rw [hs.len]; omega) (by rw [hs'.len]; omega) (by omega) (by omega) (by omega) (by omega)))
  have HL := Lib.hid hs.len
  have HD := Lib.hid hs.d2
  clear b1 b2 v3 hwb hW hr hr' hs hs'
  go_enter Try.func128, Try.ntmps128
  go_wp2
  rw [HW.out]
  obtain ⟨x1, x2, x3⟩ := B1.out
  go_region_held3 (fun w' => w'.cell? ⟨w.heap.size, 0, none⟩ = some (.int .i64 m) ∧ w'.cell? ⟨w.heap.size, 1, none⟩ = some (.slice A l.length c) ∧ w.heap.size < w'.heap.size) (first | exact ⟨x1, x2, x3⟩ | exact box_store (by omega) (by assumption) | exact box_call (by assumption) (by assumption)) (first
    | (go_at_call 145; refine (degree_nat _ _ _ _ d _ HL.out (by have := HD.out; omega)).mono ?_; rintro e1 w1 ⟨rfl, hb1⟩)
    | (go_at_call 155; refine (HS.out _ ((below_drew0 W).trans hb1)).mono ?_; rintro e2 w2 ⟨v, rfl, ho2, hb2⟩; obtain ⟨A2, c2, rfl, _⟩ := ho2.form; have hv := V3.out.keep (((below_drew0 W).trans hb1).trans (hb2.mono ((below_drew0 W).trans hb1).size)); have q0 := hv.c0; have q1 := hv.c1; have q2 := hv.fz 0; have q3 := hv.fz 1))
  all_goals
    have hz := ((below_drew0 W).trans hb1).size
    have hg := x3
    have hw2 : Below w.heap.size w w2 := (HB.out.trans (((below_drew0 W).trans hb1).mono HB.out.size)).trans (hb2.mono (by have := HB.out.size; omega))
    obtain ⟨f0, f1, f2, f3⟩ := fin_var (w := w) hv ho2 (by have := V3.out.lt; omega) (by omega) hw2 (.int .i64 m) (.slice A2 (Ser.cut m d fun n => Ser.co l n + Ser.co l' n).length c2)
    have F2 := Lib.hid f2
    have F3 := Lib.hid f3
    clear f2 f3 hw2 ho2 hb2 hb1
    go_wp2
    refine bodyPost_ret (v := .agg #[.int .i64 m, .slice A2 (Ser.cut m d fun n => Ser.co l n + Ser.co l' n).length c2]) (by simp [results, Try.results128, go_sem, f0, f1]) rfl ⟨_, rfl, F2.out, F3.out⟩
end Go.Proofs.Ytpmbojbdppbkgaa

/- Contracts of monomials, multiples and products of series, of the program. -/
namespace Go.Proofs.Ytpmbojbdppbkgaa
open Go.RowKit Go.WideShapes Go.ChangeShapes Go.ChangeAt

/-- a block of one number -/
def Cel (w : World) (g : Nat) (x : Int) : Prop := w.cell? ⟨g, 0, none⟩ = some (.int .i64 x) ∧ g < w.heap.size
theorem Cel.new (w : World) (x : Int) : Cel (w.alloc (.cells #[.int .i64 x] 2)) w.heap.size x := by
  refine ⟨?_, by simp⟩
  rw [World.cell?_alloc_at _ _ _ _ rfl]; rfl
theorem Cel.keep {w w' : World} {g : Nat} {x : Int} (h : Cel w g x) (hb : Below w.heap.size w w') : Cel w' g x :=
  ⟨(hb.cell (p := ⟨g, 0, none⟩) h.2).trans h.1, Nat.lt_of_lt_of_le h.2 hb.size⟩

theorem monoC_any (n k : Nat) (g g' : Nat) (c : Int) (W : World) (h1 : Cel W g k) (h2 : Cel W g' c) :
    Calls Try.prog 169 #[.int .i64 n, .pointer (some ⟨g, 0, none⟩), .pointer (some ⟨g', 0, none⟩)] W fun e w' => e = .returned (.int .i64 (Ser.mon k c n)) ∧ Below W.heap.size W w' := by
  obtain ⟨x1, _⟩ := h1
  obtain ⟨x2, _⟩ := h2
  by_cases h : n = k
  · subst h
    have HE := Lib.hid (show Ser.mon n c n = c by unfold Ser.mon; rw [if_pos rfl])
    go_enter Try.func169, Try.ntmps169
    go_wp2
    go_ret
    exact ⟨ret_int HE.out.symm, Below.refl _ _⟩
  · have HE := Lib.hid (show Ser.mon k c n = 0 by unfold Ser.mon; rw [if_neg h])
    have hn : ¬ (n : Int) = (k : Int) := by omega
    obtain ⟨n1, n2⟩ : ((n : Int) == (k : Int)) = false ∧ ((n : Int) != (k : Int)) = true := ⟨by simpa using hn, by simpa using hn⟩
    clear h
    go_enter Try.func169, Try.ntmps169
    go_wp2
    go_ret
    exact ⟨ret_int HE.out.symm, Below.refl _ _⟩

theorem mon_bd (k : Nat) (c lo hi : Int) (h1 : lo ≤ 0) (h2 : 0 ≤ hi) (h3 : lo ≤ c) (h4 : c ≤ hi) (n : Nat) : lo ≤ Ser.mon k c n ∧ Ser.mon k c n ≤ hi := by
  unfold Ser.mon; split <;> omega

set_option maxHeartbeats 2000000 in
theorem monomial_any (m : Int) (d k : Nat) (c : Int) (w : World) (h1 : 1 ≤ m) (h2 : m ≤ 10000) (hd : d ≤ 1000) (h3 : -1000000 ≤ c) (h4 : c ≤ 1000000) :
    Calls Try.prog 135 #[.int .i64 m, .int .i64 d, .int .i64 k, .int .i64 c] w fun e w' => ∃ v, e = .returned (.agg #[.int .i64 m, v]) ∧ OwnI w' w.heap.size v (Ser.cut m d (Ser.mon k c)) ∧ Below w.heap.size w w' := by
  obtain ⟨W, hW⟩ : ∃ W, ((w.alloc (.cells #[.int .i64 k] 2)).alloc (.cells #[.int .i64 c] 2)).alloc (.cells #[.int .i64 0, .slice none 0 0] 28) = W := ⟨_, rfl⟩
  have hwb : Below w.heap.size w W := by rw [← hW]; exact below_alloc _ (below_alloc _ (below_one _ _))
  have b1 : Cel W w.heap.size k := by rw [← hW]; exact ((Cel.new w k).keep (below_one _ _)).keep (below_one _ _)
  have b2 : Cel W (w.heap.size + 1) c := by
    rw [← hW]
    have := (Cel.new (w.alloc (.cells #[.int .i64 k] 2)) c).keep (below_one _ (.cells #[.int .i64 0, .slice none 0 0] 28))
    simpa using this
  have v3 : Var2 W (w.heap.size + 1 + 1) (.int .i64 0) (.slice none 0 0) := by
    rw [← hW]
    have := Var2.new ((w.alloc (.cells #[.int .i64 k] 2)).alloc (.cells #[.int .i64 c] 2)) (.int .i64 0) (.slice none 0 0)
    simpa using this
  have V3 := Lib.hid v3
  have HB := Lib.hid hwb
  have HW := Lib.hid hW
  have HS := Lib.hid (seriesOf_any m d 169 #[.pointer (some ⟨w.heap.size, 0, none⟩), .pointer (some ⟨w.heap.size + 1, 0, none⟩)] (Ser.mon k c) W h1 h2 hd
    (fun n _ => mon_bd k c _ _ (by omega) (by omega) (by omega) (by omega) n)
    (enters_fn Try.func169 (of_decide_eq_true (by kernel_rfl)) rfl)
    (fun n W1 hn hb => monoC_any n k _ _ c W1 (b1.keep hb) (b2.keep hb)))
  obtain ⟨L, hL⟩ : ∃ L, Ser.cut m d (Ser.mon k c) = L := ⟨_, rfl⟩
  rw [hL] at HS ⊢
  clear b1 b2 v3 hwb hW hL
  go_enter Try.func135, Try.ntmps135
  go_wp2_with fail
  rw [HW.out]
  refine HS.out.mono ?_
  rintro e w2 ⟨v, rfl, ho, hb⟩
  obtain ⟨A2, c2, rfl, _⟩ := ho.form
  have hv := V3.out.keep hb
  have q0 := hv.c0
  have q1 := hv.c1
  have q2 := hv.fz 0
  have q3 := hv.fz 1
  obtain ⟨f0, f1, f2, f3⟩ := fin_var (w := w) hv ho (by have := V3.out.lt; omega) (by omega) (below_step HB.out hb) (.int .i64 m) (.slice A2 L.length c2)
  have F2 := Lib.hid f2
  have F3 := Lib.hid f3
  clear f2 f3 hv ho hb
  go_wp2
  exact bodyPost_ret (v := .agg #[.int .i64 m, .slice A2 L.length c2]) (by simp [results, Try.results135, go_sem, f0, f1]) rfl ⟨_, rfl, F2.out, F3.out⟩

theorem mul_bd {x y : Int} (h1 : 0 ≤ x) (h2 : x ≤ 10000) (h3 : -10000 ≤ y) (h4 : y ≤ 10000) : -100000000 ≤ x * y ∧ x * y ≤ 100000000 := by
  constructor
  · have := Int.mul_le_mul_of_nonneg_left (c := x) h3 h1
    have e : x * -10000 = -(x * 10000) := Int.mul_neg _ _
    omega
  · have := Int.mul_le_mul_of_nonneg_left (c := x) h4 h1
    omega
set_option maxHeartbeats 1000000 in
theorem scaledC_any (n : Nat) (g g' : Nat) (m : Int) (A : Option Addr) (c : Nat) (l : List Int) (k : Int) (W : World)
    (hb : Box W g m A l.length c) (hb' : Cel W g' k) (hr : RI W A l) (h1 : n < l.length) (h3 : 0 ≤ Ser.co l n) (h4 : Ser.co l n ≤ 10000) (h5 : -10000 ≤ k) (h6 : k ≤ 10000) :
    Calls Try.prog 158 #[.int .i64 n, .pointer (some ⟨g, 0, none⟩), .pointer (some ⟨g', 0, none⟩)] W fun e w' => e = .returned (.int .i64 (Ser.co l n * k)) ∧ Below W.heap.size W w' := by
  obtain ⟨b, off, rfl, hlt, hc⟩ := hr.at n h1
  obtain ⟨x1, x2, _⟩ := hb
  obtain ⟨y1, _⟩ := hb'
  obtain ⟨X, hX⟩ : ∃ X, Ser.co l n = X := ⟨_, rfl⟩
  rw [hX] at hc h3 h4 ⊢
  obtain ⟨p1, p2⟩ := mul_bd h3 h4 h5 h6
  have j1 : (0 : Int) ≤ (n : Int) := by omega
  have j2 : (n : Int) < (l.length : Int) := by omega
  clear hr hX
  go_enter Try.func158, Try.ntmps158
  go_wp2
  go_quiet (fail)
  go_wp2
  go_ret
  exact ⟨rfl, below_drewN (Below.refl _ _) _⟩

def scaL (m : Int) (d : Nat) (l : List Int) (k : Int) : List Int := Ser.cut m d fun n => Ser.co l n * k
set_option maxHeartbeats 2000000 in
set_option maxRecDepth 100000 in
theorem scaled_any (m : Int) (d : Nat) (A : Option Addr) (c : Nat) (l : List Int) (k : Int) (w : World) (hs : SerOk m d l) (hr : RI w A l) (h5 : -10000 ≤ k) (h6 : k ≤ 10000) :
    Calls Try.prog 116 #[.agg #[.int .i64 m, .slice A l.length c], .int .i64 k] w fun e w' => ∃ v, e = .returned (.agg #[.int .i64 m, v]) ∧ OwnI w' w.heap.size v (scaL m d l k) ∧ Below w.heap.size w w' := by
  obtain ⟨W, hW⟩ : ∃ W, (((w.alloc (.cells #[.int .i64 m, .slice A l.length c] 28)).alloc (.cells #[.int .i64 k] 2)).alloc (.cells #[.int .i64 0, .slice none 0 0] 28)) = W := ⟨_, rfl⟩
  have hwb : Below w.heap.size w W := by rw [← hW]; exact below_alloc _ (below_alloc _ (below_one _ _))
  have b1 : Box W w.heap.size m A l.length c := by rw [← hW]; exact ((Box.new w m A l.length c).keep (below_one _ _)).keep (below_one _ _)
  have b2 : Cel W (w.heap.size + 1) k := by
    rw [← hW]
    have := (Cel.new (w.alloc (.cells #[.int .i64 m, .slice A l.length c] 28)) k).keep (below_one _ (.cells #[.int .i64 0, .slice none 0 0] 28))
    simpa using this
  have v3 : Var2 W (w.heap.size + 1 + 1) (.int .i64 0) (.slice none 0 0) := by
    rw [← hW]
    have := Var2.new ((w.alloc (.cells #[.int .i64 m, .slice A l.length c] 28)).alloc (.cells #[.int .i64 k] 2)) (.int .i64 0) (.slice none 0 0)
    simpa using this
  have B1 := Lib.hid b1
  have B2 := Lib.hid b2
  have V3 := Lib.hid v3
  have HB := Lib.hid hwb
  have HW := Lib.hid hW
  have R1 := Lib.hid (hr.below hwb)
  have HS := Lib.hid (fun W0 (h0 : Below W.heap.size W W0) => seriesOf_any m d 158 #[.pointer (some ⟨w.heap.size, 0, none⟩), .pointer (some ⟨w.heap.size + 1, 0, none⟩)] (fun n => Ser.co l n * k) W0 (by have := hs.m1; omega) hs.m2 (by have := hs.d2; omega)
    (fun n _ => by have h1 := hs.red n; have h3 := hs.m2; have := mul_bd h1.1 (by omega) h5 h6; omega)
    (enters_fn Try.func158 (of_decide_eq_true (by kernel_rfl)) rfl)
    (fun n W1 hn hb => by
      have h1 := hs.red n
      have h3 := hs.m2
      have hb2 := h0.trans (hb.mono h0.size)
      exact scaledC_any n _ _ m A c l k W1 (B1.out.keep hb2) (B2.out.keep hb2) (R1.out.below hb2) (by rw [hs.len]; omega) (by omega) (by omega) h5 h6))
  have HL := Lib.hid hs.len
  have HD := Lib.hid hs.d2
  obtain ⟨L, hLL⟩ : ∃ L, scaL m d l k = L := ⟨_, rfl⟩
  unfold scaL at hLL ⊢
  rw [hLL] at HS ⊢
  clear b1 b2 v3 hwb hW hr hs hLL
  go_enter Try.func116, Try.ntmps116
  go_wp2
  rw [HW.out]
  obtain ⟨x1, x2, x3⟩ := B1.out
  go_region_held3 (fun w' => w'.cell? ⟨w.heap.size, 0, none⟩ = some (.int .i64 m) ∧ w'.cell? ⟨w.heap.size, 1, none⟩ = some (.slice A l.length c) ∧ w.heap.size < w'.heap.size) (first | exact ⟨x1, x2, x3⟩ | exact box_store (by omega) (by assumption) | exact box_call (by assumption) (by assumption)) (first
    | (go_at_call 145; refine (degree_nat _ _ _ _ d _ HL.out (by have := HD.out; omega)).mono ?_; rintro e1 w1 ⟨rfl, hb1⟩)
    | (go_at_call 155; refine (HS.out _ ((below_drew0 W).trans hb1)).mono ?_; rintro e2 w2 ⟨v, rfl, ho2, hb2⟩; obtain ⟨A2, c2, rfl, _⟩ := ho2.form; have hv := V3.out.keep (((below_drew0 W).trans hb1).trans (hb2.mono ((below_drew0 W).trans hb1).size)); have q0 := hv.c0; have q1 := hv.c1; have q2 := hv.fz 0; have q3 := hv.fz 1))
  all_goals
    have hz := ((below_drew0 W).trans hb1).size
    have hg := x3
    have hw2 : Below w.heap.size w w2 := (HB.out.trans (((below_drew0 W).trans hb1).mono HB.out.size)).trans (hb2.mono (by have := HB.out.size; omega))
    obtain ⟨f0, f1, f2, f3⟩ := fin_var (w := w) hv ho2 (by have := V3.out.lt; omega) (by omega) hw2 (.int .i64 m) (.slice A2 L.length c2)
    have F2 := Lib.hid f2
    have F3 := Lib.hid f3
    clear f2 f3 hw2 ho2 hb2 hb1
    go_wp2
    refine bodyPost_ret (v := .agg #[.int .i64 m, .slice A2 L.length c2]) (by simp [results, Try.results116, go_sem, f0, f1]) rfl ⟨_, rfl, F2.out, F3.out⟩

/-! products -/
set_option maxHeartbeats 4000000 in
theorem productAt_any (m : Int) (d n : Nat) (A : Option Addr) (c : Nat) (l : List Int) (m' : Int) (A' : Option Addr) (c' : Nat) (l' : List Int) (w : World) (hs : SerOk m d l) (hs' : SerOk m d l') (hr : RI w A l) (hr' : RI w A' l') (hn : n ≤ d) :
    Calls Try.prog 171 #[.agg #[.int .i64 m, .slice A l.length c], .agg #[.int .i64 m', .slice A' l'.length c'], .int .i64 n] w fun e w' => e = .returned (.int .i64 (Ser.cv n (Ser.co l) (Ser.co l'))) ∧ Below w.heap.size w w' := by
  obtain ⟨W, hW⟩ : ∃ W, (w.alloc (.cells #[.int .i64 m, .slice A l.length c] 28)).alloc (.cells #[.int .i64 m', .slice A' l'.length c'] 28) = W := ⟨_, rfl⟩
  obtain ⟨b1, b2, hwb⟩ := box2_new w m m' A A' l.length c l'.length c' W hW
  obtain ⟨x1, x2, _⟩ := b1
  obtain ⟨y1, y2, _⟩ := b2
  have HB := Lib.hid hwb
  have HW := Lib.hid hW
  have R1 := Lib.hid (hr.below hwb)
  have R2 := Lib.hid (hr'.below hwb)
  have HS := Lib.hid hs
  have HS' := Lib.hid hs'
  have HD := hs.d2
  obtain ⟨f, hf⟩ : ∃ f, f = fun i => Ser.co l i * Ser.co l' (n - i) := ⟨_, rfl⟩
  have HE := Lib.hid (show Ser.cv n (Ser.co l) (Ser.co l') = Ser.psum f (n + 1) by rw [hf]; exact Ser.cv_psum _ _ _)
  have HF := Lib.hid hf
  clear hwb hW hr hr' hs hs' hf
  go_enter Try.func171, Try.ntmps171
  go_wp2
  rw [HW.out]
  go_loopw [7, 8, 11] (fun s _ i wr => ∃ k : Nat, k ≤ n + 1 ∧ i = .int .i64 k ∧ s = .int .i64 (Ser.psum f k) ∧ 0 ≤ Ser.psum f k ∧ Ser.psum f k ≤ k * 100000000 ∧ ∃ q, wr = W.drewN q) (fun _ _ i _ => n + 1 - (intOf i).toNat)
  case atStart => exact ⟨0, Nat.zero_le _, rfl, rfl, Int.le_refl _, Int.le_refl _, 0, rfl⟩
  case round =>
    obtain ⟨k, hk, rfl, rfl, z1, z2, q, rfl⟩ := hrel
    by_cases hlt : k < n + 1
    · obtain ⟨b, off, rfl, hb, hc⟩ := R1.out.at k (by have := HS.out.len; omega)
      obtain ⟨b', off', rfl, hb', hc'⟩ := R2.out.at (n - k) (by have := HS'.out.len; omega)
      have r1 := HS.out.red k
      have r2 := HS'.out.red (n - k)
      have m2 := HS.out.m2
      have hst : Ser.psum f (k + 1) = Ser.psum f k + Ser.co l k * Ser.co l' (n - k) := by rw [Ser.psum, HF.out]
      obtain ⟨X, hX⟩ : ∃ X, Ser.co l k = X := ⟨_, rfl⟩
      obtain ⟨Y, hY⟩ : ∃ Y, Ser.co l' (n - k) = Y := ⟨_, rfl⟩
      obtain ⟨P, hP⟩ : ∃ P, Ser.psum f k = P := ⟨_, rfl⟩
      rw [hX] at hc r1 hst
      rw [hY] at hc' r2 hst
      rw [hP] at z1 z2 hst
      obtain ⟨p1, p2⟩ := mul_bd (x := X) (y := Y) r1.1 (by omega) (by omega) (by omega)
      have p3 : 0 ≤ X * Y := Int.mul_nonneg r1.1 r2.1
      have l1 := HS.out.len
      have l2 := HS'.out.len
      have j0 : (0 : Int) ≤ (k : Int) := by omega
      have j1 : (k : Int) < (l.length : Int) := by omega
      have j3 : (0 : Int) ≤ (n : Int) - (k : Int) := by omega
      have j4 : (n : Int) - (k : Int) < (l'.length : Int) := by omega
      have j5 : ((n : Int) - (k : Int)).toNat = n - k := by omega
      have HST := Lib.hid hst
      have HP := Lib.hid hP
      clear hX hY hP hst l1 l2
      rw [HP.out]
      go_wp2
      go_quiet (fail)
      go_wp2
      go_roundw
      case rel => exact ⟨k + 1, by omega, by go_num, by rw [HST.out], by rw [HST.out]; omega, by rw [HST.out]; omega, _, rfl⟩
      case measure => simp only [intOf]; omega
    · obtain rfl : k = n + 1 := by omega
      go_wp2
      go_ret
      exact ⟨ret_int HE.out.symm, below_drewN HB.out _⟩
end Go.Proofs.Ytpmbojbdppbkgaa

/- Contracts of sums and multiples of grids. -/
namespace Go.Proofs.Ytpmbojbdppbkgaa
open Go.RowKit Go.WideShapes Go.ChangeShapes Go.ChangeAt

theorem RP.some {w : World} {A : Option Addr} {t : List (List Int)} (h : RP w A t) (ht : 0 < t.length) : ∃ b off, A = some ⟨b, off, none⟩ := by
  obtain ⟨b, off, _, _, e, _⟩ := h.at 0 ht
  exact ⟨b, off, e⟩
/-- one number of a grid: what the walk reads -/
theorem GBox.num {W : World} {g : Nat} {m : Int} {d b off c : Nat} {t : List (List Int)} (hb : GBox W g m d (some ⟨b, off, none⟩) t.length c) (hs : Pl.Ok m d t) (hr : RP W (some ⟨b, off, none⟩) t) (i j : Nat) (hij : i + j ≤ d) :
    ∃ b' off' c' L N, L = d + 1 ∧ N = d - i + 1 ∧ W.cell? ⟨g, 2, none⟩ = some (.slice (some ⟨b, off, none⟩) L c) ∧ W.cell? ⟨b, off + i, none⟩ = some (.slice (some ⟨b', off', none⟩) N c') ∧ W.cell? ⟨b', off' + j, none⟩ = some (.int .i64 (Pl.pc t i j)) := by
  obtain ⟨_, _, x2, _⟩ := hb
  obtain ⟨b0, off0, b', off', c', e, -, k1, -, k2⟩ := hr.num i j (by rw [hs.len]; omega) (by rw [hs.row i (by omega)]; omega)
  injection e with e
  injection e with e1 e2
  subst e1 e2
  exact ⟨b', off', c', t.length, _, hs.len, hs.row i (by omega), x2, k1, k2⟩
set_option maxHeartbeats 1000000 in
theorem gplusC_any (i j g g' : Nat) (m : Int) (d : Nat) (A : Option Addr) (c : Nat) (t : List (List Int)) (A' : Option Addr) (c' : Nat) (t' : List (List Int)) (W : World) (hb : GBox W g m d A t.length c) (hb' : GBox W g' m d A' t'.length c') (hs : Pl.Ok m d t) (hs' : Pl.Ok m d t') (hr : RP W A t) (hr' : RP W A' t') (hij : i + j ≤ d) :
    Calls Try.prog 175 #[.int .i64 i, .int .i64 j, .pointer (some ⟨g, 0, none⟩), .pointer (some ⟨g', 0, none⟩)] W fun e w' => e = .returned (.int .i64 (Pl.pc t i j + Pl.pc t' i j)) ∧ Below W.heap.size W w' := by
  obtain ⟨b, off, rfl⟩ := hr.some (by rw [hs.len]; omega)
  obtain ⟨b', off', rfl⟩ := hr'.some (by rw [hs'.len]; omega)
  obtain ⟨p1, p2, p3, L, N, hL, hN, x1, x2, x3⟩ := hb.num hs hr i j hij
  obtain ⟨q1, q2, q3, L', N', hL', hN', y1, y2, y3⟩ := hb'.num hs' hr' i j hij
  have r1 := hs.pc i j
  have r2 := hs'.pc i j
  have hm := hs.m2
  obtain ⟨X, hX⟩ : ∃ X, Pl.pc t i j = X := ⟨_, rfl⟩
  obtain ⟨Y, hY⟩ : ∃ Y, Pl.pc t' i j = Y := ⟨_, rfl⟩
  rw [hX] at x3 r1 ⊢
  rw [hY] at y3 r2 ⊢
  obtain ⟨r1, r3⟩ := r1
  obtain ⟨r2, r4⟩ := r2
  have j1 : (0 : Int) ≤ (i : Int) := by omega
  have j2 : (i : Int) < (L : Int) := by omega
  have j3 : (0 : Int) ≤ (j : Int) := by omega
  have j4 : (j : Int) < (N : Int) := by omega
  have j5 : (i : Int) < (L' : Int) := by omega
  have j6 : (j : Int) < (N' : Int) := by omega
  clear hb hb' hr hr' hs hs' hX hY hL hN hL' hN'
  go_enter Try.func175, Try.ntmps175
  go_wp2
  go_quiet (fail)
  go_wp2
  go_ret
  exact ⟨rfl, below_drewN (Below.refl _ _) _⟩
set_option maxHeartbeats 2000000 in
set_option maxRecDepth 100000 in
theorem gplus_any (m : Int) (d : Nat) (A : Option Addr) (c : Nat) (t : List (List Int)) (A' : Option Addr) (c' : Nat) (t' : List (List Int)) (w : World) (hs : Pl.Ok m d t) (hs' : Pl.Ok m d t') (hr : RP w A t) (hr' : RP w A' t') :
    Calls Try.prog 144 #[.agg #[.int .i64 m, .int .i64 d, .slice A t.length c], .agg #[.int .i64 m, .int .i64 d, .slice A' t'.length c']] w fun e w' => ∃ v, e = .returned (.agg #[.int .i64 m, .int .i64 d, v]) ∧ OwnR w' w.heap.size w'.heap.size v (Pl.tab m d (fun i j => Pl.pc t i j + Pl.pc t' i j)) ∧ Below w.heap.size w w' := by
  obtain ⟨W, hW, b1, b2, v3, hwb⟩ := gpro2 w m d A t.length c m d A' t'.length c'
  have HS := Lib.hid (filled_any m d 175 #[.pointer (some ⟨w.heap.size, 0, none⟩), .pointer (some ⟨w.heap.size + 1, 0, none⟩)] (fun i j => Pl.pc t i j + Pl.pc t' i j) W (by have := hs.m1; omega) hs.m2 (by have := hs.d2; omega)
    (fun i j hij => by have := hs.pc i j; have := hs'.pc i j; have := hs.m2; omega) (enters_fn Try.func175 (of_decide_eq_true (by kernel_rfl)) rfl)
    (fun i j W1 hij hb => gplusC_any i j _ _ m d A c t A' c' t' W1 (b1.keep hb) (b2.keep hb) hs hs' ((hr.below hwb).below hb) ((hr'.below hwb).below hb) hij))
  have HB := Lib.hid hwb
  have HW := Lib.hid hW
  have V3 := Lib.hid v3
  obtain ⟨T, hT⟩ : ∃ T, Pl.tab m d (fun i j => Pl.pc t i j + Pl.pc t' i j) = T := ⟨_, rfl⟩
  rw [hT] at HS ⊢
  clear b1 b2 v3 hwb hW hr hr' hs hs' hT
  go_enter Try.func144, Try.ntmps144
  go_wp2_with fail
  rw [HW.out]
  refine HS.out.mono ?_
  rintro e w2 ⟨v, rfl, ho, hb⟩
  obtain ⟨A2, c2, rfl, -⟩ := ho.len
  have hv := V3.out.keep hb
  obtain ⟨q0, q1, q2, q3, q4, q5⟩ := hv.tells3
  obtain ⟨f0, f1, f2, f3, f4⟩ := fin_grid (w := w) hv ho (by have := V3.out.lt; omega) (by omega) (Nat.le_refl _) (below_step HB.out hb) (.int .i64 m) (.int .i64 d) (.slice A2 T.length c2)
  have F3 := Lib.hid (f3.low (show w.heap.size ≤ W.heap.size from HB.out.size))
  have F4 := Lib.hid f4
  unfold set3 at f0 f1 f2
  clear f3 f4 ho hv hb
  go_wp2
  exact bodyPost_ret (v := .agg #[.int .i64 m, .int .i64 d, .slice A2 T.length c2]) (by simp [results, Try.results144, go_sem, f0, f1, f2]) rfl ⟨_, rfl, F3.out, F4.out⟩
end Go.Proofs.Ytpmbojbdppbkgaa

/- Contract of the product of grids. -/
namespace Go.Proofs.Ytpmbojbdppbkgaa
open Go.RowKit Go.WideShapes Go.ChangeShapes Go.ChangeAt

theorem inner_bd {m : Int} {d : Nat} {t t' : List (List Int)} (hs : Pl.Ok m d t) (hs' : Pl.Ok m d t') (i k j : Nat) (n : Nat) (hn : n ≤ 11) :
    0 ≤ Ser.psum (fun l => Pl.pc t k l * Pl.pc t' (i - k) (j - l)) n ∧ Ser.psum (fun l => Pl.pc t k l * Pl.pc t' (i - k) (j - l)) n ≤ 1100000000 := by
  have := Pl.psum_bd2 (fun l => Pl.pc t k l * Pl.pc t' (i - k) (j - l)) 100000000 (fun l => by
    have h1 := hs.pc k l
    have h2 := hs'.pc (i - k) (j - l)
    have h3 := hs.m2
    exact Pl.prod_bd h1.1 (by omega) h2.1 (by omega)) n
  refine ⟨this.1, ?_⟩
  have h := this.2
  omega
theorem outer_bd {m : Int} {d : Nat} {t t' : List (List Int)} (hs : Pl.Ok m d t) (hs' : Pl.Ok m d t') (i j : Nat) (hj : j ≤ 10) (n : Nat) (hn : n ≤ 11) :
    0 ≤ Ser.psum (fun k => Ser.psum (fun l => Pl.pc t k l * Pl.pc t' (i - k) (j - l)) (j + 1)) n ∧ Ser.psum (fun k => Ser.psum (fun l => Pl.pc t k l * Pl.pc t' (i - k) (j - l)) (j + 1)) n ≤ 12100000000 := by
  have := Pl.psum_bd2 (fun k => Ser.psum (fun l => Pl.pc t k l * Pl.pc t' (i - k) (j - l)) (j + 1)) 1100000000 (fun k => inner_bd hs hs' i k j (j + 1) (by omega)) n
  refine ⟨this.1, ?_⟩
  have h := this.2
  omega
set_option maxHeartbeats 2000000 in
set_option maxRecDepth 100000 in
theorem gtimesC_any (i j g g' : Nat) (m : Int) (d : Nat) (A : Option Addr) (c : Nat) (t : List (List Int)) (A' : Option Addr) (c' : Nat) (t' : List (List Int)) (W : World) (hb : GBox W g m d A t.length c) (hb' : GBox W g' m d A' t'.length c') (hs : Pl.Ok m d t) (hs' : Pl.Ok m d t') (hr : RP W A t) (hr' : RP W A' t') (hij : i + j ≤ d) :
    Calls Try.prog 176 #[.int .i64 i, .int .i64 j, .pointer (some ⟨g, 0, none⟩), .pointer (some ⟨g', 0, none⟩)] W fun e w' => e = .returned (.int .i64 (Pl.mul2 (Pl.pc t) (Pl.pc t') i j)) ∧ Below W.heap.size W w' := by
  obtain ⟨b, off, rfl⟩ := hr.some (by rw [hs.len]; omega)
  obtain ⟨b', off', rfl⟩ := hr'.some (by rw [hs'.len]; omega)
  have HB1 := Lib.hid hb
  have HB2 := Lib.hid hb'
  have HS := Lib.hid hs
  have HS' := Lib.hid hs'
  have HR := Lib.hid hr
  have HR' := Lib.hid hr'
  have hd2 := hs.d2
  have HM : Hid (Pl.mul2 (Pl.pc t) (Pl.pc t') i j = Ser.psum (fun k => Ser.psum (fun l => Pl.pc t k l * Pl.pc t' (i - k) (j - l)) (j + 1)) (i + 1)) := Lib.hid rfl
  obtain ⟨R, hR⟩ : ∃ R, Pl.mul2 (Pl.pc t) (Pl.pc t') i j = R := ⟨_, rfl⟩
  rw [hR] at HM ⊢
  obtain ⟨F, hF⟩ : ∃ F, (fun k => Ser.psum (fun l => Pl.pc t k l * Pl.pc t' (i - k) (j - l)) (j + 1)) = F := ⟨_, rfl⟩
  have HFF := Lib.hid hF
  rw [hF] at HM
  have HOB : Hid (∀ n, n ≤ 11 → 0 ≤ Ser.psum F n ∧ Ser.psum F n ≤ 12100000000) := Lib.hid (fun n hn => by rw [← hF]; exact outer_bd hs hs' i j (by omega) n hn)
  clear hb hb' hr hr' hs hs' hR hF
  go_enter Try.func176, Try.ntmps176
  go_wp2
  go_loopw [7, 12] (fun s q wr => ∃ k : Nat, k ≤ i + 1 ∧ q = .int .i64 k ∧ s = .int .i64 (Ser.psum F k) ∧ Below W.heap.size W wr) (fun _ q _ => i + 1 - (intOf q).toNat)
  case atStart => exact ⟨0, Nat.zero_le _, rfl, rfl, Below.refl _ _⟩
  case round =>
    obtain ⟨k, hk, rfl, rfl, hbel⟩ := hrel
    have HB := Lib.hid hbel
    clear hbel
    by_cases hlt : k < i + 1
    · obtain ⟨O, hO⟩ : ∃ O, Ser.psum F k = O := ⟨_, rfl⟩
      have hob := HOB.out k (by omega)
      rw [hO] at hob ⊢
      have HO := Lib.hid hO
      obtain ⟨hob1, hob2⟩ := hob
      obtain ⟨G, hG⟩ : ∃ G, (fun l => Pl.pc t k l * Pl.pc t' (i - k) (j - l)) = G := ⟨_, rfl⟩
      have HGG := Lib.hid hG
      have HIB : Hid (∀ n, n ≤ 11 → 0 ≤ Ser.psum G n ∧ Ser.psum G n ≤ 1100000000) := Lib.hid (fun n hn => by rw [← hG]; exact inner_bd HS.out HS'.out i k j n hn)
      have HFK : Hid (F k = Ser.psum G (j + 1)) := Lib.hid (by rw [← HFF.out, ← hG])
      have j1 : (k : Int) < (i : Int) + 1 := by omega
      clear hO hG
      go_wp2
      go_loopw [7, 17] (fun s q wr => ∃ l : Nat, l ≤ j + 1 ∧ q = .int .i64 l ∧ s = .int .i64 (O + Ser.psum G l) ∧ Below W.heap.size W wr) (fun _ q _ => j + 1 - (intOf q).toNat)
      case atStart => exact ⟨0, Nat.zero_le _, rfl, by simp [Ser.psum], HB.out⟩
      case round =>
        clear HB
        obtain ⟨l, hl, rfl, rfl, hbel⟩ := hrel
        have HB := Lib.hid hbel
        by_cases hlt2 : l < j + 1
        · obtain ⟨p1, p2, p3, L, N, hL, hN, x1, x2, x3⟩ := (HB1.out.keep hbel).num HS.out (HR.out.below hbel) k l (by omega)
          obtain ⟨r, hr⟩ : ∃ r, i - k = r := ⟨_, rfl⟩
          obtain ⟨s, hs⟩ : ∃ s, j - l = s := ⟨_, rfl⟩
          obtain ⟨q1, q2, q3, L', N', hL', hN', y1, y2, y3⟩ := (HB2.out.keep hbel).num HS'.out (HR'.out.below hbel) r s (by omega)
          have hG1 : G l = Pl.pc t k l * Pl.pc t' r s := by
            rw [← HGG.out]
            show Pl.pc t k l * Pl.pc t' (i - k) (j - l) = _
            rw [hr, hs]
          have hst : Ser.psum G (l + 1) = Ser.psum G l + Pl.pc t k l * Pl.pc t' r s := by rw [Ser.psum, hG1]
          clear hG1
          obtain ⟨P, hP⟩ : ∃ P, Ser.psum G l = P := ⟨_, rfl⟩
          have hib := HIB.out l (by omega)
          have c1 := HS.out.pc k l
          have c2 := HS'.out.pc r s
          have hm := HS.out.m2
          obtain ⟨X, hX⟩ : ∃ X, Pl.pc t k l = X := ⟨_, rfl⟩
          obtain ⟨Y, hY⟩ : ∃ Y, Pl.pc t' r s = Y := ⟨_, rfl⟩
          rw [hX] at x3 c1 hst
          rw [hY] at y3 c2 hst
          rw [hP] at hib hst ⊢
          have hpr := Pl.prod_bd c1.1 (by omega) c2.1 (by omega)
          have HST := Lib.hid hst
          have w1 : IntKind.i64.wrap (X * Y) = X * Y := by rw [IntKind.wrap_i64]; omega
          have w2 : IntKind.i64.wrap (O + P + X * Y) = O + P + X * Y := by rw [IntKind.wrap_i64]; omega
          have j2 : (0 : Int) ≤ (k : Int) := by omega
          have j3 : (k : Int) < (L : Int) := by omega
          have j4 : (0 : Int) ≤ (l : Int) := by omega
          have j5 : (l : Int) < (N : Int) := by omega
          have j6 : (i : Int) - (k : Int) = (r : Int) := by omega
          have j7 : (j : Int) - (l : Int) = (s : Int) := by omega
          have j8 : (r : Int) < (L' : Int) := by omega
          have j9 : (s : Int) < (N' : Int) := by omega
          have j10 : (0 : Int) ≤ (r : Int) := by omega
          have j11 : (0 : Int) ≤ (s : Int) := by omega
          clear hbel hL hN hL' hN' hst hP hib hX hY hr hs c1 c2 hpr
          go_wp2
          go_quiet (fail)
          go_wp2
          go_roundw
          case rel => exact ⟨l + 1, by omega, by go_num, by rw [HST.out, Int.add_assoc], below_drewN HB.out _⟩
          case measure => simp only [intOf]; omega
        · obtain rfl : l = j + 1 := by omega
          have HE : Hid (Ser.psum F (k + 1) = O + Ser.psum G (j + 1)) := Lib.hid (by rw [Ser.psum, HO.out, HFK.out])
          clear hbel
          go_wp2
          go_roundw
          case rel => exact ⟨k + 1, by omega, by go_num, by rw [HE.out], HB.out⟩
          case measure => simp only [intOf]; omega
    · obtain rfl : k = i + 1 := by omega
      go_wp2
      go_ret
      exact ⟨ret_int HM.out.symm, HB.out⟩
set_option maxHeartbeats 2000000 in
set_option maxRecDepth 100000 in
theorem gtimes_any (m : Int) (d : Nat) (A : Option Addr) (c : Nat) (t : List (List Int)) (A' : Option Addr) (c' : Nat) (t' : List (List Int)) (w : World) (hs : Pl.Ok m d t) (hs' : Pl.Ok m d t') (hr : RP w A t) (hr' : RP w A' t') :
    Calls Try.prog 146 #[.agg #[.int .i64 m, .int .i64 d, .slice A t.length c], .agg #[.int .i64 m, .int .i64 d, .slice A' t'.length c']] w fun e w' => ∃ v, e = .returned (.agg #[.int .i64 m, .int .i64 d, v]) ∧ OwnR w' w.heap.size w'.heap.size v (Pl.tab m d (Pl.mul2 (Pl.pc t) (Pl.pc t'))) ∧ Below w.heap.size w w' := by
  obtain ⟨W, hW, b1, b2, v3, hwb⟩ := gpro2 w m d A t.length c m d A' t'.length c'
  have HS := Lib.hid (filled_any m d 176 #[.pointer (some ⟨w.heap.size, 0, none⟩), .pointer (some ⟨w.heap.size + 1, 0, none⟩)] (Pl.mul2 (Pl.pc t) (Pl.pc t')) W (by have := hs.m1; omega) hs.m2 (by have := hs.d2; omega)
    (fun i j hij => by have := outer_bd hs hs' i j (by have := hs.d2; omega) (i + 1) (by have := hs.d2; omega); unfold Pl.mul2; omega) (enters_fn Try.func176 (of_decide_eq_true (by kernel_rfl)) rfl)
    (fun i j W1 hij hb => gtimesC_any i j _ _ m d A c t A' c' t' W1 (b1.keep hb) (b2.keep hb) hs hs' ((hr.below hwb).below hb) ((hr'.below hwb).below hb) hij))
  have HB := Lib.hid hwb
  have HW := Lib.hid hW
  have V3 := Lib.hid v3
  obtain ⟨T, hT⟩ : ∃ T, Pl.tab m d (Pl.mul2 (Pl.pc t) (Pl.pc t')) = T := ⟨_, rfl⟩
  rw [hT] at HS ⊢
  clear b1 b2 v3 hwb hW hr hr' hs hs' hT
  go_enter Try.func146, Try.ntmps146
  go_wp2_with fail
  rw [HW.out]
  refine HS.out.mono ?_
  rintro e w2 ⟨v, rfl, ho, hb⟩
  obtain ⟨A2, c2, rfl, -⟩ := ho.len
  have hv := V3.out.keep hb
  obtain ⟨q0, q1, q2, q3, q4, q5⟩ := hv.tells3
  obtain ⟨f0, f1, f2, f3, f4⟩ := fin_grid (w := w) hv ho (by have := V3.out.lt; omega) (by omega) (Nat.le_refl _) (below_step HB.out hb) (.int .i64 m) (.int .i64 d) (.slice A2 T.length c2)
  have F3 := Lib.hid (f3.low (show w.heap.size ≤ W.heap.size from HB.out.size))
  have F4 := Lib.hid f4
  unfold set3 at f0 f1 f2
  clear f3 f4 ho hv hb
  go_wp2
  exact bodyPost_ret (v := .agg #[.int .i64 m, .int .i64 d, .slice A2 T.length c2]) (by simp [results, Try.results146, go_sem, f0, f1, f2]) rfl ⟨_, rfl, F3.out, F4.out⟩
end Go.Proofs.Ytpmbojbdppbkgaa

/- Contracts of the grids of series. -/
namespace Go.Proofs.Ytpmbojbdppbkgaa
open Go.RowKit Go.WideShapes Go.ChangeShapes Go.ChangeAt

set_option maxHeartbeats 2000000 in
set_option maxRecDepth 100000 in
theorem frameOfSeries_any (m : Int) (A : Option Addr) (n c d : Nat) (w : World) (hn : n = d + 1) (hd : d ≤ 1000) :
    Calls Try.prog 107 #[.agg #[.int .i64 m, .slice A n c]] w fun e w' => e = .returned (.agg #[.int .i64 m, .int .i64 d]) ∧ Below w.heap.size w w' := by
  obtain ⟨W, hW⟩ : ∃ W, (w.alloc (.cells #[.int .i64 m, .slice A n c] 28)).alloc (.cells #[.int .i64 0, .int .i64 0] 64) = W := ⟨_, rfl⟩
  have hwb : Below w.heap.size w W := by rw [← hW]; exact below_alloc _ (below_one _ _)
  have b1 : Box W w.heap.size m A n c := by rw [← hW]; exact (Box.newT _ _ _ _ _ _).keep (below_one _ _)
  have v2 : VarC 64 W (w.heap.size + 1) #[.int .i64 0, .int .i64 0] := by
    rw [← hW]
    have := VarC.new 64 (w.alloc (.cells #[.int .i64 m, .slice A n c] 28)) #[.int .i64 0, .int .i64 0]
    simpa using this
  have HG := Lib.hid (fun W0 => degree_nat m A n c d W0 hn hd)
  have HB := Lib.hid hwb
  have HW := Lib.hid hW
  have V2 := Lib.hid v2
  obtain ⟨x1, x2, x3⟩ := b1
  clear hwb hW v2 hn
  go_enter Try.func107, Try.ntmps107
  go_wp2
  rw [HW.out]
  go_region_held3 (fun w' => w'.cell? ⟨w.heap.size, 0, none⟩ = some (.int .i64 m) ∧ w'.cell? ⟨w.heap.size, 1, none⟩ = some (.slice A n c) ∧ w.heap.size < w'.heap.size) (first | exact ⟨x1, x2, x3⟩ | exact box_store (by omega) (by assumption) | exact box_call (by assumption) (by assumption)) (first
    | (go_at_call 145; refine (HG.out _).mono ?_; rintro e1 w1 ⟨rfl, hb1⟩; have hv := V2.out.keep (below_step (below_drew0 _) hb1); obtain ⟨q0, q1, q2, q3⟩ := hv.tells2))
  all_goals
    have h2 := (hv.set 0 (.int .i64 m)).set 1 (.int .i64 d)
    obtain ⟨f0, f1, _⟩ := h2.tells2
    have HF := Lib.hid (((below_step HB.out (below_step (below_drew0 _) hb1)).setCell (p := ⟨w.heap.size + 1, 0, none⟩) (by show w.heap.size ≤ w.heap.size + 1; omega) (.int .i64 m)).setCell (p := ⟨w.heap.size + 1, 1, none⟩) (by show w.heap.size ≤ w.heap.size + 1; omega) (.int .i64 d))
    clear h2 hb1 hv
    go_wp2
    exact bodyPost_ret (v := .agg #[.int .i64 m, .int .i64 d]) (by simp [results, Try.results107, go_sem, f0, f1]) rfl ⟨rfl, HF.out⟩

theorem gosC_any (i j g : Nat) (m : Int) (d : Nat) (A : Option Addr) (c : Nat) (l : List Int) (W : World) (hb : Box W g m A l.length c) (hs : SerOk m d l) (hr : RI W A l) (hij : i + j ≤ d) :
    Calls Try.prog 174 #[.int .i64 i, .int .i64 j, .pointer (some ⟨g, 0, none⟩)] W fun e w' => e = .returned (.int .i64 (if i = 0 then Ser.co l j else 0)) ∧ Below W.heap.size W w' := by
  obtain ⟨_, x2, _⟩ := hb
  by_cases hi : i = 0
  · rw [if_pos hi]
    subst hi
    obtain ⟨b, off, rfl, hlt, hc⟩ := hr.at j (by rw [hs.len]; omega)
    obtain ⟨X, hX⟩ : ∃ X, Ser.co l j = X := ⟨_, rfl⟩
    rw [hX] at hc ⊢
    have j0 : (0 : Int) ≤ (j : Int) := by omega
    have j1 : (j : Int) < (l.length : Int) := by have := hs.len; omega
    clear hX hr hs
    go_enter Try.func174, Try.ntmps174
    go_wp2
    go_ret
    exact ⟨rfl, Below.refl _ _⟩
  · rw [if_neg hi]
    have hi2 : ¬ (i : Int) = 0 := by omega
    obtain ⟨n1, n2⟩ := ne_facts hi2
    clear hi hr hs
    go_enter Try.func174, Try.ntmps174
    go_wp2
    go_ret
    exact ⟨rfl, Below.refl _ _⟩
/-- the table of a(x) for k = 0, of a(y) else -/
def gosF (l : List Int) (k : Int) : Nat → Nat → Int := fun i j => if k = 0 then (if j = 0 then Ser.co l i else 0) else (if i = 0 then Ser.co l j else 0)
theorem gosF_turned (m : Int) (d : Nat) (l : List Int) : (Pl.tab m d fun i j => Pl.pc (Pl.tab m d fun i j => if i = 0 then Ser.co l j else 0) j i) = Pl.tab m d (gosF l 0) :=
  Pl.tab_congr (fun i j h => by
    rw [Pl.pc_tab (by omega), Int.emod_emod]
    unfold gosF
    rw [if_pos rfl])
theorem gosF_plain (m : Int) (d : Nat) (l : List Int) (k : Int) (hk : ¬ k = 0) : (Pl.tab m d fun i j => if i = 0 then Ser.co l j else 0) = Pl.tab m d (gosF l k) :=
  Pl.tab_congr (fun i j h => by unfold gosF; rw [if_neg hk])
set_option maxHeartbeats 2000000 in
set_option maxRecDepth 100000 in
theorem gridOfSeries_any (m : Int) (d : Nat) (A : Option Addr) (c : Nat) (l : List Int) (k : Int) (w : World) (hs : SerOk m d l) (hr : RI w A l) :
    Calls Try.prog 143 #[.agg #[.int .i64 m, .slice A l.length c], .int .i64 k] w fun e w' => ∃ v, e = .returned (.agg #[.int .i64 m, .int .i64 d, v]) ∧ OwnR w' w.heap.size w'.heap.size v (Pl.tab m d (gosF l k)) ∧ Below w.heap.size w w' := by
  obtain ⟨W, hW⟩ : ∃ W, (w.alloc (.cells #[.int .i64 m, .slice A l.length c] 28)).alloc (.cells #[.int .i64 0, .int .i64 0, .slice none 0 0] 66) = W := ⟨_, rfl⟩
  have hwb : Below w.heap.size w W := by rw [← hW]; exact below_alloc _ (below_one _ _)
  have b1 : Box W w.heap.size m A l.length c := by rw [← hW]; exact (Box.newT _ _ _ _ _ _).keep (below_one _ _)
  have v2 : VarC 66 W (w.heap.size + 1) #[.int .i64 0, .int .i64 0, .slice none 0 0] := by
    rw [← hW]
    have := VarC.new 66 (w.alloc (.cells #[.int .i64 m, .slice A l.length c] 28)) #[.int .i64 0, .int .i64 0, .slice none 0 0]
    simpa using this
  have HG := Lib.hid (fun W0 => frameOfSeries_any m A l.length c d W0 hs.len (by have := hs.d2; omega))
  have hm1 := hs.m1
  have HS := Lib.hid (fun W0 (h : Below W.heap.size W W0) => filled_any m d 174 #[.pointer (some ⟨w.heap.size, 0, none⟩)] (fun i j => if i = 0 then Ser.co l j else 0) W0 (by omega) hs.m2 (by have := hs.d2; omega)
    (fun i j hij => by have := hs.red j; have := hs.m2; split <;> omega) (enters_fn Try.func174 (of_decide_eq_true (by kernel_rfl)) rfl)
    (fun i j W1 hij hb => gosC_any i j _ m d A c l W1 ((b1.keep h).keep hb) hs (((hr.below hwb).below h).below hb) hij))
  have HT := Lib.hid (fun (W0 : World) (A0 : Option Addr) (c0 : Nat) (h : RP W0 A0 (Pl.tab m d fun i j => if i = 0 then Ser.co l j else 0)) => turned_any m d A0 c0 _ W0 (Pl.Ok.of_tab hs.m1 hs.m2 hs.d1 hs.d2 _) h)
  have HB := Lib.hid hwb
  have HW := Lib.hid hW
  have V3 := Lib.hid v2
  obtain ⟨x1, x2, x3⟩ := b1
  by_cases hk : k = 0
  · subst hk
    rw [gosF_turned] at HT
    obtain ⟨T0, hT0⟩ : ∃ T0, (Pl.tab m d fun i j => if i = 0 then Ser.co l j else 0) = T0 := ⟨_, rfl⟩
    obtain ⟨T, hT⟩ : ∃ T, Pl.tab m d (gosF l 0) = T := ⟨_, rfl⟩
    rw [hT0] at HS HT
    rw [hT] at HT ⊢
    clear hwb hW v2 hr hs hT hT0
    go_enter Try.func143, Try.ntmps143
    go_wp2_with fail
    rw [HW.out]
    refine (HG.out _).mono ?_
    rintro e w1 ⟨rfl, hb1⟩
    go_wp2_with fail
    refine (HS.out _ hb1).mono ?_
    rintro e w2 ⟨v, rfl, ho2, hb2⟩
    obtain ⟨A1, c1, rfl, hp⟩ := ho2.len
    have HP := Lib.hid (hp.below (below_one w2 (.cells #[.int .i64 m, .int .i64 d, .slice A1 T0.length c1] 66)))
    have hb12 := below_alloc (.cells #[.int .i64 m, .int .i64 d, .slice A1 T0.length c1] 66) (below_step hb1 hb2)
    clear ho2 hp
    go_wp2_with fail
    refine (HT.out _ _ _ HP.out).mono ?_
    rintro e w3 ⟨v, rfl, ho, hb3⟩
    obtain ⟨A2, c2, rfl, -⟩ := ho.len
    have hb := below_step hb12 hb3
    have hv := V3.out.keep hb
    obtain ⟨q0, q1, q2, q3, q4, q5⟩ := hv.tells3
    obtain ⟨f0, f1, f2, f3, f4⟩ := fin_grid (w := w) hv ho (by have := V3.out.lt; have := hb12.size; omega) (by omega) (Nat.le_refl _) (below_step HB.out hb) (.int .i64 m) (.int .i64 d) (.slice A2 T.length c2)
    have F3 := Lib.hid (f3.low (lo' := w.heap.size) (by have := V3.out.lt; have := hb12.size; omega))
    have F4 := Lib.hid f4
    unfold set3 at f0 f1 f2
    clear f3 f4 ho hv hb hb12
    go_wp2
    exact bodyPost_ret (v := .agg #[.int .i64 m, .int .i64 d, .slice A2 T.length c2]) (by simp [results, Try.results143, go_sem, f0, f1, f2]) rfl ⟨_, rfl, F3.out, F4.out⟩
  · obtain ⟨n1, n2⟩ := ne_facts hk
    rw [← gosF_plain m d l k hk]
    obtain ⟨T, hT⟩ : ∃ T0, (Pl.tab m d fun i j => if i = 0 then Ser.co l j else 0) = T0 := ⟨_, rfl⟩
    rw [hT] at HS ⊢
    clear hwb hW v2 hr hs hT HT
    go_enter Try.func143, Try.ntmps143
    go_wp2_with fail
    rw [HW.out]
    refine (HG.out _).mono ?_
    rintro e w1 ⟨rfl, hb1⟩
    go_wp2_with fail
    refine (HS.out _ hb1).mono ?_
    rintro e w2 ⟨v, rfl, ho2, hb2⟩
    obtain ⟨A2, c2, rfl, hp⟩ := ho2.len
    have hb := below_alloc (.cells #[.int .i64 m, .int .i64 d, .slice A2 T.length c2] 66) (below_step hb1 hb2)
    have ho := ho2.keep (below_one w2 (.cells #[.int .i64 m, .int .i64 d, .slice A2 T.length c2] 66))
    have hv := V3.out.keep hb
    obtain ⟨q0, q1, q2, q3, q4, q5⟩ := hv.tells3
    obtain ⟨f0, f1, f2, f3, f4⟩ := fin_grid (w := w) hv ho (by have := V3.out.lt; have := hb1.size; omega) (by omega) (below_one w2 _).size (below_step HB.out hb) (.int .i64 m) (.int .i64 d) (.slice A2 T.length c2)
    have F3 := Lib.hid (f3.low (lo' := w.heap.size) (by have := V3.out.lt; have := hb1.size; omega))
    have F4 := Lib.hid f4
    unfold set3 at f0 f1 f2
    clear f3 f4 ho hv hb ho2 hp
    go_wp2
    exact bodyPost_ret (v := .agg #[.int .i64 m, .int .i64 d, .slice A2 T.length c2]) (by simp [results, Try.results143, go_sem, f0, f1, f2]) rfl ⟨_, rfl, F3.out, F4.out⟩
end Go.Proofs.Ytpmbojbdppbkgaa

/- Contracts of the program's look for faults of symmetry and of brackets. -/
namespace Go.Proofs.Ytpmbojbdppbkgaa
open Go.RowKit Go.WideShapes Go.ChangeShapes Go.ChangeAt

namespace Pl
theorem fau1_in {F : Nat → Nat → Int} {d i : Nat} {o : Option (List Int)} (hi : i < d + 1) (h : srch (fau1 d F) (d + 1 - i) i = o) : orE (srch (fau1j F i) (d + 1 - i - (i + 1)) (i + 1)) (srch (fau1 d F) (d + 1 - (i + 1)) (i + 1)) = o := by
  rw [show d + 1 - i = (d + 1 - (i + 1)) + 1 by omega, srch_step] at h
  unfold fau1 at h
  rw [show d + 1 - i - (i + 1) = d - i - i by omega]
  exact h
theorem fau1_go {F : Nat → Nat → Int} {d i j : Nat} {r o : Option (List Int)} (hj : i + j < d + 1) (h : orE (srch (fau1j F i) (d + 1 - i - j) j) r = o) (hx : F i j = F j i) : orE (srch (fau1j F i) (d + 1 - i - (j + 1)) (j + 1)) r = o := by
  rw [show d + 1 - i - j = (d + 1 - i - (j + 1)) + 1 by omega, srch_step] at h
  unfold fau1j at h
  rw [if_pos hx, orE_none] at h
  exact h
theorem fau1_no {F : Nat → Nat → Int} {d i j : Nat} {r o : Option (List Int)} (hj : i + j < d + 1) (h : orE (srch (fau1j F i) (d + 1 - i - j) j) r = o) (hx : ¬ F i j = F j i) : o = some [1, (i : Int), (j : Int)] := by
  rw [show d + 1 - i - j = (d + 1 - i - (j + 1)) + 1 by omega, srch_step] at h
  unfold fau1j at h
  rw [if_neg hx, orE_some, orE_some] at h
  exact h.symm
theorem fau1_out {F : Nat → Nat → Int} {d i j : Nat} {r o : Option (List Int)} (hj : ¬ i + j < d + 1) (h : orE (srch (fau1j F i) (d + 1 - i - j) j) r = o) : r = o := by
  rw [show d + 1 - i - j = 0 by omega] at h
  exact h
end Pl
set_option maxHeartbeats 8000000 in
set_option maxRecDepth 100000 in
theorem wrongPair_any (m : Int) (d : Nat) (A : Option Addr) (c : Nat) (t : List (List Int)) (w : World) (hs : Pl.Ok m d t) (hr : RP w A t) :
    Calls Try.prog 185 #[.agg #[.int .i64 m, .int .i64 d, .slice A t.length c]] w fun e w' => ∃ v, e = .returned v ∧ FauV w' w.heap.size v (Pl.fauS d (Pl.pc t)) ∧ Below w.heap.size w w' := by
  obtain ⟨b, off, rfl⟩ := hr.some (by rw [hs.len]; omega)
  have HG1 := Lib.hid (GBox.new 66 w m d (some ⟨b, off, none⟩) t.length c)
  have HWB := Lib.hid (below_one w (.cells #[.int .i64 m, .int .i64 d, .slice (some ⟨b, off, none⟩) t.length c] 66))
  have HS := Lib.hid hs
  have hd2 := hs.d2
  have HLR := Lib.hid (fun (k : Nat) W (hk : k ≤ d) => lenRow_any m d k W (by have := hs.d2; omega) hk)
  obtain ⟨o, ho⟩ : ∃ o, Pl.fauS d (Pl.pc t) = o := ⟨_, rfl⟩
  have HO := Lib.hid (show Pl.srch (Pl.fau1 d (Pl.pc t)) (d + 1 - 0) 0 = o from ho)
  rw [ho]
  obtain ⟨L, hL⟩ : ∃ L, t.length = L := ⟨_, rfl⟩
  have HL := Lib.hid hL
  have HLd := Lib.hid (hL.symm.trans hs.len)
  rw [hL] at HG1 HWB ⊢
  obtain ⟨W, hW⟩ : ∃ W, w.alloc (.cells #[.int .i64 m, .int .i64 d, .slice (some ⟨b, off, none⟩) L c] 66) = W := ⟨_, rfl⟩
  rw [hW] at HG1 HWB
  have HR := Lib.hid (hr.below HWB.out)
  have HW := Lib.hid hW
  have HB := HWB
  clear hs hr hL hW ho
  obtain ⟨x0, x1, x2, x3⟩ := HG1.out
  go_enter Try.func185, Try.ntmps185
  go_wp2
  rw [HW.out]
  go_wp2
  clear x0 x1 x2 x3
  go_loopw [3, 4, 9] (fun _ _ q wr => ∃ i : Nat, i ≤ d + 1 ∧ q = .int .i64 i ∧ Pl.srch (Pl.fau1 d (Pl.pc t)) (d + 1 - i) i = o ∧ Below W.heap.size W wr) (fun _ _ q _ => d + 1 - (intOf q).toNat)
  case atStart => exact ⟨0, Nat.zero_le _, rfl, HO.out, Below.refl _ _⟩
  case round =>
    clear HO
    obtain ⟨i, hi, rfl, hso, hbel⟩ := hrel
    have HBE := Lib.hid hbel
    clear hbel
    by_cases hlt : i < d + 1
    · have HIN := Lib.hid (Pl.fau1_in hlt hso)
      have HLK := Lib.hid (fun W => HLR.out i W (by omega))
      obtain ⟨N, hN⟩ : ∃ N, d - i + 1 = N := ⟨_, rfl⟩
      rw [hN] at HLK
      have HNN := Lib.hid hN
      have hN1 : N ≤ 11 := by omega
      have j1 : (i : Int) < (d : Int) + 1 := by omega
      obtain ⟨r, hr⟩ : ∃ r, Pl.srch (Pl.fau1 d (Pl.pc t)) (d + 1 - (i + 1)) (i + 1) = r := ⟨_, rfl⟩
      rw [hr] at HIN
      have HRR := Lib.hid hr
      clear hN hso hr
      go_wp2
      go_loopw [4] (fun q wr => ∃ j : Nat, j ≤ d + 2 ∧ q = .int .i64 j ∧ Pl.orE (Pl.srch (Pl.fau1j (Pl.pc t) i) (d + 1 - i - j) j) r = o ∧ Below W.heap.size W wr) (fun q _ => d + 3 - (intOf q).toNat)
      case atStart => exact ⟨i + 1, by omega, by first | rfl | go_num, HIN.out, HBE.out⟩
      case round =>
        clear HIN HBE
        obtain ⟨j, hj, rfl, hso, hbel⟩ := hrel
        have HBE := Lib.hid hbel
        obtain ⟨x0, x1, x2, x3⟩ := HG1.out.keep hbel
        go_wp2_with fail
        refine (HLK.out _).mono ?_
        rintro e w2 ⟨rfl, hb2⟩
        have HB2 := Lib.hid (below_step HBE.out hb2)
        clear hb2 x0 x1 x2 x3 hbel
        have hNN := HNN.out
        by_cases hjN : j < N
        · obtain ⟨p1, p2, p3, M, hM, x1, x2, x3⟩ := (HG1.out.keep HB2.out).num' HL.out HS.out (HR.out.below HB2.out) i j (by omega)
          obtain ⟨q1, q2, q3, M', hM', y1, y2, y3⟩ := (HG1.out.keep HB2.out).num' HL.out HS.out (HR.out.below HB2.out) j i (by omega)
          clear y1
          have hgo := Pl.fau1_go (F := Pl.pc t) (d := d) (i := i) (j := j) (by omega) hso
          have hno := Pl.fau1_no (F := Pl.pc t) (d := d) (i := i) (j := j) (by omega) hso
          obtain ⟨X, hX⟩ : ∃ X, Pl.pc t i j = X := ⟨_, rfl⟩
          obtain ⟨Y, hY⟩ : ∃ Y, Pl.pc t j i = Y := ⟨_, rfl⟩
          rw [hX, hY] at hgo hno
          rw [hX] at x3
          rw [hY] at y3
          have hLd := HLd.out
          have j2 : (0 : Int) ≤ (i : Int) := by omega
          have j3 : (i : Int) < (L : Int) := by omega
          have j4 : (0 : Int) ≤ (j : Int) := by omega
          have j5 : (j : Int) < (M : Int) := by omega
          have j8 : (j : Int) < (L : Int) := by omega
          have j9 : (i : Int) < (M' : Int) := by omega
          clear hso hX hY hM hM' hNN hLd
          by_cases hxy : X = Y
          · have HNX := Lib.hid (hgo hxy)
            subst hxy
            clear hgo hno
            go_wp2
            go_quiet (fail)
            go_wp2
            go_roundw
            case rel => exact ⟨j + 1, by have := HNN.out; omega, by go_num, HNX.out, below_drewN HB2.out _⟩
            case measure => simp only [intOf]; omega
          · have HNX := Lib.hid (hno hxy)
            obtain ⟨n1, n2⟩ : (X == Y) = false ∧ (X != Y) = true := ⟨by simpa using hxy, by simpa using hxy⟩
            clear hgo hno
            go_wp2
            go_quiet (fail)
            go_wp2
            go_ret
            exact ⟨_, rfl, by rw [HNX.out]; exact ⟨_, _, rfl, (OwnI.lit3 _ 1 (i : Int) (j : Int)).more (by first | exact (below_step HB.out HB2.out).size | exact (below_drewN (below_step HB.out HB2.out) _).size)⟩, below_step HB.out (below_alloc _ (by first | exact HB2.out | exact below_drewN HB2.out _))⟩
        · have HNX := Lib.hid (HRR.out.trans (Pl.fau1_out (by omega) hso))
          have j1 : ¬ (j : Int) < (N : Int) := by omega
          clear hso hNN
          go_wp2
          go_roundw
          case rel => exact ⟨i + 1, by omega, by go_num, HNX.out, HB2.out⟩
          case measure => simp only [intOf]; omega
    · obtain rfl : i = d + 1 := by omega
      rw [Nat.sub_self] at hso
      have HNO := Lib.hid (show o = none from hso.symm)
      clear hso
      go_wp2
      go_ret
      exact ⟨_, rfl, by rw [HNO.out]; exact rfl, below_step HB.out HBE.out⟩

/-! the powers of a grid -/
def pwTs (m : Int) (d : Nat) (F : Nat → Nat → Int) (n : Nat) : List (List (List Int)) := (List.range n).map (Pl.pwT m d F)
theorem pwTs_length (m : Int) (d : Nat) (F : Nat → Nat → Int) (n : Nat) : (pwTs m d F n).length = n := by simp [pwTs]
theorem pwTs_succ (m : Int) (d : Nat) (F : Nat → Nat → Int) (n : Nat) : pwTs m d F (n + 1) = pwTs m d F n ++ [Pl.pwT m d F n] := by simp [pwTs, List.range_succ]
theorem pwTs_get (m : Int) (d : Nat) (F : Nat → Nat → Int) (n i : Nat) (h : i < n) : (pwTs m d F n)[i]?.getD [] = Pl.pwT m d F i := by
  unfold pwTs
  rw [List.getElem?_map, List.getElem?_range h]; rfl
theorem pwT_ok {m : Int} {d : Nat} (m1 : 2 ≤ m) (m2 : m ≤ 10000) (d1 : 1 ≤ d) (d2 : d ≤ 10) (F : Nat → Nat → Int) (k : Nat) : Pl.Ok m d (Pl.pwT m d F k) := by
  cases k <;> exact Pl.Ok.of_tab m1 m2 d1 d2 _
theorem infoGrid : (Try.prog.info? 66).map (fun i => (i.zero, i.size, i.bytes)) = some (some (.agg #[.int .i64 0, .int .i64 0, .slice none 0 0]), 3, 40) := by kernel_rfl
theorem g_ne1 : (66 : TypeId) ≠ 2 := by decide
theorem g_ne2 : (66 : TypeId) ≠ 26 := by decide
/-- element i of a list of grids, in the walk's form -/
theorem OwnT.grid {m d : Value} {w : World} {lo : Nat} {v : Value} {ts : List (List (List Int))} (h : OwnT [m, d] 66 w lo v ts) (i : Nat) (hi : i < ts.length) :
    ∃ g c A' c', v = .slice (some ⟨g, 0, none⟩) ts.length c ∧ g < w.heap.size ∧ lo ≤ g ∧ w.cell? ⟨g, i * 3, none⟩ = some m ∧ w.cell? ⟨g, i * 3 + 1, none⟩ = some d ∧ w.cell? ⟨g, i * 3 + 2, none⟩ = some (.slice A' (ts[i]?.getD []).length c') ∧ RP w A' (ts[i]?.getD []) := by
  obtain ⟨g, c, A', c', h1, h2, h3, h4, h5, h6⟩ := h.at i hi
  exact ⟨g, c, A', c', h1, h2, h3, h6 0 m rfl, h6 1 d rfl, h4, h5⟩
theorem one_grid {m : Int} {d : Nat} (F : Nat → Nat → Int) (m1 : 2 ≤ m) : Pl.tab m d (gosF (Ser.cut m d (Ser.mon 0 1)) 0) = Pl.pwT m d F 0 := by
  show _ = Pl.tab m d (Pl.one2 1)
  refine Pl.tab_congr (Pl.Eq.of m d (fun p q hpq => ?_))
  unfold gosF Pl.one2
  rw [if_pos rfl]
  by_cases hq : q = 0
  · rw [if_pos hq, Ser.co_cut (by omega)]
    unfold Ser.mon
    by_cases hp : p = 0
    · rw [if_pos hp, if_pos ⟨hp, hq⟩, Int.emod_eq_of_lt (by omega) (by omega)]
    · rw [if_neg hp, if_neg (fun h => hp h.1), Int.zero_emod]
  · rw [if_neg hq, if_neg (fun h => hq h.2)]
/-- in the walk's form: a list's element and a grid's box are kept by a call, and by an append to the list -/
theorem el_keep {w w' : World} {g k g1 : Nat} {x y z x1 y1 z1 : Value} (hb : Below w.heap.size w w')
    (h : (w.cell? ⟨g, k * 3, none⟩ = some x ∧ w.cell? ⟨g, k * 3 + 1, none⟩ = some y ∧ w.cell? ⟨g, k * 3 + 2, none⟩ = some z ∧ g < w.heap.size) ∧ (w.cell? ⟨g1, 0, none⟩ = some x1 ∧ w.cell? ⟨g1, 1, none⟩ = some y1 ∧ w.cell? ⟨g1, 2, none⟩ = some z1 ∧ g1 < w.heap.size)) :
    (w'.cell? ⟨g, k * 3, none⟩ = some x ∧ w'.cell? ⟨g, k * 3 + 1, none⟩ = some y ∧ w'.cell? ⟨g, k * 3 + 2, none⟩ = some z ∧ g < w'.heap.size) ∧ (w'.cell? ⟨g1, 0, none⟩ = some x1 ∧ w'.cell? ⟨g1, 1, none⟩ = some y1 ∧ w'.cell? ⟨g1, 2, none⟩ = some z1 ∧ g1 < w'.heap.size) :=
  ⟨⟨(hb.cell (p := ⟨g, k * 3, none⟩) h.1.2.2.2).trans h.1.1, (hb.cell (p := ⟨g, k * 3 + 1, none⟩) h.1.2.2.2).trans h.1.2.1, (hb.cell (p := ⟨g, k * 3 + 2, none⟩) h.1.2.2.2).trans h.1.2.2.1, Nat.lt_of_lt_of_le h.1.2.2.2 hb.size⟩,
   ⟨(hb.cell (p := ⟨g1, 0, none⟩) h.2.2.2.2).trans h.2.1, (hb.cell (p := ⟨g1, 1, none⟩) h.2.2.2.2).trans h.2.2.1, (hb.cell (p := ⟨g1, 2, none⟩) h.2.2.2.2).trans h.2.2.2.1, Nat.lt_of_lt_of_le h.2.2.2.2 hb.size⟩⟩
theorem el_push {w w' : World} {lo g k n g1 : Nat} {x y z x1 y1 z1 : Value} (hk : ∀ j, j < n * 3 → w'.cell? ⟨g, j, none⟩ = w.cell? ⟨g, j, none⟩) (hkn : k < n) (hg1 : g1 < lo) (hb : Below lo w w')
    (h : (w.cell? ⟨g, k * 3, none⟩ = some x ∧ w.cell? ⟨g, k * 3 + 1, none⟩ = some y ∧ w.cell? ⟨g, k * 3 + 2, none⟩ = some z ∧ g < w.heap.size) ∧ (w.cell? ⟨g1, 0, none⟩ = some x1 ∧ w.cell? ⟨g1, 1, none⟩ = some y1 ∧ w.cell? ⟨g1, 2, none⟩ = some z1 ∧ g1 < w.heap.size)) :
    (w'.cell? ⟨g, k * 3, none⟩ = some x ∧ w'.cell? ⟨g, k * 3 + 1, none⟩ = some y ∧ w'.cell? ⟨g, k * 3 + 2, none⟩ = some z ∧ g < w'.heap.size) ∧ (w'.cell? ⟨g1, 0, none⟩ = some x1 ∧ w'.cell? ⟨g1, 1, none⟩ = some y1 ∧ w'.cell? ⟨g1, 2, none⟩ = some z1 ∧ g1 < w'.heap.size) :=
  ⟨⟨(hk (k * 3) (by omega)).trans h.1.1, (hk (k * 3 + 1) (by omega)).trans h.1.2.1, (hk (k * 3 + 2) (by omega)).trans h.1.2.2.1, Nat.lt_of_lt_of_le h.1.2.2.2 hb.size⟩,
   ⟨(hb.cell (p := ⟨g1, 0, none⟩) hg1).trans h.2.1, (hb.cell (p := ⟨g1, 1, none⟩) hg1).trans h.2.2.1, (hb.cell (p := ⟨g1, 2, none⟩) hg1).trans h.2.2.2.1, Nat.lt_of_lt_of_le h.2.2.2.2 hb.size⟩⟩
theorem pre_one (m d : Int) : ∀ y, y ∈ [Value.int .i64 m, Value.int .i64 d] → y.oneCell' = true := by
  intro y hy
  simp at hy
  rcases hy with rfl | rfl <;> rfl
set_option maxHeartbeats 8000000 in
set_option maxRecDepth 100000 in
theorem powers_any (m : Int) (d : Nat) (A : Option Addr) (c : Nat) (t : List (List Int)) (w : World) (hs : Pl.Ok m d t) (hr : RP w A t) :
    Calls Try.prog 188 #[.agg #[.int .i64 m, .int .i64 d, .slice A t.length c]] w fun e w' => ∃ v, e = .returned v ∧ OwnT [.int .i64 m, .int .i64 d] 66 w' w.heap.size v (pwTs m d (Pl.pc t) (d + 1)) ∧ Below w.heap.size w w' := by
  have HG1 := Lib.hid (GBox.new 66 w m d A t.length c)
  have HWB := Lib.hid (below_one w (.cells #[.int .i64 m, .int .i64 d, .slice A t.length c] 66))
  obtain ⟨W, hW⟩ : ∃ W, w.alloc (.cells #[.int .i64 m, .int .i64 d, .slice A t.length c] 66) = W := ⟨_, rfl⟩
  rw [hW] at HG1 HWB
  have HW := Lib.hid hW
  have HB := HWB
  have m1 := hs.m1
  have m2 := hs.m2
  have hd1 := hs.d1
  have hd2 := hs.d2
  have HR := Lib.hid (hr.below HWB.out)
  have HMO := Lib.hid (fun W0 => monomial_any m d 0 1 W0 (by omega) m2 (by omega) (by omega) (by omega))
  have HGS := Lib.hid (fun (W0 : World) (A0 : Option Addr) (c0 : Nat) (h : RI W0 A0 (Ser.cut m d (Ser.mon 0 1))) => gridOfSeries_any m d A0 c0 _ 0 W0 ⟨m1, m2, by omega, by omega, Ser.cut_length _ _ _, Ser.cut_red (by omega) _ _⟩ h)
  have HTM := Lib.hid (fun (k : Nat) (A1 : Option Addr) (c1 : Nat) (W0 : World) (h : RP W0 A1 (Pl.pwT m d (Pl.pc t) k)) (h' : RP W0 A t) => by
    have := gtimes_any m d A1 c1 (Pl.pwT m d (Pl.pc t) k) A c t W0 (pwT_ok m1 m2 hd1 hd2 _ k) hs h h'
    rw [Pl.pwT_length] at this
    exact this)
  obtain ⟨L0, hL0⟩ : ∃ L0, Ser.cut m d (Ser.mon 0 1) = L0 := ⟨_, rfl⟩
  have hone : Pl.tab m d (gosF L0 0) = Pl.pwT m d (Pl.pc t) 0 := by rw [← hL0]; exact one_grid _ m1
  rw [hL0] at HMO HGS
  rw [hone] at HGS
  obtain ⟨L, hL⟩ : ∃ L, t.length = L := ⟨_, rfl⟩
  rw [hL] at HG1 HW HTM ⊢
  obtain ⟨x1, x2, x3, x4⟩ := HG1.out
  clear hW hr hs hL hL0 hone
  go_enter Try.func188, Try.ntmps188
  go_wp2_with fail
  rw [HW.out]
  refine (HMO.out _).mono ?_
  rintro e wa ⟨sa, rfl, oa, ba⟩
  obtain ⟨Aa, ca, rfl, ra⟩ := oa.form
  go_wp2_with fail
  refine (HGS.out _ _ _ ra).mono ?_
  rintro e wb ⟨sb, rfl, ob, bb⟩
  obtain ⟨Ab, cb, rfl, -⟩ := ob.len
  rw [Pl.pwT_length] at ob ⊢
  have hsz := ba.size
  have hsz2 := (below_step ba bb).size
  have HO := Lib.hid (OwnT.one [.int .i64 m, .int .i64 d] 66 (lo := W.heap.size) hsz2 (ob.low hsz) (Nat.le_refl _))
  have HBB := Lib.hid (below_alloc (.cells #[.int .i64 m, .int .i64 d, .slice Ab (d + 1) cb] 66) (below_step ba bb))
  obtain ⟨X, hX⟩ : ∃ X, wb.alloc (.cells #[.int .i64 m, .int .i64 d, .slice Ab (d + 1) cb] 66) = X := ⟨_, rfl⟩
  rw [hX] at HBB
  have HX := Lib.hid hX
  have HO' : Hid (OwnT [.int .i64 m, .int .i64 d] 66 X W.heap.size (.slice (some ⟨wb.heap.size, 0, none⟩) 1 1) (pwTs m d (Pl.pc t) (0 + 1))) := Lib.hid (by rw [← hX]; exact HO.out)
  clear oa ba ob bb ra hsz hsz2 hX HO x1 x2 x3 x4
  obtain ⟨x1, x2, x3, x4⟩ := HG1.out.keep HBB.out
  rw [← HX.out] at x1 x2 x3
  go_wp2
  clear x1 x2 x3 x4
  rw [HX.out]
  clear HX
  go_loopw [3, 4, 17] (fun s3 _ q wr => ∃ k : Nat, k ≤ d ∧ q = .int .i64 k ∧ OwnT [.int .i64 m, .int .i64 d] 66 wr W.heap.size s3 (pwTs m d (Pl.pc t) (k + 1)) ∧ Below W.heap.size W wr) (fun _ _ q _ => d - (intOf q).toNat)
  case atStart => exact ⟨0, Nat.zero_le _, rfl, HO'.out, HBB.out⟩
  case round =>
    clear HO' HBB
    obtain ⟨k, hk, rfl, hown, hbel⟩ := hrel
    have HBE := Lib.hid hbel
    have HO := Lib.hid hown
    by_cases hkd : k < d
    · obtain ⟨g, cg, Ak, ck, rfl, k0, klo, k1, k2, k3, k4⟩ := hown.grid k (by rw [pwTs_length]; omega)
      rw [pwTs_get _ _ _ _ _ (by omega), Pl.pwT_length] at k3
      rw [pwTs_get _ _ _ _ _ (by omega)] at k4
      rw [pwTs_length] at HO ⊢
      obtain ⟨y1, y2, y3, y4⟩ := HG1.out.keep hbel
      have HTK := Lib.hid (HTM.out k Ak ck wr.drew (k4.below (below_drew0 wr)) (HR.out.below (below_step hbel (below_drew0 wr))))
      have hmul : Pl.tab m d (Pl.mul2 (Pl.pc (Pl.pwT m d (Pl.pc t) k)) (Pl.pc t)) = Pl.pwT m d (Pl.pc t) (k + 1) := rfl
      rw [hmul] at HTK
      have hst := pwTs_succ m d (Pl.pc t) (k + 1)
      obtain ⟨R, hR⟩ : ∃ R, Pl.pwT m d (Pl.pc t) (k + 1) = R := ⟨_, rfl⟩
      have hRl : R.length = d + 1 := by rw [← hR]; exact Pl.pwT_length _ _ _ _
      rw [hR] at HTK hst
      have HST := Lib.hid hst
      have j0 : (0 : Int) ≤ (k : Int) := by omega
      have j1 : (k : Int) < (d : Int) := by omega
      obtain ⟨n, hn⟩ : ∃ n, k + 1 = n := ⟨_, rfl⟩
      have j2 : (k : Int) < (n : Int) := by omega
      have j5 : k < n := by omega
      have HLEN := Lib.hid (show (pwTs m d (Pl.pc t) (k + 1)).length ≤ 1000000 by rw [pwTs_length]; omega)
      obtain ⟨P, hP⟩ : ∃ P, pwTs m d (Pl.pc t) (k + 1) = P := ⟨_, rfl⟩
      have hPn : P.length = k + 1 := by rw [← hP, pwTs_length]
      rw [hP] at HO HST HLEN
      rw [hn] at HO hPn ⊢
      have HPN := Lib.hid hPn
      have HSZ := Lib.hid HBE.out.size
      clear hst hmul hR hown hbel k4 hP hn hPn
      have X0 := Lib.hid (el_keep (below_drew0 wr) ⟨⟨k1, k2, k3, k0⟩, ⟨y1, y2, y3, y4⟩⟩)
      have HWL := Lib.hid (show w.heap.size < W.heap.size from HG1.out.2.2.2)
      clear y1 y2 y3 y4 k1 k2 k3
      go_wp2
      go_region_held3 (fun w' => (w'.cell? ⟨g, k * 3, none⟩ = some (.int .i64 m) ∧ w'.cell? ⟨g, k * 3 + 1, none⟩ = some (.int .i64 d) ∧ w'.cell? ⟨g, k * 3 + 2, none⟩ = some (.slice Ak (d + 1) ck) ∧ g < w'.heap.size) ∧ (w'.cell? ⟨w.heap.size, 0, none⟩ = some (.int .i64 m) ∧ w'.cell? ⟨w.heap.size, 1, none⟩ = some (.int .i64 d) ∧ w'.cell? ⟨w.heap.size, 2, none⟩ = some (.slice A L c) ∧ w.heap.size < w'.heap.size)) (first | exact X0.out | exact el_push hkp j5 HWL.out hpb (by assumption) | exact el_keep hb3 (by assumption) | exact el_keep (below_one _ _) (by assumption)) (first
        | (go_at_call 146; with_reducible refine Calls.mono HTK.out ?_; rintro e w3 ⟨v3, rfl, ho3, hb3⟩; obtain ⟨A3, c3, rfl, -⟩ := ho3.len; rw [hRl] at ho3 ⊢)
        | (refine step_pushK (pre := [.int .i64 m, .int .i64 d]) (e := 66) _ _ _ (by rfl) (by rfl) Try.underlying146 g_ne1 g_ne2 (.agg #[.int .i64 0, .int .i64 0, .slice none 0 0]) 40 infoGrid rfl (by decide) (pre_one m d) W.heap.size w3.heap.size g n cg P (by rfl) HPN.out ((HO.out.keep (below_step (below_drew0 wr) hb3)).keep (below_one _ _)) (.slice A3 (d + 1) c3) R ((ho3.low (Nat.le_trans HSZ.out (below_drew0 wr).size)).keep (below_one _ _)) (by simp) w3.heap.size (by rfl) (laid w3 [.int .i64 m, .int .i64 d, .slice A3 (d + 1) c3] _) HLEN.out (Nat.le_trans HSZ.out (below_step (below_step (below_drew0 wr) hb3) (below_one _ _)).size) ?_; intro v' w4 ho4 hpb hkp))
      all_goals
        have HO4 := Lib.hid ho4
        have HB4 := Lib.hid (show Below W.heap.size W w4 from (below_step HBE.out (below_step (below_step (below_drew0 wr) hb3) (below_one w3 (.cells #[.int .i64 m, .int .i64 d, .slice A3 (d + 1) c3] 66)))).trans hpb)
        clear ho4 hpb ho3 hb3
        go_wp2
        go_roundw
        case rel => exact ⟨k + 1, by omega, by go_num, by rw [HST.out]; exact HO4.out, HB4.out⟩
        case measure => simp only [intOf]; omega
    · obtain rfl : k = d := by omega
      clear hown hbel
      go_wp2
      go_ret
      exact ⟨_, rfl, HO.out.more HB.out.size, below_step HB.out HBE.out⟩
end Go.Proofs.Ytpmbojbdppbkgaa

