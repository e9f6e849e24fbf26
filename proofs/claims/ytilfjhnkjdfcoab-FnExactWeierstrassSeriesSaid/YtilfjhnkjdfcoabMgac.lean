/- Texts of contracts, joined. -/
import Derived.Test.YtilfjhnkjdfcoabMgab
import Derived.Test.YtilfjhnkjdfcoabMgaa
import Derived.OrdersHeld
import Derived.Deep.RegionHeld3
import Derived.Deep.DrawnRows
/- Contracts of monomials, multiples and products of series, of the program. -/
namespace Go.Proofs.Ytilfjhnkjdfcoab
open Go.RowKit Go.WideShapes Go.ChangeShapes Go.ChangeAt

/-- a block of one number -/
def Cel (w : World) (g : Nat) (x : Int) : Prop := w.cell? ⟨g, 0, none⟩ = some (.int .i64 x) ∧ g < w.heap.size
theorem Cel.new (w : World) (x : Int) : Cel (w.alloc (.cells #[.int .i64 x] 2)) w.heap.size x := by
  refine ⟨?_, by simp⟩
  rw [World.cell?_alloc_at _ _ _ _ rfl]; rfl
theorem Cel.keep {w w' : World} {g : Nat} {x : Int} (h : Cel w g x) (hb : Below w.heap.size w w') : Cel w' g x :=
  ⟨(hb.cell (p := ⟨g, 0, none⟩) h.2).trans h.1, Nat.lt_of_lt_of_le h.2 hb.size⟩

theorem monoC_any (n k : Nat) (g g' : Nat) (c : Int) (W : World) (h1 : Cel W g k) (h2 : Cel W g' c) :
    Calls Try.prog 97 #[.int .i64 n, .pointer (some ⟨g, 0, none⟩), .pointer (some ⟨g', 0, none⟩)] W fun e w' => e = .returned (.int .i64 (Ser.mon k c n)) ∧ Below W.heap.size W w' := by
  obtain ⟨x1, _⟩ := h1
  obtain ⟨x2, _⟩ := h2
  by_cases h : n = k
  · subst h
    have HE := Lib.hid (show Ser.mon n c n = c by unfold Ser.mon; rw [if_pos rfl])
    go_enter Try.func97, Try.ntmps97
    go_wp2
    go_ret
    exact ⟨ret_int HE.out.symm, Below.refl _ _⟩
  · have HE := Lib.hid (show Ser.mon k c n = 0 by unfold Ser.mon; rw [if_neg h])
    have hn : ¬ (n : Int) = (k : Int) := by omega
    obtain ⟨n1, n2⟩ : ((n : Int) == (k : Int)) = false ∧ ((n : Int) != (k : Int)) = true := ⟨by simpa using hn, by simpa using hn⟩
    clear h
    go_enter Try.func97, Try.ntmps97
    go_wp2
    go_ret
    exact ⟨ret_int HE.out.symm, Below.refl _ _⟩

theorem mon_bd (k : Nat) (c lo hi : Int) (h1 : lo ≤ 0) (h2 : 0 ≤ hi) (h3 : lo ≤ c) (h4 : c ≤ hi) (n : Nat) : lo ≤ Ser.mon k c n ∧ Ser.mon k c n ≤ hi := by
  unfold Ser.mon; split <;> omega

set_option maxHeartbeats 2000000 in
theorem monomial_any (m : Int) (d k : Nat) (c : Int) (w : World) (h1 : 1 ≤ m) (h2 : m ≤ 10000) (hd : d ≤ 1000) (h3 : -1000000 ≤ c) (h4 : c ≤ 1000000) :
    Calls Try.prog 57 #[.int .i64 m, .int .i64 d, .int .i64 k, .int .i64 c] w fun e w' => ∃ v, e = .returned (.agg #[.int .i64 m, v]) ∧ OwnI w' w.heap.size v (Ser.cut m d (Ser.mon k c)) ∧ Below w.heap.size w w' := by
  obtain ⟨W, hW⟩ : ∃ W, ((w.alloc (.cells #[.int .i64 k] 2)).alloc (.cells #[.int .i64 c] 2)).alloc (.cells #[.int .i64 0, .slice none 0 0] 24) = W := ⟨_, rfl⟩
  have hwb : Below w.heap.size w W := by rw [← hW]; exact below_alloc _ (below_alloc _ (below_one _ _))
  have b1 : Cel W w.heap.size k := by rw [← hW]; exact ((Cel.new w k).keep (below_one _ _)).keep (below_one _ _)
  have b2 : Cel W (w.heap.size + 1) c := by
    rw [← hW]
    have := (Cel.new (w.alloc (.cells #[.int .i64 k] 2)) c).keep (below_one _ (.cells #[.int .i64 0, .slice none 0 0] 24))
    simpa using this
  have v3 : Var2 W (w.heap.size + 1 + 1) (.int .i64 0) (.slice none 0 0) := by
    rw [← hW]
    have := Var2.new ((w.alloc (.cells #[.int .i64 k] 2)).alloc (.cells #[.int .i64 c] 2)) (.int .i64 0) (.slice none 0 0)
    simpa using this
  have V3 := Lib.hid v3
  have HB := Lib.hid hwb
  have HW := Lib.hid hW
  have HS := Lib.hid (seriesOf_any m d 97 #[.pointer (some ⟨w.heap.size, 0, none⟩), .pointer (some ⟨w.heap.size + 1, 0, none⟩)] (Ser.mon k c) W h1 h2 hd
    (fun n _ => mon_bd k c _ _ (by omega) (by omega) (by omega) (by omega) n)
    (enters_fn Try.func97 (of_decide_eq_true (by kernel_rfl)) rfl)
    (fun n W1 hn hb => monoC_any n k _ _ c W1 (b1.keep hb) (b2.keep hb)))
  obtain ⟨L, hL⟩ : ∃ L, Ser.cut m d (Ser.mon k c) = L := ⟨_, rfl⟩
  rw [hL] at HS ⊢
  clear b1 b2 v3 hwb hW hL
  go_enter Try.func57, Try.ntmps57
  go_wp2_with fail
  rw [HW.out]
  refine HS.out.mono ?_
  rintro e w2 ⟨v, rfl, ho, hb⟩
  obtain ⟨A2, c2, rfl, _⟩ := ho.form
  have hv := V3.out.keep hb
  have q0 := hv.c0
  have q1 := hv.c1
  have q2 := hv.fz 0
  have q3 := hv.fz 1
  obtain ⟨f0, f1, f2, f3⟩ := fin_var (w := w) hv ho (by have := V3.out.lt; omega) (by omega) (below_step HB.out hb) (.int .i64 m) (.slice A2 L.length c2)
  have F2 := Lib.hid f2
  have F3 := Lib.hid f3
  clear f2 f3 hv ho hb
  go_wp2
  exact bodyPost_ret (v := .agg #[.int .i64 m, .slice A2 L.length c2]) (by simp [results, Try.results57, go_sem, f0, f1]) rfl ⟨_, rfl, F2.out, F3.out⟩

theorem mul_bd {x y : Int} (h1 : 0 ≤ x) (h2 : x ≤ 10000) (h3 : -10000 ≤ y) (h4 : y ≤ 10000) : -100000000 ≤ x * y ∧ x * y ≤ 100000000 := by
  constructor
  · have := Int.mul_le_mul_of_nonneg_left (c := x) h3 h1
    have e : x * -10000 = -(x * 10000) := Int.mul_neg _ _
    omega
  · have := Int.mul_le_mul_of_nonneg_left (c := x) h4 h1
    omega
set_option maxHeartbeats 1000000 in
theorem scaledC_any (n : Nat) (g g' : Nat) (m : Int) (A : Option Addr) (c : Nat) (l : List Int) (k : Int) (W : World)
    (hb : Box W g m A l.length c) (hb' : Cel W g' k) (hr : RI W A l) (h1 : n < l.length) (h3 : 0 ≤ Ser.co l n) (h4 : Ser.co l n ≤ 10000) (h5 : -10000 ≤ k) (h6 : k ≤ 10000) :
    Calls Try.prog 100 #[.int .i64 n, .pointer (some ⟨g, 0, none⟩), .pointer (some ⟨g', 0, none⟩)] W fun e w' => e = .returned (.int .i64 (Ser.co l n * k)) ∧ Below W.heap.size W w' := by
  obtain ⟨b, off, rfl, hlt, hc⟩ := hr.at n h1
  obtain ⟨x1, x2, _⟩ := hb
  obtain ⟨y1, _⟩ := hb'
  obtain ⟨X, hX⟩ : ∃ X, Ser.co l n = X := ⟨_, rfl⟩
  rw [hX] at hc h3 h4 ⊢
  obtain ⟨p1, p2⟩ := mul_bd h3 h4 h5 h6
  have j1 : (0 : Int) ≤ (n : Int) := by omega
  have j2 : (n : Int) < (l.length : Int) := by omega
  clear hr hX
  go_enter Try.func100, Try.ntmps100
  go_wp2
  go_quiet (fail)
  go_wp2
  go_ret
  exact ⟨rfl, below_drewN (Below.refl _ _) _⟩

def scaL (m : Int) (d : Nat) (l : List Int) (k : Int) : List Int := Ser.cut m d fun n => Ser.co l n * k
set_option maxHeartbeats 2000000 in
set_option maxRecDepth 100000 in
theorem scaled_any (m : Int) (d : Nat) (A : Option Addr) (c : Nat) (l : List Int) (k : Int) (w : World) (hs : SerOk m d l) (hr : RI w A l) (h5 : -10000 ≤ k) (h6 : k ≤ 10000) :
    Calls Try.prog 59 #[.agg #[.int .i64 m, .slice A l.length c], .int .i64 k] w fun e w' => ∃ v, e = .returned (.agg #[.int .i64 m, v]) ∧ OwnI w' w.heap.size v (scaL m d l k) ∧ Below w.heap.size w w' := by
  obtain ⟨W, hW⟩ : ∃ W, (((w.alloc (.cells #[.int .i64 m, .slice A l.length c] 24)).alloc (.cells #[.int .i64 k] 2)).alloc (.cells #[.int .i64 0, .slice none 0 0] 24)) = W := ⟨_, rfl⟩
  have hwb : Below w.heap.size w W := by rw [← hW]; exact below_alloc _ (below_alloc _ (below_one _ _))
  have b1 : Box W w.heap.size m A l.length c := by rw [← hW]; exact ((Box.new w m A l.length c).keep (below_one _ _)).keep (below_one _ _)
  have b2 : Cel W (w.heap.size + 1) k := by
    rw [← hW]
    have := (Cel.new (w.alloc (.cells #[.int .i64 m, .slice A l.length c] 24)) k).keep (below_one _ (.cells #[.int .i64 0, .slice none 0 0] 24))
    simpa using this
  have v3 : Var2 W (w.heap.size + 1 + 1) (.int .i64 0) (.slice none 0 0) := by
    rw [← hW]
    have := Var2.new ((w.alloc (.cells #[.int .i64 m, .slice A l.length c] 24)).alloc (.cells #[.int .i64 k] 2)) (.int .i64 0) (.slice none 0 0)
    simpa using this
  have B1 := Lib.hid b1
  have B2 := Lib.hid b2
  have V3 := Lib.hid v3
  have HB := Lib.hid hwb
  have HW := Lib.hid hW
  have R1 := Lib.hid (hr.below hwb)
  have HS := Lib.hid (fun W0 (h0 : Below W.heap.size W W0) => seriesOf_any m d 100 #[.pointer (some ⟨w.heap.size, 0, none⟩), .pointer (some ⟨w.heap.size + 1, 0, none⟩)] (fun n => Ser.co l n * k) W0 (by have := hs.m1; omega) hs.m2 (by have := hs.d2; omega)
    (fun n _ => by have h1 := hs.red n; have h3 := hs.m2; have := mul_bd h1.1 (by omega) h5 h6; omega)
    (enters_fn Try.func100 (of_decide_eq_true (by kernel_rfl)) rfl)
    (fun n W1 hn hb => by
      have h1 := hs.red n
      have h3 := hs.m2
      have hb2 := h0.trans (hb.mono h0.size)
      exact scaledC_any n _ _ m A c l k W1 (B1.out.keep hb2) (B2.out.keep hb2) (R1.out.below hb2) (by rw [hs.len]; omega) (by omega) (by omega) h5 h6))
  have HL := Lib.hid hs.len
  have HD := Lib.hid hs.d2
  obtain ⟨L, hLL⟩ : ∃ L, scaL m d l k = L := ⟨_, rfl⟩
  unfold scaL at hLL ⊢
  rw [hLL] at HS ⊢
  clear b1 b2 v3 hwb hW hr hs hLL
  go_enter Try.func59, Try.ntmps59
  go_wp2
  rw [HW.out]
  obtain ⟨x1, x2, x3⟩ := B1.out
  go_region_held3 (fun w' => w'.cell? ⟨w.heap.size, 0, none⟩ = some (.int .i64 m) ∧ w'.cell? ⟨w.heap.size, 1, none⟩ = some (.slice A l.length c) ∧ w.heap.size < w'.heap.size) (first | exact ⟨x1, x2, x3⟩ | exact box_store (by omega) (by assumption) | exact box_call (by assumption) (by assumption)) (first
    | (go_at_call 98; refine (degree_nat _ _ _ _ d _ HL.out (by have := HD.out; omega)).mono ?_; rintro e1 w1 ⟨rfl, hb1⟩)
    | (go_at_call 96; refine (HS.out _ ((below_drew0 W).trans hb1)).mono ?_; rintro e2 w2 ⟨v, rfl, ho2, hb2⟩; obtain ⟨A2, c2, rfl, _⟩ := ho2.form; have hv := V3.out.keep (((below_drew0 W).trans hb1).trans (hb2.mono ((below_drew0 W).trans hb1).size)); have q0 := hv.c0; have q1 := hv.c1; have q2 := hv.fz 0; have q3 := hv.fz 1))
  all_goals
    have hz := ((below_drew0 W).trans hb1).size
    have hg := x3
    have hw2 : Below w.heap.size w w2 := (HB.out.trans (((below_drew0 W).trans hb1).mono HB.out.size)).trans (hb2.mono (by have := HB.out.size; omega))
    obtain ⟨f0, f1, f2, f3⟩ := fin_var (w := w) hv ho2 (by have := V3.out.lt; omega) (by omega) hw2 (.int .i64 m) (.slice A2 L.length c2)
    have F2 := Lib.hid f2
    have F3 := Lib.hid f3
    clear f2 f3 hw2 ho2 hb2 hb1
    go_wp2
    refine bodyPost_ret (v := .agg #[.int .i64 m, .slice A2 L.length c2]) (by simp [results, Try.results59, go_sem, f0, f1]) rfl ⟨_, rfl, F2.out, F3.out⟩

/-! products -/
set_option maxHeartbeats 4000000 in
theorem productAt_any (m : Int) (d n : Nat) (A : Option Addr) (c : Nat) (l : List Int) (m' : Int) (A' : Option Addr) (c' : Nat) (l' : List Int) (w : World) (hs : SerOk m d l) (hs' : SerOk m d l') (hr : RI w A l) (hr' : RI w A' l') (hn : n ≤ d) :
    Calls Try.prog 102 #[.agg #[.int .i64 m, .slice A l.length c], .agg #[.int .i64 m', .slice A' l'.length c'], .int .i64 n] w fun e w' => e = .returned (.int .i64 (Ser.cv n (Ser.co l) (Ser.co l'))) ∧ Below w.heap.size w w' := by
  obtain ⟨W, hW⟩ : ∃ W, (w.alloc (.cells #[.int .i64 m, .slice A l.length c] 24)).alloc (.cells #[.int .i64 m', .slice A' l'.length c'] 24) = W := ⟨_, rfl⟩
  obtain ⟨b1, b2, hwb⟩ := box2_new w m m' A A' l.length c l'.length c' W hW
  obtain ⟨x1, x2, _⟩ := b1
  obtain ⟨y1, y2, _⟩ := b2
  have HB := Lib.hid hwb
  have HW := Lib.hid hW
  have R1 := Lib.hid (hr.below hwb)
  have R2 := Lib.hid (hr'.below hwb)
  have HS := Lib.hid hs
  have HS' := Lib.hid hs'
  have HD := hs.d2
  obtain ⟨f, hf⟩ : ∃ f, f = fun i => Ser.co l i * Ser.co l' (n - i) := ⟨_, rfl⟩
  have HE := Lib.hid (show Ser.cv n (Ser.co l) (Ser.co l') = Ser.psum f (n + 1) by rw [hf]; exact Ser.cv_psum _ _ _)
  have HF := Lib.hid hf
  clear hwb hW hr hr' hs hs' hf
  go_enter Try.func102, Try.ntmps102
  go_wp2
  rw [HW.out]
  go_loopw [7, 8, 11] (fun s _ i wr => ∃ k : Nat, k ≤ n + 1 ∧ i = .int .i64 k ∧ s = .int .i64 (Ser.psum f k) ∧ 0 ≤ Ser.psum f k ∧ Ser.psum f k ≤ k * 100000000 ∧ ∃ q, wr = W.drewN q) (fun _ _ i _ => n + 1 - (intOf i).toNat)
  case atStart => exact ⟨0, Nat.zero_le _, rfl, rfl, Int.le_refl _, Int.le_refl _, 0, rfl⟩
  case round =>
    obtain ⟨k, hk, rfl, rfl, z1, z2, q, rfl⟩ := hrel
    by_cases hlt : k < n + 1
    · obtain ⟨b, off, rfl, hb, hc⟩ := R1.out.at k (by have := HS.out.len; omega)
      obtain ⟨b', off', rfl, hb', hc'⟩ := R2.out.at (n - k) (by have := HS'.out.len; omega)
      have r1 := HS.out.red k
      have r2 := HS'.out.red (n - k)
      have m2 := HS.out.m2
      have hst : Ser.psum f (k + 1) = Ser.psum f k + Ser.co l k * Ser.co l' (n - k) := by rw [Ser.psum, HF.out]
      obtain ⟨X, hX⟩ : ∃ X, Ser.co l k = X := ⟨_, rfl⟩
      obtain ⟨Y, hY⟩ : ∃ Y, Ser.co l' (n - k) = Y := ⟨_, rfl⟩
      obtain ⟨P, hP⟩ : ∃ P, Ser.psum f k = P := ⟨_, rfl⟩
      rw [hX] at hc r1 hst
      rw [hY] at hc' r2 hst
      rw [hP] at z1 z2 hst
      obtain ⟨p1, p2⟩ := mul_bd (x := X) (y := Y) r1.1 (by omega) (by omega) (by omega)
      have p3 : 0 ≤ X * Y := Int.mul_nonneg r1.1 r2.1
      have l1 := HS.out.len
      have l2 := HS'.out.len
      have j0 : (0 : Int) ≤ (k : Int) := by omega
      have j1 : (k : Int) < (l.length : Int) := by omega
      have j3 : (0 : Int) ≤ (n : Int) - (k : Int) := by omega
      have j4 : (n : Int) - (k : Int) < (l'.length : Int) := by omega
      have j5 : ((n : Int) - (k : Int)).toNat = n - k := by omega
      have HST := Lib.hid hst
      have HP := Lib.hid hP
      clear hX hY hP hst l1 l2
      rw [HP.out]
      go_wp2
      go_quiet (fail)
      go_wp2
      go_roundw
      case rel => exact ⟨k + 1, by omega, by go_num, by rw [HST.out], by rw [HST.out]; omega, by rw [HST.out]; omega, _, rfl⟩
      case measure => simp only [intOf]; omega
    · obtain rfl : k = n + 1 := by omega
      go_wp2
      go_ret
      exact ⟨ret_int HE.out.symm, below_drewN HB.out _⟩
end Go.Proofs.Ytilfjhnkjdfcoab

/- Contracts of sums and multiples of grids. -/
namespace Go.Proofs.Ytilfjhnkjdfcoab
open Go.RowKit Go.WideShapes Go.ChangeShapes Go.ChangeAt

theorem RP.some {w : World} {A : Option Addr} {t : List (List Int)} (h : RP w A t) (ht : 0 < t.length) : ∃ b off, A = some ⟨b, off, none⟩ := by
  obtain ⟨b, off, _, _, e, _⟩ := h.at 0 ht
  exact ⟨b, off, e⟩
/-- one number of a grid: what the walk reads -/
theorem GBox.num {W : World} {g : Nat} {m : Int} {d b off c : Nat} {t : List (List Int)} (hb : GBox W g m d (some ⟨b, off, none⟩) t.length c) (hs : Pl.Ok m d t) (hr : RP W (some ⟨b, off, none⟩) t) (i j : Nat) (hij : i + j ≤ d) :
    ∃ b' off' c' L N, L = d + 1 ∧ N = d - i + 1 ∧ W.cell? ⟨g, 2, none⟩ = some (.slice (some ⟨b, off, none⟩) L c) ∧ W.cell? ⟨b, off + i, none⟩ = some (.slice (some ⟨b', off', none⟩) N c') ∧ W.cell? ⟨b', off' + j, none⟩ = some (.int .i64 (Pl.pc t i j)) := by
  obtain ⟨_, _, x2, _⟩ := hb
  obtain ⟨b0, off0, b', off', c', e, -, k1, -, k2⟩ := hr.num i j (by rw [hs.len]; omega) (by rw [hs.row i (by omega)]; omega)
  injection e with e
  injection e with e1 e2
  subst e1 e2
  exact ⟨b', off', c', t.length, _, hs.len, hs.row i (by omega), x2, k1, k2⟩
set_option maxHeartbeats 1000000 in
theorem gplusC_any (i j g g' : Nat) (m : Int) (d : Nat) (A : Option Addr) (c : Nat) (t : List (List Int)) (A' : Option Addr) (c' : Nat) (t' : List (List Int)) (W : World) (hb : GBox W g m d A t.length c) (hb' : GBox W g' m d A' t'.length c') (hs : Pl.Ok m d t) (hs' : Pl.Ok m d t') (hr : RP W A t) (hr' : RP W A' t') (hij : i + j ≤ d) :
    Calls Try.prog 111 #[.int .i64 i, .int .i64 j, .pointer (some ⟨g, 0, none⟩), .pointer (some ⟨g', 0, none⟩)] W fun e w' => e = .returned (.int .i64 (Pl.pc t i j + Pl.pc t' i j)) ∧ Below W.heap.size W w' := by
  obtain ⟨b, off, rfl⟩ := hr.some (by rw [hs.len]; omega)
  obtain ⟨b', off', rfl⟩ := hr'.some (by rw [hs'.len]; omega)
  obtain ⟨p1, p2, p3, L, N, hL, hN, x1, x2, x3⟩ := hb.num hs hr i j hij
  obtain ⟨q1, q2, q3, L', N', hL', hN', y1, y2, y3⟩ := hb'.num hs' hr' i j hij
  have r1 := hs.pc i j
  have r2 := hs'.pc i j
  have hm := hs.m2
  obtain ⟨X, hX⟩ : ∃ X, Pl.pc t i j = X := ⟨_, rfl⟩
  obtain ⟨Y, hY⟩ : ∃ Y, Pl.pc t' i j = Y := ⟨_, rfl⟩
  rw [hX] at x3 r1 ⊢
  rw [hY] at y3 r2 ⊢
  obtain ⟨r1, r3⟩ := r1
  obtain ⟨r2, r4⟩ := r2
  have j1 : (0 : Int) ≤ (i : Int) := by omega
  have j2 : (i : Int) < (L : Int) := by omega
  have j3 : (0 : Int) ≤ (j : Int) := by omega
  have j4 : (j : Int) < (N : Int) := by omega
  have j5 : (i : Int) < (L' : Int) := by omega
  have j6 : (j : Int) < (N' : Int) := by omega
  clear hb hb' hr hr' hs hs' hX hY hL hN hL' hN'
  go_enter Try.func111, Try.ntmps111
  go_wp2
  go_quiet (fail)
  go_wp2
  go_ret
  exact ⟨rfl, below_drewN (Below.refl _ _) _⟩
set_option maxHeartbeats 2000000 in
set_option maxRecDepth 100000 in
theorem gplus_any (m : Int) (d : Nat) (A : Option Addr) (c : Nat) (t : List (List Int)) (A' : Option Addr) (c' : Nat) (t' : List (List Int)) (w : World) (hs : Pl.Ok m d t) (hs' : Pl.Ok m d t') (hr : RP w A t) (hr' : RP w A' t') :
    Calls Try.prog 71 #[.agg #[.int .i64 m, .int .i64 d, .slice A t.length c], .agg #[.int .i64 m, .int .i64 d, .slice A' t'.length c']] w fun e w' => ∃ v, e = .returned (.agg #[.int .i64 m, .int .i64 d, v]) ∧ OwnR w' w.heap.size w'.heap.size v (Pl.tab m d (fun i j => Pl.pc t i j + Pl.pc t' i j)) ∧ Below w.heap.size w w' := by
  obtain ⟨W, hW, b1, b2, v3, hwb⟩ := gpro2 w m d A t.length c m d A' t'.length c'
  have HS := Lib.hid (filled_any m d 111 #[.pointer (some ⟨w.heap.size, 0, none⟩), .pointer (some ⟨w.heap.size + 1, 0, none⟩)] (fun i j => Pl.pc t i j + Pl.pc t' i j) W (by have := hs.m1; omega) hs.m2 (by have := hs.d2; omega)
    (fun i j hij => by have := hs.pc i j; have := hs'.pc i j; have := hs.m2; omega) (enters_fn Try.func111 (of_decide_eq_true (by kernel_rfl)) rfl)
    (fun i j W1 hij hb => gplusC_any i j _ _ m d A c t A' c' t' W1 (b1.keep hb) (b2.keep hb) hs hs' ((hr.below hwb).below hb) ((hr'.below hwb).below hb) hij))
  have HB := Lib.hid hwb
  have HW := Lib.hid hW
  have V3 := Lib.hid v3
  obtain ⟨T, hT⟩ : ∃ T, Pl.tab m d (fun i j => Pl.pc t i j + Pl.pc t' i j) = T := ⟨_, rfl⟩
  rw [hT] at HS ⊢
  clear b1 b2 v3 hwb hW hr hr' hs hs' hT
  go_enter Try.func71, Try.ntmps71
  go_wp2_with fail
  rw [HW.out]
  refine HS.out.mono ?_
  rintro e w2 ⟨v, rfl, ho, hb⟩
  obtain ⟨A2, c2, rfl, -⟩ := ho.len
  have hv := V3.out.keep hb
  obtain ⟨q0, q1, q2, q3, q4, q5⟩ := hv.tells3
  obtain ⟨f0, f1, f2, f3, f4⟩ := fin_grid (w := w) hv ho (by have := V3.out.lt; omega) (by omega) (Nat.le_refl _) (below_step HB.out hb) (.int .i64 m) (.int .i64 d) (.slice A2 T.length c2)
  have F3 := Lib.hid (f3.low (show w.heap.size ≤ W.heap.size from HB.out.size))
  have F4 := Lib.hid f4
  unfold set3 at f0 f1 f2
  clear f3 f4 ho hv hb
  go_wp2
  exact bodyPost_ret (v := .agg #[.int .i64 m, .int .i64 d, .slice A2 T.length c2]) (by simp [results, Try.results71, go_sem, f0, f1, f2]) rfl ⟨_, rfl, F3.out, F4.out⟩
theorem pc_mul_bd {m : Int} {d : Nat} {t : List (List Int)} (hs : Pl.Ok m d t) (i j : Nat) {k : Int} (h1 : -10000 ≤ k) (h2 : k ≤ 10000) : -100000000 ≤ Pl.pc t i j * k ∧ Pl.pc t i j * k ≤ 100000000 := by
  have := hs.pc i j
  have := hs.m2
  exact mul_bd (by omega) (by omega) h1 h2
set_option maxHeartbeats 1000000 in
theorem gscaledC_any (i j g g' : Nat) (m : Int) (d : Nat) (A : Option Addr) (c : Nat) (t : List (List Int)) (k : Int) (W : World) (hb : GBox W g m d A t.length c) (hb' : Cel W g' k) (hs : Pl.Ok m d t) (hr : RP W A t) (hij : i + j ≤ d) (h5 : -10000 ≤ k) (h6 : k ≤ 10000) :
    Calls Try.prog 113 #[.int .i64 i, .int .i64 j, .pointer (some ⟨g, 0, none⟩), .pointer (some ⟨g', 0, none⟩)] W fun e w' => e = .returned (.int .i64 (Pl.pc t i j * k)) ∧ Below W.heap.size W w' := by
  obtain ⟨b, off, rfl⟩ := hr.some (by rw [hs.len]; omega)
  obtain ⟨p1, p2, p3, L, N, hL, hN, x1, x2, x3⟩ := hb.num hs hr i j hij
  obtain ⟨y1, _⟩ := hb'
  have hp := pc_mul_bd hs i j h5 h6
  obtain ⟨X, hX⟩ : ∃ X, Pl.pc t i j = X := ⟨_, rfl⟩
  rw [hX] at x3 hp ⊢
  obtain ⟨r1, r3⟩ := hp
  have j1 : (0 : Int) ≤ (i : Int) := by omega
  have j2 : (i : Int) < (L : Int) := by omega
  have j3 : (0 : Int) ≤ (j : Int) := by omega
  have j4 : (j : Int) < (N : Int) := by omega
  clear hb hr hs hX hL hN
  go_enter Try.func113, Try.ntmps113
  go_wp2
  go_quiet (fail)
  go_wp2
  go_ret
  exact ⟨rfl, below_drewN (Below.refl _ _) _⟩
set_option maxHeartbeats 2000000 in
set_option maxRecDepth 100000 in
theorem gscaled_any (m : Int) (d : Nat) (A : Option Addr) (c : Nat) (t : List (List Int)) (k : Int) (w : World) (hs : Pl.Ok m d t) (hr : RP w A t) (h5 : -10000 ≤ k) (h6 : k ≤ 10000) :
    Calls Try.prog 73 #[.agg #[.int .i64 m, .int .i64 d, .slice A t.length c], .int .i64 k] w fun e w' => ∃ v, e = .returned (.agg #[.int .i64 m, .int .i64 d, v]) ∧ OwnR w' w.heap.size w'.heap.size v (Pl.tab m d fun i j => Pl.pc t i j * k) ∧ Below w.heap.size w w' := by
  obtain ⟨W, hW⟩ : ∃ W, ((w.alloc (.cells #[.int .i64 m, .int .i64 d, .slice A t.length c] 66)).alloc (.cells #[.int .i64 k] 2)).alloc (.cells #[.int .i64 0, .int .i64 0, .slice none 0 0] 66) = W := ⟨_, rfl⟩
  have hwb : Below w.heap.size w W := by rw [← hW]; exact below_alloc _ (below_alloc _ (below_one _ _))
  have b1 : GBox W w.heap.size m d A t.length c := by rw [← hW]; exact ((GBox.new _ _ _ _ _ _ _).keep (below_one _ _)).keep (below_one _ _)
  have b2 : Cel W (w.heap.size + 1) k := by
    rw [← hW]
    have := (Cel.new (w.alloc (.cells #[.int .i64 m, .int .i64 d, .slice A t.length c] 66)) k).keep (below_one _ (.cells #[.int .i64 0, .int .i64 0, .slice none 0 0] 66))
    simpa using this
  have v3 : VarC 66 W (w.heap.size + 1 + 1) #[.int .i64 0, .int .i64 0, .slice none 0 0] := by
    rw [← hW]
    have := VarC.new 66 ((w.alloc (.cells #[.int .i64 m, .int .i64 d, .slice A t.length c] 66)).alloc (.cells #[.int .i64 k] 2)) #[.int .i64 0, .int .i64 0, .slice none 0 0]
    simpa using this
  have HS := Lib.hid (filled_any m d 113 #[.pointer (some ⟨w.heap.size, 0, none⟩), .pointer (some ⟨w.heap.size + 1, 0, none⟩)] (fun i j => Pl.pc t i j * k) W (by have := hs.m1; omega) hs.m2 (by have := hs.d2; omega)
    (fun i j hij => by have := pc_mul_bd hs i j h5 h6; omega) (enters_fn Try.func113 (of_decide_eq_true (by kernel_rfl)) rfl)
    (fun i j W1 hij hb => gscaledC_any i j _ _ m d A c t k W1 (b1.keep hb) (b2.keep hb) hs ((hr.below hwb).below hb) hij h5 h6))
  have HB := Lib.hid hwb
  have HW := Lib.hid hW
  have V3 := Lib.hid v3
  obtain ⟨T, hT⟩ : ∃ T, Pl.tab m d (fun i j => Pl.pc t i j * k) = T := ⟨_, rfl⟩
  rw [hT] at HS ⊢
  clear b1 b2 v3 hwb hW hr hs hT
  go_enter Try.func73, Try.ntmps73
  go_wp2_with fail
  rw [HW.out]
  refine HS.out.mono ?_
  rintro e w2 ⟨v, rfl, ho, hb⟩
  obtain ⟨A2, c2, rfl, -⟩ := ho.len
  have hv := V3.out.keep hb
  obtain ⟨q0, q1, q2, q3, q4, q5⟩ := hv.tells3
  obtain ⟨f0, f1, f2, f3, f4⟩ := fin_grid (w := w) hv ho (by have := V3.out.lt; omega) (by omega) (Nat.le_refl _) (below_step HB.out hb) (.int .i64 m) (.int .i64 d) (.slice A2 T.length c2)
  have F3 := Lib.hid (f3.low (show w.heap.size ≤ W.heap.size from HB.out.size))
  have F4 := Lib.hid f4
  unfold set3 at f0 f1 f2
  clear f3 f4 ho hv hb
  go_wp2
  exact bodyPost_ret (v := .agg #[.int .i64 m, .int .i64 d, .slice A2 T.length c2]) (by simp [results, Try.results73, go_sem, f0, f1, f2]) rfl ⟨_, rfl, F3.out, F4.out⟩
end Go.Proofs.Ytilfjhnkjdfcoab

/- Plain facts on the product of tables, number by number: no program in sight. -/
namespace Go.Proofs.Ytilfjhnkjdfcoab
namespace Pl

/-- the coefficient of the product at x^p y^q -/
def mul2 (a b : Nat → Nat → Int) (p q : Nat) : Int := Ser.psum (fun k => Ser.psum (fun l => a k l * b (p - k) (q - l)) (q + 1)) (p + 1)
def tr2 (a b : Nat → Nat → Int) (p q i j : Nat) : Int := if i ≤ p ∧ j ≤ q then a i j * b (p - i) (q - j) else 0
def rowS (a b : Nat → Nat → Int) (p q i J : Nat) : Int := Ser.psum (fun j => tr2 a b p q i j) J
/-- all rows below i, and row i below J -/
def S2 (d : Nat) (a b : Nat → Nat → Int) (i J p q : Nat) : Int := Ser.psum (fun i' => rowS a b p q i' (d + 1 - i')) i + rowS a b p q i J
/-- and of the term i, j the rows below k, and row k below l -/
def T2 (d : Nat) (a b : Nat → Nat → Int) (i j k l p q : Nat) : Int := S2 d a b i j p q + if i ≤ p ∧ j ≤ q ∧ (p - i < k ∨ (p - i = k ∧ q - j < l)) then a i j * b (p - i) (q - j) else 0
theorem psum_cut (f : Nat → Int) (m : Nat) : ∀ n, m ≤ n → (∀ i, m ≤ i → i < n → f i = 0) → Ser.psum f n = Ser.psum f m := by
  intro n
  induction n with
  | zero => intro h _; rw [show m = 0 by omega]
  | succ n ih =>
    intro h hz
    by_cases hm : m = n + 1
    · rw [hm]
    · rw [Ser.psum, ih (by omega) (fun i h1 h2 => hz i h1 (by omega)), hz n (by omega) (by omega), Int.add_zero]
theorem S2_zero (d : Nat) (a b : Nat → Nat → Int) (p q : Nat) : S2 d a b 0 0 p q = 0 := by simp [S2, rowS, Ser.psum]
theorem T2_zero (d : Nat) (a b : Nat → Nat → Int) (i j p q : Nat) : T2 d a b i j 0 0 p q = S2 d a b i j p q := by
  unfold T2
  rw [if_neg (by omega), Int.add_zero]
theorem T2_tab_zero (m : Int) (d : Nat) (a b : Nat → Nat → Int) (i j : Nat) : tab m d (T2 d a b i j 0 0) = tab m d (S2 d a b i j) := tab_congr (Eq.of m d (fun p q _ => T2_zero d a b i j p q))
theorem S2_tab_zero (m : Int) (d : Nat) (a b : Nat → Nat → Int) : tab m d (S2 d a b 0 0) = tab m d fun _ _ => 0 := tab_congr (Eq.of m d (fun p q _ => S2_zero d a b p q))
theorem T2_step (m : Int) (d : Nat) (a b : Nat → Nat → Int) (i j k l : Nat) (h : i + j + k + l ≤ d) :
    (tab m d (T2 d a b i j k l)).set (i + k) ((rw' (tab m d (T2 d a b i j k l)) (i + k)).set (j + l) ((pc (tab m d (T2 d a b i j k l)) (i + k) (j + l) + a i j * b k l) % m)) = tab m d (T2 d a b i j k (l + 1)) := by
  refine tab_put (by omega) ?_ (fun p q hpq hne => ?_)
  · rw [pc_tab (by omega)]
    unfold T2
    rw [if_pos (show i ≤ i + k ∧ j ≤ j + l ∧ (i + k - i < k ∨ (i + k - i = k ∧ j + l - j < l + 1)) by omega), if_neg (show ¬ (i ≤ i + k ∧ j ≤ j + l ∧ (i + k - i < k ∨ (i + k - i = k ∧ j + l - j < l))) by omega),
      show i + k - i = k by omega, show j + l - j = l by omega, Int.add_zero, Int.emod_add_emod]
  · unfold T2
    by_cases h1 : i ≤ p ∧ j ≤ q ∧ (p - i < k ∨ (p - i = k ∧ q - j < l))
    · rw [if_pos h1, if_pos (by omega)]
    · rw [if_neg h1, if_neg (by omega)]
theorem T2_rowend (m : Int) (d : Nat) (a b : Nat → Nat → Int) (i j k l : Nat) (h : d < i + j + k + l) : tab m d (T2 d a b i j k l) = tab m d (T2 d a b i j (k + 1) 0) :=
  tab_congr (Eq.of m d (fun p q hpq => by
    unfold T2
    by_cases h1 : i ≤ p ∧ j ≤ q ∧ (p - i < k ∨ (p - i = k ∧ q - j < l))
    · rw [if_pos h1, if_pos (by omega)]
    · rw [if_neg h1, if_neg (by omega)]))
theorem S2_succ (d : Nat) (a b : Nat → Nat → Int) (i j p q : Nat) : S2 d a b i (j + 1) p q = S2 d a b i j p q + tr2 a b p q i j := by
  unfold S2 rowS
  rw [Ser.psum]; omega
theorem T2_end (m : Int) (d : Nat) (a b : Nat → Nat → Int) (i j k : Nat) (h : d < i + j + k) : tab m d (T2 d a b i j k 0) = tab m d (S2 d a b i (j + 1)) :=
  tab_congr (Eq.of m d (fun p q hpq => by
    rw [S2_succ]
    unfold T2 tr2
    by_cases h1 : i ≤ p ∧ j ≤ q
    · rw [if_pos (by omega), if_pos h1]
    · rw [if_neg (by omega), if_neg h1]))
theorem S2_skip (m : Int) (d : Nat) (a b : Nat → Nat → Int) (i j : Nat) (h : a i j = 0) : tab m d (S2 d a b i j) = tab m d (S2 d a b i (j + 1)) :=
  tab_congr (Eq.of m d (fun p q hpq => by
    rw [S2_succ]
    unfold tr2
    rw [h]; simp))
theorem S2_next (m : Int) (d : Nat) (a b : Nat → Nat → Int) (i j : Nat) (h : i + j = d + 1) : tab m d (S2 d a b i j) = tab m d (S2 d a b (i + 1) 0) :=
  tab_congr (Eq.of m d (fun p q hpq => by
    unfold S2
    rw [Ser.psum, show d + 1 - i = j by omega]
    simp [rowS, Ser.psum]))
theorem S2_last (m : Int) (d : Nat) (a b : Nat → Nat → Int) : tab m d (S2 d a b (d + 1) 0) = tab m d (mul2 a b) :=
  tab_congr (Eq.of m d (fun p q hpq => by
    have h0 : rowS a b p q (d + 1) 0 = 0 := rfl
    unfold S2 mul2
    rw [h0, Int.add_zero, psum_cut _ (p + 1) (d + 1) (by omega) (fun i h1 h2 => by
      unfold rowS
      rw [psum_cut _ 0 _ (Nat.zero_le _) (fun j _ _ => by unfold tr2; rw [if_neg (by omega)])]; rfl)]
    refine Ser.psum_ext _ (fun i hi => ?_)
    unfold rowS
    rw [psum_cut _ (q + 1) (d + 1 - i) (by omega) (fun j h1 h2 => by unfold tr2; rw [if_neg (by omega)])]
    exact Ser.psum_ext _ (fun j hj => by unfold tr2; rw [if_pos (by omega)])))
/-- bounds -/
theorem psum_bd2 (f : Nat → Int) (B : Int) (hf : ∀ i, 0 ≤ f i ∧ f i ≤ B) : ∀ n : Nat, 0 ≤ Ser.psum f n ∧ Ser.psum f n ≤ n * B := by
  intro n
  induction n with
  | zero => simp [Ser.psum]
  | succ n ih =>
    have := hf n
    have e : ((n + 1 : Nat) : Int) * B = n * B + B := by rw [show ((n + 1 : Nat) : Int) = (n : Int) + 1 by omega, Int.add_mul, Int.one_mul]
    rw [Ser.psum, e]
    omega
theorem prod_bd {x y : Int} (h1 : 0 ≤ x) (h2 : x ≤ 10000) (h3 : 0 ≤ y) (h4 : y ≤ 10000) : 0 ≤ x * y ∧ x * y ≤ 100000000 := by
  refine ⟨Int.mul_nonneg h1 h3, ?_⟩
  have a := Int.mul_le_mul_of_nonneg_left (c := x) h4 h1
  omega
end Pl
end Go.Proofs.Ytilfjhnkjdfcoab

/- Contract of the product of grids. -/
namespace Go.Proofs.Ytilfjhnkjdfcoab
open Go.RowKit Go.WideShapes Go.ChangeShapes Go.ChangeAt

theorem inner_bd {m : Int} {d : Nat} {t t' : List (List Int)} (hs : Pl.Ok m d t) (hs' : Pl.Ok m d t') (i k j : Nat) (n : Nat) (hn : n ≤ 11) :
    0 ≤ Ser.psum (fun l => Pl.pc t k l * Pl.pc t' (i - k) (j - l)) n ∧ Ser.psum (fun l => Pl.pc t k l * Pl.pc t' (i - k) (j - l)) n ≤ 1100000000 := by
  have := Pl.psum_bd2 (fun l => Pl.pc t k l * Pl.pc t' (i - k) (j - l)) 100000000 (fun l => by
    have h1 := hs.pc k l
    have h2 := hs'.pc (i - k) (j - l)
    have h3 := hs.m2
    exact Pl.prod_bd h1.1 (by omega) h2.1 (by omega)) n
  refine ⟨this.1, ?_⟩
  have h := this.2
  omega
theorem outer_bd {m : Int} {d : Nat} {t t' : List (List Int)} (hs : Pl.Ok m d t) (hs' : Pl.Ok m d t') (i j : Nat) (hj : j ≤ 10) (n : Nat) (hn : n ≤ 11) :
    0 ≤ Ser.psum (fun k => Ser.psum (fun l => Pl.pc t k l * Pl.pc t' (i - k) (j - l)) (j + 1)) n ∧ Ser.psum (fun k => Ser.psum (fun l => Pl.pc t k l * Pl.pc t' (i - k) (j - l)) (j + 1)) n ≤ 12100000000 := by
  have := Pl.psum_bd2 (fun k => Ser.psum (fun l => Pl.pc t k l * Pl.pc t' (i - k) (j - l)) (j + 1)) 1100000000 (fun k => inner_bd hs hs' i k j (j + 1) (by omega)) n
  refine ⟨this.1, ?_⟩
  have h := this.2
  omega
set_option maxHeartbeats 2000000 in
set_option maxRecDepth 100000 in
theorem gtimesC_any (i j g g' : Nat) (m : Int) (d : Nat) (A : Option Addr) (c : Nat) (t : List (List Int)) (A' : Option Addr) (c' : Nat) (t' : List (List Int)) (W : World) (hb : GBox W g m d A t.length c) (hb' : GBox W g' m d A' t'.length c') (hs : Pl.Ok m d t) (hs' : Pl.Ok m d t') (hr : RP W A t) (hr' : RP W A' t') (hij : i + j ≤ d) :
    Calls Try.prog 112 #[.int .i64 i, .int .i64 j, .pointer (some ⟨g, 0, none⟩), .pointer (some ⟨g', 0, none⟩)] W fun e w' => e = .returned (.int .i64 (Pl.mul2 (Pl.pc t) (Pl.pc t') i j)) ∧ Below W.heap.size W w' := by
  obtain ⟨b, off, rfl⟩ := hr.some (by rw [hs.len]; omega)
  obtain ⟨b', off', rfl⟩ := hr'.some (by rw [hs'.len]; omega)
  have HB1 := Lib.hid hb
  have HB2 := Lib.hid hb'
  have HS := Lib.hid hs
  have HS' := Lib.hid hs'
  have HR := Lib.hid hr
  have HR' := Lib.hid hr'
  have hd2 := hs.d2
  have HM : Hid (Pl.mul2 (Pl.pc t) (Pl.pc t') i j = Ser.psum (fun k => Ser.psum (fun l => Pl.pc t k l * Pl.pc t' (i - k) (j - l)) (j + 1)) (i + 1)) := Lib.hid rfl
  obtain ⟨R, hR⟩ : ∃ R, Pl.mul2 (Pl.pc t) (Pl.pc t') i j = R := ⟨_, rfl⟩
  rw [hR] at HM ⊢
  obtain ⟨F, hF⟩ : ∃ F, (fun k => Ser.psum (fun l => Pl.pc t k l * Pl.pc t' (i - k) (j - l)) (j + 1)) = F := ⟨_, rfl⟩
  have HFF := Lib.hid hF
  rw [hF] at HM
  have HOB : Hid (∀ n, n ≤ 11 → 0 ≤ Ser.psum F n ∧ Ser.psum F n ≤ 12100000000) := Lib.hid (fun n hn => by rw [← hF]; exact outer_bd hs hs' i j (by omega) n hn)
  clear hb hb' hr hr' hs hs' hR hF
  go_enter Try.func112, Try.ntmps112
  go_wp2
  go_loopw [7, 12] (fun s q wr => ∃ k : Nat, k ≤ i + 1 ∧ q = .int .i64 k ∧ s = .int .i64 (Ser.psum F k) ∧ Below W.heap.size W wr) (fun _ q _ => i + 1 - (intOf q).toNat)
  case atStart => exact ⟨0, Nat.zero_le _, rfl, rfl, Below.refl _ _⟩
  case round =>
    obtain ⟨k, hk, rfl, rfl, hbel⟩ := hrel
    have HB := Lib.hid hbel
    clear hbel
    by_cases hlt : k < i + 1
    · obtain ⟨O, hO⟩ : ∃ O, Ser.psum F k = O := ⟨_, rfl⟩
      have hob := HOB.out k (by omega)
      rw [hO] at hob ⊢
      have HO := Lib.hid hO
      obtain ⟨hob1, hob2⟩ := hob
      obtain ⟨G, hG⟩ : ∃ G, (fun l => Pl.pc t k l * Pl.pc t' (i - k) (j - l)) = G := ⟨_, rfl⟩
      have HGG := Lib.hid hG
      have HIB : Hid (∀ n, n ≤ 11 → 0 ≤ Ser.psum G n ∧ Ser.psum G n ≤ 1100000000) := Lib.hid (fun n hn => by rw [← hG]; exact inner_bd HS.out HS'.out i k j n hn)
      have HFK : Hid (F k = Ser.psum G (j + 1)) := Lib.hid (by rw [← HFF.out, ← hG])
      have j1 : (k : Int) < (i : Int) + 1 := by omega
      clear hO hG
      go_wp2
      go_loopw [7, 17] (fun s q wr => ∃ l : Nat, l ≤ j + 1 ∧ q = .int .i64 l ∧ s = .int .i64 (O + Ser.psum G l) ∧ Below W.heap.size W wr) (fun _ q _ => j + 1 - (intOf q).toNat)
      case atStart => exact ⟨0, Nat.zero_le _, rfl, by simp [Ser.psum], HB.out⟩
      case round =>
        clear HB
        obtain ⟨l, hl, rfl, rfl, hbel⟩ := hrel
        have HB := Lib.hid hbel
        by_cases hlt2 : l < j + 1
        · obtain ⟨p1, p2, p3, L, N, hL, hN, x1, x2, x3⟩ := (HB1.out.keep hbel).num HS.out (HR.out.below hbel) k l (by omega)
          obtain ⟨r, hr⟩ : ∃ r, i - k = r := ⟨_, rfl⟩
          obtain ⟨s, hs⟩ : ∃ s, j - l = s := ⟨_, rfl⟩
          obtain ⟨q1, q2, q3, L', N', hL', hN', y1, y2, y3⟩ := (HB2.out.keep hbel).num HS'.out (HR'.out.below hbel) r s (by omega)
          have hG1 : G l = Pl.pc t k l * Pl.pc t' r s := by
            rw [← HGG.out]
            show Pl.pc t k l * Pl.pc t' (i - k) (j - l) = _
            rw [hr, hs]
          have hst : Ser.psum G (l + 1) = Ser.psum G l + Pl.pc t k l * Pl.pc t' r s := by rw [Ser.psum, hG1]
          clear hG1
          obtain ⟨P, hP⟩ : ∃ P, Ser.psum G l = P := ⟨_, rfl⟩
          have hib := HIB.out l (by omega)
          have c1 := HS.out.pc k l
          have c2 := HS'.out.pc r s
          have hm := HS.out.m2
          obtain ⟨X, hX⟩ : ∃ X, Pl.pc t k l = X := ⟨_, rfl⟩
          obtain ⟨Y, hY⟩ : ∃ Y, Pl.pc t' r s = Y := ⟨_, rfl⟩
          rw [hX] at x3 c1 hst
          rw [hY] at y3 c2 hst
          rw [hP] at hib hst ⊢
          have hpr := Pl.prod_bd c1.1 (by omega) c2.1 (by omega)
          have HST := Lib.hid hst
          have w1 : IntKind.i64.wrap (X * Y) = X * Y := by rw [IntKind.wrap_i64]; omega
          have w2 : IntKind.i64.wrap (O + P + X * Y) = O + P + X * Y := by rw [IntKind.wrap_i64]; omega
          have j2 : (0 : Int) ≤ (k : Int) := by omega
          have j3 : (k : Int) < (L : Int) := by omega
          have j4 : (0 : Int) ≤ (l : Int) := by omega
          have j5 : (l : Int) < (N : Int) := by omega
          have j6 : (i : Int) - (k : Int) = (r : Int) := by omega
          have j7 : (j : Int) - (l : Int) = (s : Int) := by omega
          have j8 : (r : Int) < (L' : Int) := by omega
          have j9 : (s : Int) < (N' : Int) := by omega
          have j10 : (0 : Int) ≤ (r : Int) := by omega
          have j11 : (0 : Int) ≤ (s : Int) := by omega
          clear hbel hL hN hL' hN' hst hP hib hX hY hr hs c1 c2 hpr
          go_wp2
          go_quiet (fail)
          go_wp2
          go_roundw
          case rel => exact ⟨l + 1, by omega, by go_num, by rw [HST.out, Int.add_assoc], below_drewN HB.out _⟩
          case measure => simp only [intOf]; omega
        · obtain rfl : l = j + 1 := by omega
          have HE : Hid (Ser.psum F (k + 1) = O + Ser.psum G (j + 1)) := Lib.hid (by rw [Ser.psum, HO.out, HFK.out])
          clear hbel
          go_wp2
          go_roundw
          case rel => exact ⟨k + 1, by omega, by go_num, by rw [HE.out], HB.out⟩
          case measure => simp only [intOf]; omega
    · obtain rfl : k = i + 1 := by omega
      go_wp2
      go_ret
      exact ⟨ret_int HM.out.symm, HB.out⟩
set_option maxHeartbeats 2000000 in
set_option maxRecDepth 100000 in
theorem gtimes_any (m : Int) (d : Nat) (A : Option Addr) (c : Nat) (t : List (List Int)) (A' : Option Addr) (c' : Nat) (t' : List (List Int)) (w : World) (hs : Pl.Ok m d t) (hs' : Pl.Ok m d t') (hr : RP w A t) (hr' : RP w A' t') :
    Calls Try.prog 72 #[.agg #[.int .i64 m, .int .i64 d, .slice A t.length c], .agg #[.int .i64 m, .int .i64 d, .slice A' t'.length c']] w fun e w' => ∃ v, e = .returned (.agg #[.int .i64 m, .int .i64 d, v]) ∧ OwnR w' w.heap.size w'.heap.size v (Pl.tab m d (Pl.mul2 (Pl.pc t) (Pl.pc t'))) ∧ Below w.heap.size w w' := by
  obtain ⟨W, hW, b1, b2, v3, hwb⟩ := gpro2 w m d A t.length c m d A' t'.length c'
  have HS := Lib.hid (filled_any m d 112 #[.pointer (some ⟨w.heap.size, 0, none⟩), .pointer (some ⟨w.heap.size + 1, 0, none⟩)] (Pl.mul2 (Pl.pc t) (Pl.pc t')) W (by have := hs.m1; omega) hs.m2 (by have := hs.d2; omega)
    (fun i j hij => by have := outer_bd hs hs' i j (by have := hs.d2; omega) (i + 1) (by have := hs.d2; omega); unfold Pl.mul2; omega) (enters_fn Try.func112 (of_decide_eq_true (by kernel_rfl)) rfl)
    (fun i j W1 hij hb => gtimesC_any i j _ _ m d A c t A' c' t' W1 (b1.keep hb) (b2.keep hb) hs hs' ((hr.below hwb).below hb) ((hr'.below hwb).below hb) hij))
  have HB := Lib.hid hwb
  have HW := Lib.hid hW
  have V3 := Lib.hid v3
  obtain ⟨T, hT⟩ : ∃ T, Pl.tab m d (Pl.mul2 (Pl.pc t) (Pl.pc t')) = T := ⟨_, rfl⟩
  rw [hT] at HS ⊢
  clear b1 b2 v3 hwb hW hr hr' hs hs' hT
  go_enter Try.func72, Try.ntmps72
  go_wp2_with fail
  rw [HW.out]
  refine HS.out.mono ?_
  rintro e w2 ⟨v, rfl, ho, hb⟩
  obtain ⟨A2, c2, rfl, -⟩ := ho.len
  have hv := V3.out.keep hb
  obtain ⟨q0, q1, q2, q3, q4, q5⟩ := hv.tells3
  obtain ⟨f0, f1, f2, f3, f4⟩ := fin_grid (w := w) hv ho (by have := V3.out.lt; omega) (by omega) (Nat.le_refl _) (below_step HB.out hb) (.int .i64 m) (.int .i64 d) (.slice A2 T.length c2)
  have F3 := Lib.hid (f3.low (show w.heap.size ≤ W.heap.size from HB.out.size))
  have F4 := Lib.hid f4
  unfold set3 at f0 f1 f2
  clear f3 f4 ho hv hb
  go_wp2
  exact bodyPost_ret (v := .agg #[.int .i64 m, .int .i64 d, .slice A2 T.length c2]) (by simp [results, Try.results72, go_sem, f0, f1, f2]) rfl ⟨_, rfl, F3.out, F4.out⟩
end Go.Proofs.Ytilfjhnkjdfcoab

/- Plain theory of substituting series into tables: no program in sight. -/
namespace Go.Proofs.Ytilfjhnkjdfcoab
namespace Ser

theorem psum_zero : ∀ n, psum (fun _ => (0 : Int)) n = 0 := by
  intro n
  induction n with
  | zero => rfl
  | succ n ih => rw [psum, ih]; rfl
theorem psum_add (f g : Nat → Int) : ∀ n, psum (fun i => f i + g i) n = psum f n + psum g n := by
  intro n
  induction n with
  | zero => rfl
  | succ n ih => rw [psum, psum, psum, ih]; omega
theorem psum_mul (c : Int) (f : Nat → Int) : ∀ n, psum (fun i => c * f i) n = c * psum f n := by
  intro n
  induction n with
  | zero => simp [psum]
  | succ n ih => rw [psum, psum, ih, Int.mul_add]
theorem psum_mul' (c : Int) (f : Nat → Int) (n : Nat) : psum (fun i => f i * c) n = psum f n * c := by
  rw [Int.mul_comm _ c, ← psum_mul]
  exact psum_ext _ (fun i _ => Int.mul_comm _ _)
theorem psum_swap (f : Nat → Nat → Int) (n : Nat) : ∀ k, psum (fun i => psum (f i) n) k = psum (fun j => psum (fun i => f i j) k) n := by
  intro k
  induction k with
  | zero =>
    have : (fun j : Nat => psum (fun i => f i j) 0) = fun _ => 0 := rfl
    rw [this, psum_zero]; rfl
  | succ k ih =>
    rw [psum, ih]
    have : (fun j => psum (fun i => f i j) (k + 1)) = fun j => psum (fun i => f i j) k + f k j := rfl
    rw [this, psum_add]
theorem psum_congr {m : Int} {f g : Nat → Int} : ∀ n, (∀ i, i < n → f i % m = g i % m) → psum f n % m = psum g n % m := by
  intro n
  induction n with
  | zero => intro _; rfl
  | succ n ih => intro h; rw [psum, psum]; exact add_cong (ih (fun i hi => h i (by omega))) (h n (by omega))
theorem psum_low (f : Nat → Int) (k : Nat) (h : ∀ i, i < k → f i = 0) : psum f k = 0 := by
  rw [psum_ext (g := fun _ => 0) k h, psum_zero]
theorem psum_mon (a : Nat → Int) (j : Nat) : ∀ N, psum (fun i => a i * mon i 1 j) N = if j < N then a j else 0 := by
  intro N
  induction N with
  | zero => simp [psum]
  | succ N ih =>
    rw [psum, ih]
    unfold mon
    by_cases h : j < N
    · rw [if_pos h, if_neg (by omega), if_pos (by omega)]; omega
    · by_cases h2 : j = N
      · rw [if_neg h, if_pos h2, if_pos (by omega), h2]; omega
      · rw [if_neg h, if_neg h2, if_neg (by omega)]; omega
theorem comp_psum {f : Nat → Int} (hf : f 0 = 0) (a : Nat → Int) (n : Nat) : ∀ N, comp (fun j => psum (fun i => a i * mon i 1 j) N) f n = psum (fun i => a i * pw f i n) N := by
  intro N
  induction N with
  | zero =>
    have e : (fun j => psum (fun i => a i * mon i 1 j) 0) = fun _ => 0 := rfl
    rw [e]
    have := comp_smul hf 0 n (fun _ => 0)
    simpa [psum] using this
  | succ N ih =>
    have e : (fun j => psum (fun i => a i * mon i 1 j) (N + 1)) = fun j => psum (fun i => a i * mon i 1 j) N + a N * mon N 1 j := rfl
    rw [e, comp_add hf, ih, comp_smul hf, comp_mon hf, psum]
/-- a composition is a sum of powers -/
theorem comp_pw {f : Nat → Int} (hf : f 0 = 0) (a : Nat → Int) {n N : Nat} (h : n < N) : comp a f n = psum (fun i => a i * pw f i n) N := by
  rw [← comp_psum hf a n N]
  exact comp_ext hf n (fun i hi => by rw [psum_mon, if_pos (by omega)])
theorem pw_congr {m : Int} {n : Nat} {f g : Nat → Int} (h : Eq m n f g) : ∀ k, Eq m n (pw f k) (pw g k) := by
  intro k
  induction k with
  | zero => exact Eq.refl _ _ _
  | succ k ih => exact Eq.mul ih h
/-- the powers of a list -/
def pwL (m : Int) (d : Nat) (a : List Int) : Nat → List Int
  | 0 => one m d
  | k + 1 => mulL m d (pwL m d a k) a
theorem pwL_length (m : Int) (d : Nat) (a : List Int) (k : Nat) : (pwL m d a k).length = d + 1 := by cases k <;> exact cut_length _ _ _
theorem pwL_cut (m : Int) (d : Nat) (a : List Int) : ∀ k, pwL m d a k = cut m d (pw (co a) k) := by
  intro k
  induction k with
  | zero => rfl
  | succ k ih =>
    show cut m d (mul (co (pwL m d a k)) (co a)) = _
    refine cut_congr ?_
    rw [ih]
    exact Eq.mul (co_cut_eq _ _ _) (Eq.refl _ _ _)
theorem cmpL_cut {m : Int} (hm : 0 < m) {d : Nat} {a f : List Int} (hf : co f 0 = 0) (ha : Red m a) : cmpL m d a f = cut m d (comp (co a) (co f)) := by
  refine red_unique (d := d) (cmpL_length _ _ _ _) (cut_length _ _ _) (cmpL_red hm d ha f) (cut_red hm d _) ?_
  exact (cmpL_eq hf).trans (co_cut_eq _ _ _).symm
end Ser

namespace Pl
open Ser (psum cv pw)
/-- the coefficients of F(a(x), b(y)), and of F(a(t), b(t)) -/
def subB (F : Nat → Nat → Int) (a b : Nat → Int) (N p q : Nat) : Int := psum (fun i => psum (fun j => F i j * (pw a i p * pw b j q)) N) N
def putF (F : Nat → Nat → Int) (a b : Nat → Int) (N n : Nat) : Int := psum (fun i => psum (fun j => F i j * cv n (pw a i) (pw b j)) N) N
/-- the program's four steps -/
theorem steps {m : Int} {d : Nat} {F : Nat → Nat → Int} {a b : Nat → Int} (ha : a 0 = 0) (hb : b 0 = 0) :
    tab m d (fun p q => Ser.comp (pc (tab m d fun q' i => Ser.comp (F i) b q') q) a p) = tab m d (subB F a b (d + 1)) := by
  refine tab_congr (fun p q h => ?_)
  rw [Ser.comp_congr ha ha p _ (fun i => Ser.comp (F i) b q) (fun i hi => by rw [pc_tab (by omega), Int.emod_emod]) (Ser.Eq.refl _ _ _)]
  rw [Ser.comp_pw ha _ (N := d + 1) (by omega)]
  congr 1
  unfold subB
  refine Ser.psum_ext _ (fun i _ => ?_)
  rw [Ser.comp_pw hb _ (N := d + 1) (by omega), ← Ser.psum_mul']
  refine Ser.psum_ext _ (fun j _ => ?_)
  rw [Int.mul_assoc, Int.mul_comm (pw b j q)]
theorem diag_put (F : Nat → Nat → Int) (a b : Nat → Int) (N n : Nat) : psum (fun p => subB F a b N p (n - p)) (n + 1) = putF F a b N n := by
  unfold subB putF
  rw [Ser.psum_swap]
  refine Ser.psum_ext _ (fun i _ => ?_)
  rw [Ser.psum_swap]
  refine Ser.psum_ext _ (fun j _ => ?_)
  rw [Ser.psum_mul, Ser.cv_psum]
def putL (m : Int) (d : Nat) (F : Nat → Nat → Int) (a b : List Int) : List Int := Ser.cut m d (putF F (Ser.co a) (Ser.co b) (d + 1))
theorem putL_length (m : Int) (d : Nat) (F : Nat → Nat → Int) (a b : List Int) : (putL m d F a b).length = d + 1 := Ser.cut_length _ _ _
def botT (m : Int) (d : Nat) (F : Nat → Nat → Int) (a b : List Int) : List (List Int) := tab m d (subB F (Ser.co a) (Ser.co b) (d + 1))
/-- the program's diagonal -/
theorem diag_cut (m : Int) (d : Nat) (F : Nat → Nat → Int) (a b : List Int) : Ser.cut m d (fun n => psum (fun p => pc (botT m d F a b) p (n - p)) (n + 1)) = putL m d F a b := by
  refine Ser.cut_congr (fun n hn => ?_)
  rw [← diag_put]
  refine Ser.psum_congr _ (fun p hp => ?_)
  unfold botT
  rw [pc_tab (by omega), Int.emod_emod]

/-! sums over the terms of a table, row by row -/
def acc (d : Nat) (g : Nat → Nat → Int) (i J : Nat) : Int := psum (fun i' => psum (g i') (d + 1 - i')) i + psum (g i) J
theorem acc_zero (d : Nat) (g : Nat → Nat → Int) : acc d g 0 0 = 0 := rfl
theorem acc_succ (d : Nat) (g : Nat → Nat → Int) (i J : Nat) : acc d g i (J + 1) = acc d g i J + g i J := by unfold acc; rw [psum]; omega
theorem acc_next (d : Nat) (g : Nat → Nat → Int) (i J : Nat) (h : i + J = d + 1) : acc d g i J = acc d g (i + 1) 0 := by
  unfold acc
  show _ = psum (fun i' => psum (g i') (d + 1 - i')) i + psum (g i) (d + 1 - i) + 0
  rw [show d + 1 - i = J by omega]; omega
theorem acc_last (d : Nat) (g : Nat → Nat → Int) (h : ∀ i j, d < i + j → g i j = 0) : acc d g (d + 1) 0 = psum (fun i => psum (g i) (d + 1)) (d + 1) := by
  unfold acc
  rw [psum, Int.add_zero]
  refine Ser.psum_ext _ (fun i hi => ?_)
  exact (psum_cut _ (d + 1 - i) (d + 1) (by omega) (fun j h1 _ => h i j (by omega))).symm
/-- the model's sum for f(a(t), b(t)) -/
def putS (m : Int) (d : Nat) (F : Nat → Nat → Int) (a b : List Int) (i J : Nat) : List Int := Ser.cut m d fun n => acc d (fun i j => F i j * cv n (pw (Ser.co a) i) (pw (Ser.co b) j)) i J
theorem putS_length (m : Int) (d : Nat) (F : Nat → Nat → Int) (a b : List Int) (i J : Nat) : (putS m d F a b i J).length = d + 1 := Ser.cut_length _ _ _
theorem putS_zero (m : Int) (d : Nat) (F : Nat → Nat → Int) (a b : List Int) : putS m d F a b 0 0 = List.replicate (d + 1) 0 := Ser.cut_zero m d
theorem putS_step (m : Int) (d : Nat) (F : Nat → Nat → Int) (a b : List Int) (i J : Nat) :
    Ser.cut m d (fun n => Ser.co (putS m d F a b i J) n + Ser.co (Ser.cut m d fun n => Ser.co (Ser.mulL m d (Ser.pwL m d a i) (Ser.pwL m d b J)) n * F i J) n) = putS m d F a b i (J + 1) := by
  refine Ser.cut_congr (fun n hn => ?_)
  rw [acc_succ]
  unfold putS
  rw [Ser.co_cut hn, Ser.co_cut hn]
  refine Ser.add_cong (Int.emod_emod _ _) ?_
  rw [Int.emod_emod, Int.mul_comm]
  refine Ser.mul_cong rfl ?_
  unfold Ser.mulL
  rw [Ser.co_cut hn, Int.emod_emod, Ser.pwL_cut, Ser.pwL_cut, Ser.mul_at]
  exact Ser.cv_congr n ((Ser.co_cut_eq _ _ _).less hn) ((Ser.co_cut_eq _ _ _).less hn)
theorem putS_skip (m : Int) (d : Nat) (F : Nat → Nat → Int) (a b : List Int) (i J : Nat) (h : F i J = 0) : putS m d F a b i (J + 1) = putS m d F a b i J := by
  refine Ser.cut_congr (fun n hn => ?_)
  rw [acc_succ, h, Int.zero_mul, Int.add_zero]
theorem putS_next (m : Int) (d : Nat) (F : Nat → Nat → Int) (a b : List Int) (i J : Nat) (h : i + J = d + 1) : putS m d F a b i J = putS m d F a b (i + 1) 0 :=
  Ser.cut_congr (fun n hn => by rw [acc_next _ _ _ _ h])
theorem putS_last (m : Int) (d : Nat) (F : Nat → Nat → Int) (a b : List Int) (hF : ∀ i j, d < i + j → F i j = 0) : putS m d F a b (d + 1) 0 = putL m d F a b :=
  Ser.cut_congr (fun n hn => by
    rw [acc_last _ _ (fun i j h => by rw [hF i j h, Int.zero_mul])]; rfl)

/-! the model's table for f(a(x), b(y)) -/
def botG (F : Nat → Nat → Int) (a b : Nat → Int) (p q i j : Nat) : Int := F i j * (pw a i p * pw b j q)
def botS (d : Nat) (F : Nat → Nat → Int) (a b : Nat → Int) (i J p q : Nat) : Int := acc d (botG F a b p q) i J
def botK (d : Nat) (F : Nat → Nat → Int) (a b : Nat → Int) (i J k l p q : Nat) : Int := botS d F a b i J p q + if p < k ∨ (p = k ∧ q < l) then botG F a b p q i J else 0
theorem botG_low1 {F : Nat → Nat → Int} {a b : Nat → Int} (ha : a 0 = 0) {p q i j : Nat} (h : p < i) : botG F a b p q i j = 0 := by
  unfold botG; rw [Ser.pw_low ha i p h]; simp
theorem botG_low2 {F : Nat → Nat → Int} {a b : Nat → Int} (hb : b 0 = 0) {p q i j : Nat} (h : q < j) : botG F a b p q i j = 0 := by
  unfold botG; rw [Ser.pw_low hb j q h]; simp
theorem botS_zero (m : Int) (d : Nat) (F : Nat → Nat → Int) (a b : Nat → Int) : tab m d (botS d F a b 0 0) = tab m d fun _ _ => 0 := rfl
theorem botK_begin (m : Int) (d : Nat) (F : Nat → Nat → Int) {a b : Nat → Int} (ha : a 0 = 0) (hb : b 0 = 0) (i J : Nat) : tab m d (botK d F a b i J i J) = tab m d (botS d F a b i J) :=
  tab_congr (Eq.of m d (fun p q _ => by
    unfold botK
    split
    · rename_i h
      rcases h with h | h
      · rw [botG_low1 ha h, Int.add_zero]
      · rw [botG_low2 hb h.2, Int.add_zero]
    · rw [Int.add_zero]))
theorem botK_row (m : Int) (d : Nat) (F : Nat → Nat → Int) {a b : Nat → Int} (hb : b 0 = 0) (i J k l : Nat) (h : d < k + l) : tab m d (botK d F a b i J k l) = tab m d (botK d F a b i J (k + 1) J) :=
  tab_congr (Eq.of m d (fun p q hpq => by
    unfold botK
    by_cases h1 : p < k ∨ (p = k ∧ q < l)
    · rw [if_pos h1, if_pos (by omega)]
    · rw [if_neg h1]
      split
      · rename_i h2
        rw [botG_low2 hb (by omega)]
      · rfl))
theorem botK_end (m : Int) (d : Nat) (F : Nat → Nat → Int) (a b : Nat → Int) (i J k l : Nat) (h : d < k) : tab m d (botK d F a b i J k l) = tab m d (botS d F a b i (J + 1)) :=
  tab_congr (Eq.of m d (fun p q hpq => by
    unfold botK botS
    rw [if_pos (by omega), acc_succ]))
theorem botK_step (m : Int) (d : Nat) (F : Nat → Nat → Int) (a b : List Int) (i J k l : Nat) (h : k + l ≤ d) :
    (tab m d (botK d F (Ser.co a) (Ser.co b) i J k l)).set k ((rw' (tab m d (botK d F (Ser.co a) (Ser.co b) i J k l)) k).set l ((pc (tab m d (botK d F (Ser.co a) (Ser.co b) i J k l)) k l + (F i J * Ser.co (Ser.pwL m d a i) k) % m * Ser.co (Ser.pwL m d b J) l) % m)) = tab m d (botK d F (Ser.co a) (Ser.co b) i J k (l + 1)) := by
  refine tab_put h ?_ (fun p q hpq hne => ?_)
  · rw [pc_tab h]
    unfold botK
    rw [if_pos (by omega), if_neg (by omega), Int.add_zero]
    refine Ser.add_cong (Int.emod_emod _ _).symm ?_
    rw [Ser.pwL_cut, Ser.pwL_cut, Ser.co_cut (by omega), Ser.co_cut (by omega)]
    unfold botG
    rw [← Int.mul_assoc]
    refine Ser.mul_cong ?_ (Int.emod_emod _ _).symm
    rw [Int.emod_emod]
    exact Ser.mul_cong rfl (Int.emod_emod _ _).symm
  · unfold botK
    by_cases h1 : p < k ∨ (p = k ∧ q < l)
    · rw [if_pos h1, if_pos (by omega)]
    · rw [if_neg h1, if_neg (by omega)]
theorem botS_skip (m : Int) (d : Nat) (F : Nat → Nat → Int) (a b : Nat → Int) (i J : Nat) (h : F i J = 0) : tab m d (botS d F a b i (J + 1)) = tab m d (botS d F a b i J) :=
  tab_congr (Eq.of m d (fun p q hpq => by
    unfold botS
    rw [acc_succ]
    unfold botG
    rw [h, Int.zero_mul, Int.add_zero]))
theorem botS_next (m : Int) (d : Nat) (F : Nat → Nat → Int) (a b : Nat → Int) (i J : Nat) (h : i + J = d + 1) : tab m d (botS d F a b i J) = tab m d (botS d F a b (i + 1) 0) :=
  tab_congr (Eq.of m d (fun p q hpq => by unfold botS; rw [acc_next _ _ _ _ h]))
theorem botS_last (m : Int) (d : Nat) (F : Nat → Nat → Int) (a b : List Int) (hF : ∀ i j, d < i + j → F i j = 0) : tab m d (botS d F (Ser.co a) (Ser.co b) (d + 1) 0) = botT m d F a b :=
  tab_congr (Eq.of m d (fun p q hpq => by
    unfold botS
    rw [acc_last _ _ (fun i j h => by unfold botG; rw [hF i j h, Int.zero_mul])]; rfl))
end Pl
end Go.Proofs.Ytilfjhnkjdfcoab

/- Plain theory of laws: powers of a table, Horner's rule for tables, faults, inverses: no program in sight. -/
namespace Go.Proofs.Ytilfjhnkjdfcoab
namespace Pl
open Ser (psum cv pw)

theorem mul2_congr {m : Int} {a a' b b' : Nat → Nat → Int} {d : Nat} (h : Eq m d a a') (k : Eq m d b b') : Eq m d (mul2 a b) (mul2 a' b') := by
  intro p q hpq
  refine Ser.psum_congr _ (fun i hi => Ser.psum_congr _ (fun j hj => Ser.mul_cong (h i j (by omega)) (k _ _ (by omega))))
theorem mul2_add (a a' b : Nat → Nat → Int) (p q : Nat) : mul2 (fun i j => a i j + a' i j) b p q = mul2 a b p q + mul2 a' b p q := by
  unfold mul2
  rw [← Ser.psum_add]
  refine Ser.psum_ext _ (fun i _ => ?_)
  rw [← Ser.psum_add]
  exact Ser.psum_ext _ (fun j _ => Int.add_mul _ _ _)
theorem mul2_smul (c : Int) (a b : Nat → Nat → Int) (p q : Nat) : mul2 (fun i j => c * a i j) b p q = c * mul2 a b p q := by
  unfold mul2
  rw [← Ser.psum_mul]
  refine Ser.psum_ext _ (fun i _ => ?_)
  rw [← Ser.psum_mul]
  exact Ser.psum_ext _ (fun j _ => Int.mul_assoc _ _ _)
theorem mul2_turn (a b : Nat → Nat → Int) (p q : Nat) : mul2 a b q p = mul2 (fun i j => a j i) (fun i j => b j i) p q := by
  unfold mul2
  exact Ser.psum_swap _ _ _
/-- a number alone -/
def one2 (c : Int) : Nat → Nat → Int := fun p q => if p = 0 ∧ q = 0 then c else 0
/-- the powers of a table, and their list of tables -/
def pw2 (F : Nat → Nat → Int) : Nat → Nat → Nat → Int
  | 0 => one2 1
  | k + 1 => mul2 (pw2 F k) F
def pwT (m : Int) (d : Nat) (F : Nat → Nat → Int) : Nat → List (List Int)
  | 0 => tab m d (one2 1)
  | k + 1 => tab m d (mul2 (pc (pwT m d F k)) F)
theorem pwT_tab (m : Int) (d : Nat) (F : Nat → Nat → Int) : ∀ k, pwT m d F k = tab m d (pw2 F k) := by
  intro k
  induction k with
  | zero => rfl
  | succ k ih =>
    show tab m d (mul2 (pc (pwT m d F k)) F) = tab m d (mul2 (pw2 F k) F)
    rw [ih]
    exact tab_congr (mul2_congr (pc_tab_eq _ _ _) (Eq.refl _ _ _))
theorem pwT_length (m : Int) (d : Nat) (F : Nat → Nat → Int) (k : Nat) : (pwT m d F k).length = d + 1 := by cases k <;> exact tab_length _ _ _
/-- symmetric up to the degree -/
def Sym (d : Nat) (F : Nat → Nat → Int) : Prop := ∀ i j, i + j ≤ d → F i j = F j i
theorem pw2_sym {d : Nat} {F : Nat → Nat → Int} (h : Sym d F) : ∀ k, Sym d (pw2 F k) := by
  intro k
  induction k with
  | zero =>
    intro i j _
    show one2 1 i j = one2 1 j i
    unfold one2
    by_cases c : i = 0 ∧ j = 0
    · rw [if_pos c, if_pos ⟨c.2, c.1⟩]
    · rw [if_neg c, if_neg (fun e => c ⟨e.2, e.1⟩)]
  | succ k ih =>
    intro i j hij
    show mul2 (pw2 F k) F i j = mul2 (pw2 F k) F j i
    rw [mul2_turn (pw2 F k) F i j]
    refine Ser.psum_ext _ (fun a ha => Ser.psum_ext _ (fun b hb => ?_))
    rw [ih a b (by omega), h (i - a) (j - b) (by omega)]
/-- Horner's table when the last k of a list's coefficients have been taken in -/
def horq (m : Int) (d : Nat) (l : List Int) (F : Nat → Nat → Int) : Nat → List (List Int)
  | 0 => tab m d fun _ _ => 0
  | k + 1 => tab m d fun p q => mul2 (pc (horq m d l F k)) F p q + (if p = 0 ∧ q = 0 then Ser.co l (l.length - 1 - k) else 0)
theorem horq_length (m : Int) (d : Nat) (l : List Int) (F : Nat → Nat → Int) (k : Nat) : (horq m d l F k).length = d + 1 := by
  cases k <;> exact tab_length _ _ _
theorem horq_ok {m : Int} {d : Nat} (m1 : 2 ≤ m) (m2 : m ≤ 10000) (d1 : 1 ≤ d) (d2 : d ≤ 10) (l : List Int) (F : Nat → Nat → Int) (k : Nat) : Ok m d (horq m d l F k) := by
  cases k <;> (unfold horq; exact Ok.of_tab m1 m2 d1 d2 _)
theorem horq_step {m : Int} {d : Nat} (l : List Int) (F : Nat → Nat → Int) (k : Nat) :
    (tab m d (mul2 (pc (horq m d l F k)) F)).set 0 ((rw' (tab m d (mul2 (pc (horq m d l F k)) F)) 0).set 0 ((pc (tab m d (mul2 (pc (horq m d l F k)) F)) 0 0 + Ser.co l (l.length - 1 - k)) % m)) = horq m d l F (k + 1) := by
  rw [pc_tab (Nat.zero_le _)]
  refine tab_put (Nat.zero_le _) ?_ (fun p q _ hne => ?_)
  · rw [if_pos ⟨rfl, rfl⟩, Int.emod_add_emod]
  · rw [if_neg hne, Int.add_zero]
theorem mul2_psum (g : Nat → Nat → Nat → Int) (F : Nat → Nat → Int) (p q : Nat) : ∀ n, mul2 (fun i j => psum (fun k => g k i j) n) F p q = psum (fun k => mul2 (g k) F p q) n := by
  intro n
  induction n with
  | zero =>
    have : (fun i j : Nat => psum (fun k => g k i j) 0) = fun i j => 0 * F i j := by funext i j; rw [Int.zero_mul]; rfl
    rw [this, mul2_smul, Int.zero_mul]; rfl
  | succ n ih =>
    have : (fun i j => psum (fun k => g k i j) (n + 1)) = fun i j => psum (fun k => g k i j) n + g n i j := rfl
    rw [this, mul2_add, ih, psum]
theorem horq_pw {m : Int} {d : Nat} (l : List Int) (F : Nat → Nat → Int) : ∀ k, k ≤ l.length → Eq m d (pc (horq m d l F k)) (fun p q => psum (fun i => Ser.co l (l.length - k + i) * pw2 F i p q) k) := by
  intro k
  induction k with
  | zero => intro _ p q h; rw [show horq m d l F 0 = tab m d fun _ _ => 0 from rfl, pc_tab h, Int.emod_emod]; rfl
  | succ k ih =>
    intro hk p q h
    rw [show horq m d l F (k + 1) = tab m d fun p q => mul2 (pc (horq m d l F k)) F p q + (if p = 0 ∧ q = 0 then Ser.co l (l.length - 1 - k) else 0) from rfl, pc_tab h, Int.emod_emod]
    dsimp only
    rw [Ser.psum_left, Int.add_comm (Ser.co l _ * _)]
    refine Ser.add_cong ?_ ?_
    · rw [mul2_congr (ih (by omega)) (Eq.refl _ _ _) p q h, mul2_psum]
      congr 1
      refine Ser.psum_ext _ (fun i hi => ?_)
      rw [mul2_smul, show l.length - k + i = l.length - (k + 1) + (i + 1) by omega]; rfl
    · rw [show l.length - 1 - k = l.length - (k + 1) + 0 by omega]
      show _ = (_ * one2 1 p q) % m
      unfold one2
      split <;> simp
/-- the coefficient at x^a y^b z^c of F(F(x, y), z) -/
def brS (m : Int) (d : Nat) (F : Nat → Nat → Int) (a b c : Nat) : Int := psum (fun i => F i c * pc (pwT m d F i) a b) (d + 1 - c)
def br (m : Int) (d : Nat) (F : Nat → Nat → Int) (a b c : Nat) : Int := brS m d F a b c % m
theorem horq_br {m : Int} {d : Nat} (l : List Int) (F : Nat → Nat → Int) (c : Nat) (hl : l.length = d + 1 - c) (h : ∀ i, i < l.length → Ser.co l i = F i c) (a b : Nat) (hab : a + b ≤ d) : pc (horq m d l F l.length) a b = br m d F a b c := by
  have hr : pc (horq m d l F l.length) a b = pc (horq m d l F l.length) a b % m := by
    have e : ∀ k, ∃ g, horq m d l F k = tab m d g := fun k => by cases k <;> exact ⟨_, rfl⟩
    obtain ⟨g, hg⟩ := e l.length
    rw [hg, pc_tab hab, Int.emod_emod]
  rw [hr, horq_pw l F l.length (Nat.le_refl _) a b hab]
  unfold br brS
  rw [hl]
  refine Ser.psum_congr _ (fun i hi => ?_)
  rw [Nat.sub_self, Nat.zero_add, h i (by omega), pwT_tab]
  exact Ser.mul_cong rfl (by rw [pc_tab hab, Int.emod_emod])
theorem horq_br' {m : Int} {d : Nat} (l : List Int) {F : Nat → Nat → Int} (hs : Sym d F) (c : Nat) (hl : l.length = d + 1 - c) (h : ∀ i, i < l.length → Ser.co l i = F c i) (a b : Nat) (hab : a + b ≤ d) : pc (horq m d l F l.length) b a = br m d F a b c := by
  rw [horq_br l F c hl (fun i hi => by rw [h i hi, hs c i (by omega)]) b a (by omega)]
  unfold br brS
  refine Ser.psum_congr _ (fun i hi => ?_)
  rw [pwT_tab, pc_tab (by omega), pc_tab hab, pw2_sym hs i b a (by omega)]

/-! the first of something -/
def srch (p : Nat → Option (List Int)) : Nat → Nat → Option (List Int)
  | 0, _ => none
  | n + 1, k => match p k with
    | some x => some x
    | none => srch p n (k + 1)
def orE (a b : Option (List Int)) : Option (List Int) := match a with
  | some x => some x
  | none => b
theorem srch_hit {p : Nat → Option (List Int)} {k : Nat} {x : List Int} (n : Nat) (h : p k = some x) : srch p (n + 1) k = some x := by rw [srch, h]
theorem srch_miss {p : Nat → Option (List Int)} {k : Nat} (n : Nat) (h : p k = none) : srch p (n + 1) k = srch p n (k + 1) := by rw [srch, h]
theorem srch_step (p : Nat → Option (List Int)) (n k : Nat) : srch p (n + 1) k = orE (p k) (srch p n (k + 1)) := by rw [srch]; unfold orE; split <;> simp_all
theorem orE_none (b : Option (List Int)) : orE none b = b := rfl
theorem orE_some (x : List Int) (b : Option (List Int)) : orE (some x) b = some x := rfl
theorem srch_none {p : Nat → Option (List Int)} : ∀ n k, srch p n k = none → ∀ i, k ≤ i → i < k + n → p i = none := by
  intro n
  induction n with
  | zero => intro k _ i h1 h2; omega
  | succ n ih =>
    intro k h i h1 h2
    rw [srch_step] at h
    cases hp : p k with
    | some x => rw [hp] at h; exact absurd h (by simp [orE])
    | none =>
      rw [hp] at h
      by_cases hi : i = k
      · rw [hi]; exact hp
      · exact ih (k + 1) h i (by omega) (by omega)
def want (i : Nat) : Int := if i = 1 then 1 else 0
def fau0 (F : Nat → Nat → Int) (i : Nat) : Option (List Int) := if F i 0 = want i then none else some [0, (i : Int)]
def fau1j (F : Nat → Nat → Int) (i j : Nat) : Option (List Int) := if F i j = F j i then none else some [1, (i : Int), (j : Int)]
def fau1 (d : Nat) (F : Nat → Nat → Int) (i : Nat) : Option (List Int) := srch (fau1j F i) (d - i - i) (i + 1)
def fau2c (m : Int) (d : Nat) (F : Nat → Nat → Int) (a b c : Nat) : Option (List Int) := if br m d F a b c = br m d F c b a then none else some [2, (a : Int), (b : Int), (c : Int)]
def fau2b (m : Int) (d : Nat) (F : Nat → Nat → Int) (a b : Nat) : Option (List Int) := srch (fau2c m d F a b) (d + 1 - (a + b)) 0
def fau2 (m : Int) (d : Nat) (F : Nat → Nat → Int) (a : Nat) : Option (List Int) := srch (fau2b m d F a) (d + 1 - a) 0
def fauP (d : Nat) (F : Nat → Nat → Int) : Option (List Int) := srch (fau0 F) (d + 1) 0
def fauS (d : Nat) (F : Nat → Nat → Int) : Option (List Int) := srch (fau1 d F) (d + 1) 0
def fauT (m : Int) (d : Nat) (F : Nat → Nat → Int) : Option (List Int) := srch (fau2 m d F) (d + 1) 0
def fau (m : Int) (d : Nat) (F : Nat → Nat → Int) : Option (List Int) := orE (fauP d F) (orE (fauS d F) (fauT m d F))
theorem fauP_none {d : Nat} {F : Nat → Nat → Int} (h : fauP d F = none) (i : Nat) (hi : i ≤ d) : F i 0 = want i := by
  have := srch_none _ _ h i (Nat.zero_le _) (by omega)
  unfold fau0 at this
  by_cases c : F i 0 = want i
  · exact c
  · rw [if_neg c] at this; exact absurd this (by simp)
theorem fauS_none {d : Nat} {F : Nat → Nat → Int} (h : fauS d F = none) : Sym d F := by
  have key : ∀ i j, i < j → i + j ≤ d → F i j = F j i := by
    intro i j h1 h2
    have := srch_none _ _ (srch_none _ _ h i (Nat.zero_le _) (by omega)) j (by omega) (by omega)
    unfold fau1j at this
    by_cases c : F i j = F j i
    · exact c
    · rw [if_neg c] at this; exact absurd this (by simp)
  intro i j hij
  by_cases h1 : i < j
  · exact key i j h1 hij
  · by_cases h2 : j < i
    · exact (key j i h2 (by omega)).symm
    · rw [show i = j by omega]

/-! the inverse of a law -/
/-- the first variable's terms are t alone, the second's too -/
structure Norm (d : Nat) (F : Nat → Nat → Int) : Prop where
  x : ∀ i, i ≤ d → F i 0 = want i
  y : ∀ j, j ≤ d → F 0 j = want j
  over : ∀ i j, d < i + j → F i j = 0
theorem norm_of {d : Nat} {F : Nat → Nat → Int} (h : fauP d F = none) (h' : fauS d F = none) (ho : ∀ i j, d < i + j → F i j = 0) : Norm d F :=
  ⟨fauP_none h, fun j hj => by rw [fauS_none h' 0 j (by omega)]; exact fauP_none h j hj, ho⟩
/-- products and powers up to n ask for coefficients up to n -/
theorem pw_less {m : Int} {n : Nat} {g g' : Nat → Int} (h : ∀ i, i < n → g i % m = g' i % m) (k i : Nat) (hi : i < n) : pw g k i % m = pw g' k i % m :=
  Ser.pw_congr (m := m) (n := n - 1) (fun j hj => h j (by omega)) k i (by omega)
/-- what one coefficient more does to a sum of curves under a law -/
theorem put_last {m : Int} {d : Nat} {F : Nat → Nat → Int} (hF : Norm d F) {a g g' : Nat → Int} (ha : a 0 = 0) (hg : g 0 = 0) (hg' : g' 0 = 0) {n : Nat} (hn : 1 ≤ n) (hnd : n ≤ d) (h : ∀ i, i < n → g i % m = g' i % m) :
    (putF F a g (d + 1) n - putF F a g' (d + 1) n) % m = (g n - g' n) % m := by
  have e : ∀ u : Nat → Int, u 0 = 0 → putF F a u (d + 1) n = psum (fun j => F 0 j * pw u j n) (d + 1) + psum (fun i => psum (fun j => F (i + 1) j * cv n (pw a (i + 1)) (pw u j)) (d + 1)) d := by
    intro u _
    unfold putF
    rw [Ser.psum_left]
    congr 1
    refine Ser.psum_ext _ (fun j _ => ?_)
    rw [show pw a 0 = Ser.mon 0 1 from rfl, Ser.cv_const, Int.one_mul]
  have e0 : ∀ u : Nat → Int, psum (fun j => F 0 j * pw u j n) (d + 1) = u n := by
    intro u
    rw [Ser.psum_ext (g := fun j => u n * Ser.mon j 1 1) (d + 1) (fun j hj => by
      rw [hF.y j (by omega)]
      unfold want Ser.mon
      by_cases c : j = 1
      · rw [if_pos c, if_pos c.symm, c, Int.one_mul, Int.mul_one]
        show Ser.cv n (Ser.mon 0 1) u = u n
        rw [Ser.cv_const, Int.one_mul]
      · rw [if_neg c, if_neg (fun h => c h.symm), Int.zero_mul, Int.mul_zero])]
    rw [Ser.psum_mon (fun _ => u n) 1 (d + 1), if_pos (by omega)]
  rw [e g hg, e g' hg', e0, e0]
  have hz : ∀ (i : Nat), pw a (i + 1) 0 = 0 := fun i => Ser.pw_low ha (i + 1) 0 (by omega)
  have hc : psum (fun i => psum (fun j => F (i + 1) j * cv n (pw a (i + 1)) (pw g j)) (d + 1)) d % m = psum (fun i => psum (fun j => F (i + 1) j * cv n (pw a (i + 1)) (pw g' j)) (d + 1)) d % m :=
    Ser.psum_congr _ (fun i _ => Ser.psum_congr _ (fun j _ => Ser.mul_cong rfl (Ser.cv_congr_curve (by rw [hz, Int.zero_emod]) (by rw [hz, Int.zero_emod]) (Ser.Eq.refl _ _ _) (fun k hk => pw_less h j k hk))))
  have := Ser.sub_cong (m := m) (x := g n + _) (y := g n + _) (Ser.add_cong rfl hc) (rfl : (g' n + psum (fun i => psum (fun j => F (i + 1) j * cv n (pw a (i + 1)) (pw g' j)) (d + 1)) d) % m = _)
  rw [this]
  congr 1
  omega
theorem put_congr {m : Int} {F : Nat → Nat → Int} {a a' g g' : Nat → Int} {N n : Nat} (h : Ser.Eq m n a a') (h' : Ser.Eq m n g g') : putF F a g N n % m = putF F a' g' N n % m :=
  Ser.psum_congr _ (fun i _ => Ser.psum_congr _ (fun j _ => Ser.mul_cong rfl (Ser.cv_congr n (Ser.pw_congr h i) (Ser.pw_congr h' j))))
theorem put_zero {d : Nat} {F : Nat → Nat → Int} (hF : Norm d F) {a g : Nat → Int} (ha : a 0 = 0) (hg : g 0 = 0) : putF F a g (d + 1) 0 = 0 := by
  unfold putF
  refine Ser.psum_low _ _ (fun i hi => Ser.psum_low _ _ (fun j hj => ?_))
  rw [Ser.cv_zero]
  by_cases c : i = 0 ∧ j = 0
  · rw [c.1, c.2, hF.x 0 (Nat.zero_le _)]; simp [want]
  · by_cases c1 : i = 0
    · rw [Ser.pw_low hg j 0 (by omega)]; simp
    · rw [Ser.pw_low ha i 0 (by omega)]; simp
/-- the line t -/
def lin (m : Int) (d : Nat) (c : Int) : List Int := Ser.cut m d (Ser.mon 1 c)
/-- the model's inverse after n numbers -/
def invS (m : Int) (d : Nat) (F : Nat → Nat → Int) : Nat → List Int
  | 0 => List.replicate (d + 1) 0
  | n + 1 => (invS m d F n).set (n + 1) ((m - Ser.co (putL m d F (lin m d 1) (invS m d F n)) (n + 1)) % m)
/-- the program's -/
def invP (m : Int) (d : Nat) (F : Nat → Nat → Int) : Nat → List Int
  | 0 => lin m d 0
  | n + 1 => Ser.cut m d fun i => Ser.co (invP m d F n) i + Ser.co (Ser.cut m d fun j => Ser.co (putL m d F (lin m d 1) (invP m d F n)) j * -1) i
theorem invS_length (m : Int) (d : Nat) (F : Nat → Nat → Int) (n : Nat) : (invS m d F n).length = d + 1 := by
  induction n with
  | zero => simp [invS]
  | succ n ih => rw [invS, List.length_set, ih]
theorem invP_length (m : Int) (d : Nat) (F : Nat → Nat → Int) (n : Nat) : (invP m d F n).length = d + 1 := by cases n <;> exact Ser.cut_length _ _ _
theorem invS_red {m : Int} (hm : 0 < m) (d : Nat) (F : Nat → Nat → Int) (n : Nat) : Ser.Red m (invS m d F n) := by
  induction n with
  | zero => intro i; rw [invS, Ser.co_zeros]; omega
  | succ n ih =>
    intro i
    rw [invS]
    by_cases c : n + 1 < d + 1
    · rw [Ser.co_set (by rw [invS_length]; exact c)]
      split
      · exact ⟨Int.emod_nonneg _ (by omega), Int.emod_lt_of_pos _ hm⟩
      · exact ih i
    · rw [List.set_eq_of_length_le (by rw [invS_length]; omega)]; exact ih i
theorem invP_red {m : Int} (hm : 0 < m) (d : Nat) (F : Nat → Nat → Int) (n : Nat) : Ser.Red m (invP m d F n) := by cases n <;> exact Ser.cut_red hm _ _
theorem invS_co (m : Int) (d : Nat) (F : Nat → Nat → Int) (n i : Nat) (hn : n < d) : Ser.co (invS m d F (n + 1)) i = if i = n + 1 then (m - Ser.co (putL m d F (lin m d 1) (invS m d F n)) (n + 1)) % m else Ser.co (invS m d F n) i := by
  rw [invS, Ser.co_set (by rw [invS_length]; omega)]
theorem invS_curve (m : Int) (d : Nat) (F : Nat → Nat → Int) : ∀ n, n ≤ d → Ser.co (invS m d F n) 0 = 0 := by
  intro n
  induction n with
  | zero => intro _; rw [invS, Ser.co_zeros]
  | succ n ih => intro hn; rw [invS_co _ _ _ _ _ (by omega), if_neg (by omega), ih (by omega)]
theorem invS_over (m : Int) (d : Nat) (F : Nat → Nat → Int) : ∀ n i, n ≤ d → n < i → Ser.co (invS m d F n) i = 0 := by
  intro n
  induction n with
  | zero => intro i _ _; rw [invS, Ser.co_zeros]
  | succ n ih => intro i hn hi; rw [invS_co _ _ _ _ _ (by omega), if_neg (by omega), ih i (by omega) (by omega)]
theorem invS_pre (m : Int) (d : Nat) (F : Nat → Nat → Int) (n k i : Nat) (h : i ≤ n) (hk : n + k ≤ d) : Ser.co (invS m d F (n + k)) i = Ser.co (invS m d F n) i := by
  induction k with
  | zero => rfl
  | succ k ih => rw [← Nat.add_assoc, invS_co _ _ _ _ _ (by omega), if_neg (by omega), ih (by omega)]
theorem lin_curve (m : Int) (d : Nat) (c : Int) : Ser.co (lin m d c) 0 = 0 := by
  unfold lin; rw [Ser.co_cut (Nat.zero_le _)]; simp [Ser.mon]
theorem put_cut {m : Int} {d : Nat} {F : Nat → Nat → Int} {a b : List Int} {n : Nat} (h : n ≤ d) : Ser.co (putL m d F a b) n = putF F (Ser.co a) (Ser.co b) (d + 1) n % m := Ser.co_cut h
/-- the model's inverse is one -/
theorem invS_inv {m : Int} {d : Nat} {F : Nat → Nat → Int} (hF : Norm d F) : ∀ n, n ≤ d → ∀ i, i ≤ n → putF F (Ser.co (lin m d 1)) (Ser.co (invS m d F n)) (d + 1) i % m = 0 := by
  intro n
  induction n with
  | zero =>
    intro _ i hi
    obtain rfl : i = 0 := by omega
    rw [put_zero hF (lin_curve m d 1) (invS_curve m d F 0 (Nat.zero_le _)), Int.zero_emod]
  | succ n ih =>
    intro hn i hi
    by_cases c : i ≤ n
    · rw [put_congr (Ser.Eq.refl m i _) (Ser.Eq.of m i (fun j hj => invS_pre m d F n 1 j (by omega) (by omega)))]
      exact ih (by omega) i c
    · obtain rfl : i = n + 1 := by omega
      have := put_last (m := m) hF (a := Ser.co (lin m d 1)) (lin_curve m d 1) (invS_curve m d F (n + 1) hn) (invS_curve m d F n (by omega)) (n := n + 1) (by omega) hn (fun j hj => by rw [invS_pre m d F n 1 j (by omega) (by omega)])
      rw [invS_co m d F n (n + 1) (by omega), if_pos rfl, invS_over m d F n (n + 1) (by omega) (by omega), put_cut hn] at this
      revert this
      generalize putF F (Ser.co (lin m d 1)) (Ser.co (invS m d F (n + 1))) (d + 1) (n + 1) = X
      generalize putF F (Ser.co (lin m d 1)) (Ser.co (invS m d F n)) (d + 1) (n + 1) = Y
      intro h
      rw [Int.sub_zero, Int.emod_emod] at h
      have h2 := Ser.add_cong (m := m) h (rfl : Y % m = Y % m)
      rw [Int.sub_add_cancel] at h2
      rw [h2]
      have h3 : (m - Y % m + Y) % m = (m - Y + Y) % m := Ser.add_cong (Ser.sub_cong rfl (Int.emod_emod _ _)) rfl
      rw [h3, Int.sub_add_cancel, Int.emod_self]
theorem invP_co {m : Int} {d : Nat} {F : Nat → Nat → Int} (n i : Nat) (hi : i ≤ d) : Ser.co (invP m d F (n + 1)) i % m = (Ser.co (invP m d F n) i - putF F (Ser.co (lin m d 1)) (Ser.co (invP m d F n)) (d + 1) i) % m := by
  rw [invP, Ser.co_cut hi, Ser.co_cut hi, Int.emod_emod, Int.sub_eq_add_neg]
  refine Ser.add_cong rfl ?_
  rw [Int.emod_emod, put_cut hi, Int.mul_neg, Int.mul_one, show -(putF F (Ser.co (lin m d 1)) (Ser.co (invP m d F n)) (d + 1) i % m) = 0 - putF F (Ser.co (lin m d 1)) (Ser.co (invP m d F n)) (d + 1) i % m by omega, show -putF F (Ser.co (lin m d 1)) (Ser.co (invP m d F n)) (d + 1) i = 0 - putF F (Ser.co (lin m d 1)) (Ser.co (invP m d F n)) (d + 1) i by omega]
  exact Ser.sub_cong rfl (Int.emod_emod _ _)
theorem invP_curve {m : Int} (hm : 0 < m) {d : Nat} {F : Nat → Nat → Int} (hF : Norm d F) : ∀ n, Ser.co (invP m d F n) 0 = 0 := by
  intro n
  induction n with
  | zero => exact lin_curve m d 0
  | succ n ih =>
    have h := invP_co (m := m) (F := F) n 0 (Nat.zero_le d)
    rw [put_zero hF (lin_curve m d 1) ih, ih] at h
    have hr := invP_red hm d F (n + 1) 0
    rw [Int.emod_eq_of_lt hr.1 hr.2] at h
    simpa using h
theorem invP_agrees {m : Int} (hm : 0 < m) {d : Nat} {F : Nat → Nat → Int} (hF : Norm d F) : ∀ n, n ≤ d → ∀ i, i ≤ n → Ser.co (invP m d F n) i % m = Ser.co (invS m d F d) i % m := by
  intro n
  induction n with
  | zero =>
    intro _ i hi
    obtain rfl : i = 0 := by omega
    rw [invP_curve hm hF, invS_curve m d F d (Nat.le_refl _)]
  | succ n ih =>
    intro hn i hi
    rw [invP_co n i (by omega)]
    have hz := invS_inv (m := m) hF d (Nat.le_refl _) i (by omega)
    by_cases c : i ≤ n
    · have := put_congr (F := F) (N := d + 1) (Ser.Eq.refl m i (Ser.co (lin m d 1))) (fun j hj => ih (by omega) j (by omega) : Ser.Eq m i (Ser.co (invP m d F n)) (Ser.co (invS m d F d)))
      rw [hz] at this
      rw [Ser.sub_cong (ih (by omega) i c) (this.trans (Int.zero_emod m).symm), Int.sub_zero]
    · obtain rfl : i = n + 1 := by omega
      have := put_last (m := m) hF (a := Ser.co (lin m d 1)) (lin_curve m d 1) (invP_curve hm hF n) (invS_curve m d F d (Nat.le_refl _)) (n := n + 1) (by omega) hn (fun j hj => ih (by omega) j (by omega))
      revert this hz
      generalize putF F (Ser.co (lin m d 1)) (Ser.co (invP m d F n)) (d + 1) (n + 1) = X
      generalize putF F (Ser.co (lin m d 1)) (Ser.co (invS m d F d)) (d + 1) (n + 1) = Y
      intro hz h
      have h1 : X % m = (Ser.co (invP m d F n) (n + 1) - Ser.co (invS m d F d) (n + 1)) % m := by
        rw [← h]
        have := Ser.sub_cong (m := m) (rfl : X % m = X % m) (hz.trans (Int.zero_emod m).symm)
        rw [this, Int.sub_zero]
      rw [Ser.sub_cong rfl h1]
      congr 1
      omega
theorem inv_same {m : Int} (hm : 0 < m) {d : Nat} {F : Nat → Nat → Int} (hF : Norm d F) : invP m d F d = invS m d F d :=
  Ser.red_unique (invP_length m d F d) (invS_length m d F d) (invP_red hm d F d) (invS_red hm d F d) (fun i hi => invP_agrees hm hF d (Nat.le_refl _) i hi)
end Pl
end Go.Proofs.Ytilfjhnkjdfcoab

/- Plain facts: tables under their product are a commutative ring; Horner's tables of any list; quotients: no program in sight. -/
namespace Go.Proofs.Ytilfjhnkjdfcoab
namespace Ser

theorem psum_rev' (f : Nat → Int) (n : Nat) : psum (fun i => f (n - i)) (n + 1) = psum f (n + 1) := by
  have h1 := cv_psum n (fun _ => 1) f
  have h2 := cv_psum n f (fun _ => 1)
  rw [cv_comm, h2] at h1
  rw [psum_ext (f := fun i => f i * 1) (g := f) _ (fun i _ => Int.mul_one _), psum_ext (f := fun i => 1 * f (n - i)) (g := fun i => f (n - i)) _ (fun i _ => Int.one_mul _)] at h1
  exact h1.symm
theorem psum_tri : ∀ (p : Nat) (g : Nat → Nat → Nat → Int), psum (fun k => psum (fun i => g i (k - i) (p - k)) (k + 1)) (p + 1) = psum (fun i => psum (fun j => g i j (p - i - j)) (p - i + 1)) (p + 1) := by
  intro p
  induction p with
  | zero => intro g; rfl
  | succ p ih =>
    intro g
    have e1 : psum (fun k => psum (fun i => g i (k - i) (p + 1 - k)) (k + 1)) (p + 1 + 1) = psum (fun k => g 0 k (p + 1 - k)) (p + 1 + 1) + psum (fun k => psum (fun i => g (i + 1) (k - i) (p - k)) (k + 1)) (p + 1) := by
      rw [psum_ext (g := fun k => g 0 k (p + 1 - k) + psum (fun i => g (i + 1) (k - (i + 1)) (p + 1 - k)) k) _ (fun k _ => by rw [psum_left]; rfl), psum_add]
      congr 1
      rw [psum_left]
      show 0 + _ = _
      rw [Int.zero_add]
      exact psum_ext _ (fun k _ => psum_ext _ (fun i _ => by rw [show k + 1 - (i + 1) = k - i by omega, show p + 1 - (k + 1) = p - k by omega]))
    have e2 : psum (fun i => psum (fun j => g i j (p + 1 - i - j)) (p + 1 - i + 1)) (p + 1 + 1) = psum (fun k => g 0 k (p + 1 - k)) (p + 1 + 1) + psum (fun i => psum (fun j => g (i + 1) j (p - i - j)) (p - i + 1)) (p + 1) := by
      rw [psum_left]
      congr 1
      exact psum_ext _ (fun i _ => by
        rw [show p + 1 - (i + 1) + 1 = p - i + 1 by omega]
        exact psum_ext _ (fun j _ => by rw [show p + 1 - (i + 1) - j = p - i - j by omega]))
    rw [e1, e2, ih (fun i j k => g (i + 1) j k)]
end Ser

namespace Pl
open Ser (psum)

theorem mul2_comm (a b : Nat → Nat → Int) : mul2 a b = mul2 b a := by
  funext p q
  unfold mul2
  rw [← Ser.psum_rev' (fun k => psum (fun l => a k l * b (p - k) (q - l)) (q + 1)) p]
  refine Ser.psum_ext _ (fun k hk => ?_)
  rw [← Ser.psum_rev' (fun l => a (p - k) l * b (p - (p - k)) (q - l)) q]
  refine Ser.psum_ext _ (fun l hl => ?_)
  rw [show p - (p - k) = k by omega, show q - (q - l) = l by omega, Int.mul_comm]
theorem mul2_assoc (a b c : Nat → Nat → Int) : mul2 (mul2 a b) c = mul2 a (mul2 b c) := by
  funext p q
  have e1 : mul2 (mul2 a b) c p q = psum (fun k => psum (fun i => psum (fun l => psum (fun j => a i j * b (k - i) (l - j) * c (p - k) (q - l)) (l + 1)) (q + 1)) (k + 1)) (p + 1) := by
    unfold mul2
    refine Ser.psum_ext _ (fun k _ => ?_)
    rw [Ser.psum_swap]
    refine Ser.psum_ext _ (fun l _ => ?_)
    rw [← Ser.psum_mul']
    refine Ser.psum_ext _ (fun i _ => ?_)
    rw [← Ser.psum_mul']
  have e2 : mul2 a (mul2 b c) p q = psum (fun i => psum (fun k => psum (fun j => psum (fun l => a i j * b k l * c (p - i - k) (q - j - l)) (q - j + 1)) (q + 1)) (p - i + 1)) (p + 1) := by
    unfold mul2
    refine Ser.psum_ext _ (fun i _ => ?_)
    rw [Ser.psum_swap]
    refine Ser.psum_ext _ (fun j _ => ?_)
    rw [← Ser.psum_mul]
    refine Ser.psum_ext _ (fun k _ => ?_)
    rw [← Ser.psum_mul]
    exact Ser.psum_ext _ (fun l _ => (Int.mul_assoc _ _ _).symm)
  rw [e1, e2, Ser.psum_tri p (fun i k k' => psum (fun l => psum (fun j => a i j * b k (l - j) * c k' (q - l)) (l + 1)) (q + 1))]
  refine Ser.psum_ext _ (fun i _ => Ser.psum_ext _ (fun k _ => ?_))
  exact Ser.psum_tri q (fun j l l' => a i j * b k l * c (p - i - k) l')
theorem mul2_lc (a b c : Nat → Nat → Int) : mul2 a (mul2 b c) = mul2 b (mul2 a c) := by rw [← mul2_assoc, mul2_comm a b, mul2_assoc]
/-- sums and multiples -/
def pl (a b : Nat → Nat → Int) : Nat → Nat → Int := fun i j => a i j + b i j
def sm (c : Int) (a : Nat → Nat → Int) : Nat → Nat → Int := fun i j => c * a i j
theorem pl_mul2 (a b c : Nat → Nat → Int) : mul2 (pl a b) c = pl (mul2 a c) (mul2 b c) := by funext p q; exact mul2_add a b c p q
theorem mul2_pl (a b c : Nat → Nat → Int) : mul2 a (pl b c) = pl (mul2 a b) (mul2 a c) := by rw [mul2_comm, pl_mul2, mul2_comm b, mul2_comm c]
theorem sm_mul2 (c : Int) (a b : Nat → Nat → Int) : mul2 (sm c a) b = sm c (mul2 a b) := by funext p q; exact mul2_smul c a b p q
theorem mul2_sm (c : Int) (a b : Nat → Nat → Int) : mul2 a (sm c b) = sm c (mul2 a b) := by rw [mul2_comm, sm_mul2, mul2_comm b]
theorem one2_mul2 (c : Int) (b : Nat → Nat → Int) : mul2 (one2 c) b = sm c b := by
  funext p q
  unfold mul2
  rw [Ser.psum_left, Ser.psum_left]
  have z1 : psum (fun i => one2 c 0 (i + 1) * b (p - 0) (q - (i + 1))) q = 0 := Ser.psum_low _ _ (fun i _ => by unfold one2; rw [if_neg (by omega), Int.zero_mul])
  have z2 : psum (fun i => psum (fun l => one2 c (i + 1) l * b (p - (i + 1)) (q - l)) (q + 1)) p = 0 := Ser.psum_low _ _ (fun i _ => Ser.psum_low _ _ (fun l _ => by unfold one2; rw [if_neg (by omega), Int.zero_mul]))
  rw [z1, z2]
  show one2 c 0 0 * b p q + 0 + 0 = c * b p q
  have : one2 c 0 0 = c := if_pos ⟨rfl, rfl⟩
  rw [this, Int.add_zero, Int.add_zero]
theorem mul2_one2 (c : Int) (b : Nat → Nat → Int) : mul2 b (one2 c) = sm c b := by rw [mul2_comm, one2_mul2]
theorem sm_one2 (c e : Int) : sm c (one2 e) = one2 (c * e) := by
  funext i j
  unfold sm one2
  split
  · rfl
  · exact Int.mul_zero c
theorem sm_sm (c e : Int) (a : Nat → Nat → Int) : sm c (sm e a) = sm (c * e) a := by funext i j; exact (Int.mul_assoc _ _ _).symm
theorem sm_pl (c : Int) (a b : Nat → Nat → Int) : sm c (pl a b) = pl (sm c a) (sm c b) := by funext i j; exact Int.mul_add _ _ _
theorem one_sm (a : Nat → Nat → Int) : sm 1 a = a := by funext i j; exact Int.one_mul _
theorem Eq.pl {m : Int} {d : Nat} {a a' b b' : Nat → Nat → Int} (h : Eq m d a a') (k : Eq m d b b') : Eq m d (pl a b) (pl a' b') := fun i j hij => Ser.add_cong (h i j hij) (k i j hij)
theorem Eq.sm {m : Int} {d : Nat} {a a' : Nat → Nat → Int} (c : Int) (h : Eq m d a a') : Eq m d (sm c a) (sm c a') := fun i j hij => Ser.mul_cong rfl (h i j hij)
theorem Eq.mul2 {m : Int} {d : Nat} {a a' b b' : Nat → Nat → Int} (h : Eq m d a a') (k : Eq m d b b') : Eq m d (mul2 a b) (mul2 a' b') := mul2_congr h k
/-- equal functions -/
theorem Eq.fn {m : Int} {d : Nat} {a b : Nat → Nat → Int} (h : a = b) : Eq m d a b := h ▸ Eq.refl m d a

/-! the value of a polynomial at a table, by Horner's rule: the list's first number is the constant -/
def polT (m : Int) (d : Nat) (F : Nat → Nat → Int) : List Int → List (List Int)
  | [] => tab m d fun _ _ => 0
  | c :: cs => tab m d fun p q => mul2 (pc (polT m d F cs)) F p q + (if p = 0 ∧ q = 0 then c else 0)
theorem polT_length (m : Int) (d : Nat) (F : Nat → Nat → Int) (cs : List Int) : (polT m d F cs).length = d + 1 := by cases cs <;> exact tab_length _ _ _
theorem polT_ok {m : Int} {d : Nat} (m1 : 2 ≤ m) (m2 : m ≤ 10000) (d1 : 1 ≤ d) (d2 : d ≤ 10) (F : Nat → Nat → Int) (cs : List Int) : Ok m d (polT m d F cs) := by cases cs <;> exact Ok.of_tab m1 m2 d1 d2 _
/-- a round -/
theorem polT_step {m : Int} {d : Nat} (F : Nat → Nat → Int) (c : Int) (cs : List Int) :
    (tab m d (mul2 (pc (polT m d F cs)) F)).set 0 ((rw' (tab m d (mul2 (pc (polT m d F cs)) F)) 0).set 0 ((pc (tab m d (mul2 (pc (polT m d F cs)) F)) 0 0 + c) % m)) = polT m d F (c :: cs) := by
  rw [pc_tab (Nat.zero_le _)]
  refine tab_put (Nat.zero_le _) ?_ (fun p q _ hne => ?_)
  · rw [if_pos ⟨rfl, rfl⟩, Int.emod_add_emod]
  · rw [if_neg hne, Int.add_zero]
/-- the same as a function of tables without remainders -/
def polF (F : Nat → Nat → Int) : List Int → Nat → Nat → Int
  | [] => fun _ _ => 0
  | c :: cs => pl (mul2 (polF F cs) F) (one2 c)
theorem polT_eq (m : Int) (d : Nat) (F : Nat → Nat → Int) : ∀ cs, Eq m d (pc (polT m d F cs)) (polF F cs) := by
  intro cs
  induction cs with
  | nil => exact pc_tab_eq m d _
  | cons c cs ih => exact (pc_tab_eq m d _).trans ((Eq.pl (mul2_congr ih (Eq.refl _ _ _)) (Eq.refl m d (one2 c))))
theorem polF_congr {m : Int} {d : Nat} {F G : Nat → Nat → Int} (h : Eq m d F G) : ∀ cs, Eq m d (polF F cs) (polF G cs) := by
  intro cs
  induction cs with
  | nil => exact Eq.refl _ _ _
  | cons c cs ih => exact (mul2_congr ih h).pl (Eq.refl _ _ _)
theorem polF_tab {m : Int} {d : Nat} {G : Nat → Nat → Int} (F : Nat → Nat → Int) (h : Eq m d F G) (cs : List Int) : Eq m d (pc (polT m d F cs)) (polF G cs) := (polT_eq m d F cs).trans (polF_congr h cs)
theorem zero_mul2 (F : Nat → Nat → Int) : mul2 (fun _ _ => 0) F = fun _ _ => 0 := by
  have : (fun _ _ => (0 : Int)) = sm 0 F := by funext i j; exact (Int.zero_mul _).symm
  rw [this, sm_mul2]
  funext i j
  exact (Int.zero_mul _).trans (Int.zero_mul _).symm
theorem zero_pl (a : Nat → Nat → Int) : pl (fun _ _ => 0) a = a := by funext i j; exact Int.zero_add _
theorem pl_zero (a : Nat → Nat → Int) : pl a (fun _ _ => 0) = a := by funext i j; exact Int.add_zero _
theorem polF_one (F : Nat → Nat → Int) (c : Int) : polF F [c] = one2 c := by show pl (mul2 (fun _ _ => 0) F) (one2 c) = _; rw [zero_mul2, zero_pl]
theorem polF_two (F : Nat → Nat → Int) (a b : Int) : polF F [a, b] = pl (sm b F) (one2 a) := by show pl (mul2 (polF F [b]) F) (one2 a) = _; rw [polF_one, one2_mul2]
theorem polF_three (F : Nat → Nat → Int) (a b c : Int) : polF F [a, b, c] = pl (pl (sm c (mul2 F F)) (sm b F)) (one2 a) := by
  show pl (mul2 (polF F [b, c]) F) (one2 a) = _
  rw [polF_two, pl_mul2, sm_mul2, one2_mul2]
theorem polF_four (F : Nat → Nat → Int) (a b c e : Int) : polF F [a, b, c, e] = pl (pl (pl (sm e (mul2 (mul2 F F) F)) (sm c (mul2 F F))) (sm b F)) (one2 a) := by
  show pl (mul2 (polF F [b, c, e]) F) (one2 a) = _
  rw [polF_three, pl_mul2, pl_mul2, sm_mul2, sm_mul2, one2_mul2]

/-! quotients -/
/-- the quotient's rounds: F the numerator's table, R 1 less the denominator -/
def ovT (m : Int) (d : Nat) (t : List (List Int)) (R : Nat → Nat → Int) : Nat → List (List Int)
  | 0 => t
  | k + 1 => tab m d fun i j => pc t i j + pc (tab m d (mul2 (pc (ovT m d t R k)) R)) i j
theorem ovT_ok {m : Int} {d : Nat} {t : List (List Int)} (h : Ok m d t) (R : Nat → Nat → Int) (k : Nat) : Ok m d (ovT m d t R k) := by
  cases k
  · exact h
  · exact h.tab _
theorem ovT_eq {m : Int} {d : Nat} (t : List (List Int)) (R : Nat → Nat → Int) (k : Nat) : Eq m d (pc (ovT m d t R (k + 1))) (pl (pc t) (mul2 (pc (ovT m d t R k)) R)) :=
  (pc_tab_eq m d _).trans (Eq.pl (Eq.refl _ _ _) (pc_tab_eq m d _))
/-- a product with a table without a constant asks one degree less of the other -/
theorem mul2_low {m : Int} {k : Nat} {a a' R : Nat → Nat → Int} (hR : R 0 0 % m = 0) (h : ∀ i j, i + j ≤ k → a i j % m = a' i j % m) (p q : Nat) (hpq : p + q ≤ k + 1) : mul2 a R p q % m = mul2 a' R p q % m := by
  refine Ser.psum_congr _ (fun i hi => Ser.psum_congr _ (fun j hj => ?_))
  by_cases h0 : i + j ≤ k
  · exact Ser.mul_cong (h i j h0) rfl
  · obtain rfl : i = p := by omega
    obtain rfl : j = q := by omega
    rw [Nat.sub_self, Nat.sub_self, Int.mul_emod, hR, Int.mul_emod (a' i j), hR]
    simp
theorem over_fix {m : Int} {d : Nat} {t T : List (List Int)} {R : Nat → Nat → Int} (ht : Ok m d t) (hT : Ok m d T) (hR : R 0 0 % m = 0) (h : Eq m d (pc T) (pl (pc t) (mul2 (pc T) R))) : ovT m d t R d = T := by
  have key : ∀ k, k ≤ d → ∀ i j, i + j ≤ k → pc (ovT m d t R k) i j % m = pc T i j % m := by
    intro k
    induction k with
    | zero =>
      intro _ i j hij
      obtain rfl : i = 0 := by omega
      obtain rfl : j = 0 := by omega
      rw [h 0 0 (by omega)]
      have e : mul2 (pc T) R 0 0 = pc T 0 0 * R 0 0 := by unfold mul2; simp [Ser.psum]
      show pc t 0 0 % m = (pc t 0 0 + mul2 (pc T) R 0 0) % m
      rw [e, Int.add_emod, Int.mul_emod, hR]
      simp
    | succ k ih =>
      intro hk i j hij
      rw [ovT_eq t R k i j (by omega), h i j (by omega)]
      exact Ser.add_cong rfl (mul2_low hR (fun i j h => ih (by omega) i j h) i j (by omega))
  exact Ok.ext (ovT_ok ht R d) hT (fun i j hij => key d (Nat.le_refl _) i j hij)
end Pl
end Go.Proofs.Ytilfjhnkjdfcoab

/- Plain facts on standard laws: monomials, the laws of the tangent and of Euler as quotients: no program in sight. -/
namespace Go.Proofs.Ytilfjhnkjdfcoab
namespace Pl
open Ser (psum)

/-- x^a y^b -/
def mon2 (a b : Nat) : Nat → Nat → Int := fun i j => if i = a ∧ j = b then 1 else 0
theorem psum_one (g : Nat → Int) (a : Nat) : ∀ n, (∀ i, i < n → i ≠ a → g i = 0) → psum g n = if a < n then g a else 0 := by
  intro n
  induction n with
  | zero => intro _; rfl
  | succ n ih =>
    intro h
    rw [Ser.psum, ih (fun i hi => h i (by omega))]
    by_cases h1 : a < n
    · rw [if_pos h1, if_pos (by omega), h n (by omega) (by omega), Int.add_zero]
    · by_cases h2 : a = n
      · rw [if_neg h1, if_pos (by omega), h2, Int.zero_add]
      · rw [if_neg h1, if_neg (by omega), h n (by omega) (fun e => h2 e.symm), Int.add_zero]
theorem mon2_mul2 (a b : Nat) (F : Nat → Nat → Int) (p q : Nat) : mul2 (mon2 a b) F p q = if a ≤ p ∧ b ≤ q then F (p - a) (q - b) else 0 := by
  unfold mul2
  rw [psum_one _ a _ (fun i _ hi => Ser.psum_low _ _ (fun j _ => by unfold mon2; rw [if_neg (fun e => hi e.1), Int.zero_mul]))]
  by_cases h : a ≤ p
  · rw [if_pos (by omega), psum_one _ b _ (fun j _ hj => by unfold mon2; rw [if_neg (fun e => hj e.2), Int.zero_mul])]
    by_cases k : b ≤ q
    · rw [if_pos (by omega), if_pos ⟨h, k⟩]
      unfold mon2
      rw [if_pos ⟨rfl, rfl⟩, Int.one_mul]
    · rw [if_neg (by omega), if_neg (fun e => k e.2)]
  · rw [if_neg (by omega), if_neg (fun e => h e.1)]
theorem mul2_mon2 (a b : Nat) (F : Nat → Nat → Int) (p q : Nat) : mul2 F (mon2 a b) p q = if a ≤ p ∧ b ≤ q then F (p - a) (q - b) else 0 := by rw [mul2_comm, mon2_mul2]
theorem mon2_mon2 (a b c e : Nat) : mul2 (mon2 a b) (mon2 c e) = mon2 (a + c) (b + e) := by
  funext p q
  rw [mon2_mul2]
  unfold mon2
  by_cases h : p = a + c ∧ q = b + e
  · rw [if_pos (by omega), if_pos (by omega), if_pos h]
  · rw [if_neg h]
    by_cases k : a ≤ p ∧ b ≤ q
    · rw [if_pos k, if_neg (by omega)]
    · rw [if_neg k]
theorem mon2_zero : mon2 0 0 = one2 1 := rfl
theorem pw2_y : ∀ k, pw2 (mon2 0 1) k = mon2 0 k := by
  intro k
  induction k with
  | zero => rfl
  | succ k ih => show mul2 (pw2 (mon2 0 1) k) (mon2 0 1) = _; rw [ih, mon2_mon2]
theorem pw2_x : ∀ k, pw2 (mon2 1 0) k = mon2 k 0 := by
  intro k
  induction k with
  | zero => rfl
  | succ k ih => show mul2 (pw2 (mon2 1 0) k) (mon2 1 0) = _; rw [ih, mon2_mon2]
theorem pw2_congr {m : Int} {d : Nat} {F G : Nat → Nat → Int} (h : Eq m d F G) : ∀ k, Eq m d (pw2 F k) (pw2 G k) := by
  intro k
  induction k with
  | zero => exact Eq.refl _ _ _
  | succ k ih => exact mul2_congr ih h
/-- a series put upon a table: the sum of powers -/
def aft (l : Nat → Int) (F : Nat → Nat → Int) (n : Nat) : Nat → Nat → Int := fun p q => psum (fun i => l i * pw2 F i p q) n
theorem aft_congr {m : Int} {d : Nat} {l l' : Nat → Int} {F G : Nat → Nat → Int} (n : Nat) (hl : ∀ i, i < n → l i % m = l' i % m) (h : Eq m d F G) : Eq m d (aft l F n) (aft l' G n) :=
  fun p q hpq => Ser.psum_congr _ (fun i hi => Ser.mul_cong (hl i hi) (pw2_congr h i p q hpq))
theorem horq_aft {m : Int} {d : Nat} {l : List Int} (hl : l.length = d + 1) (F : Nat → Nat → Int) : Eq m d (pc (horq m d l F (d + 1))) (aft (Ser.co l) F (d + 1)) := by
  have h := horq_pw (m := m) (d := d) l F (d + 1) (by omega)
  refine h.trans (Eq.of m d (fun p q _ => ?_))
  refine Ser.psum_ext _ (fun i _ => ?_)
  rw [hl, Nat.sub_self, Nat.zero_add]
theorem aft_y (l : Nat → Int) (n p q : Nat) (h : q < n) : aft l (mon2 0 1) n p q = if p = 0 then l q else 0 := by
  unfold aft
  rw [psum_one _ q _ (fun i _ hi => by rw [pw2_y]; unfold mon2; rw [if_neg (fun e => hi e.2.symm), Int.mul_zero]), if_pos h, pw2_y]
  unfold mon2
  by_cases hp : p = 0
  · rw [if_pos ⟨hp, rfl⟩, if_pos hp, Int.mul_one]
  · rw [if_neg (fun e => hp e.1), if_neg hp, Int.mul_zero]
theorem aft_x (l : Nat → Int) (n p q : Nat) (h : p < n) : aft l (mon2 1 0) n p q = if q = 0 then l p else 0 := by
  unfold aft
  rw [psum_one _ p _ (fun i _ hi => by rw [pw2_x]; unfold mon2; rw [if_neg (fun e => hi e.1.symm), Int.mul_zero]), if_pos h, pw2_x]
  unfold mon2
  by_cases hq : q = 0
  · rw [if_pos ⟨rfl, hq⟩, if_pos hq, Int.mul_one]
  · rw [if_neg (fun e => hq e.2), if_neg hq, Int.mul_zero]

/-! the multiplicative law -/
def muF (c : Int) : Nat → Nat → Int := fun i j => if (i = 1 ∧ j = 0) ∨ (i = 0 ∧ j = 1) then 1 else if i = 1 ∧ j = 1 then c else 0
theorem mu_eq (c : Int) : pl (pl (mon2 1 0) (mon2 0 1)) (sm c (mul2 (mon2 1 0) (mon2 0 1))) = muF c := by
  funext i j
  rw [mon2_mon2]
  unfold pl sm mon2 muF
  by_cases h1 : i = 1 ∧ j = 0
  · rw [if_pos h1, if_neg (by omega), if_neg (by omega), if_pos (.inl h1)]; omega
  · by_cases h2 : i = 0 ∧ j = 1
    · rw [if_neg h1, if_pos h2, if_neg (by omega), if_pos (.inr h2)]; omega
    · rw [if_neg h1, if_neg h2, if_neg (show ¬ ((i = 1 ∧ j = 0) ∨ (i = 0 ∧ j = 1)) from fun e => e.elim h1 h2)]
      by_cases h3 : i = 1 ∧ j = 1
      · rw [if_pos (by omega), if_pos h3]; omega
      · rw [if_neg (by omega), if_neg h3]; omega
theorem mu_zero : pl (mon2 1 0) (mon2 0 1) = muF 0 := by
  rw [← mu_eq]
  funext i j
  unfold pl sm
  rw [Int.zero_mul, Int.add_zero]

/-! the law of the tangent -/
def taF (e : Int) : Nat → Nat → Int := fun i j => if i = j + 1 then e ^ j else if j = i + 1 then e ^ i else 0
theorem ta_fix (e : Int) : pl (pl (mon2 1 0) (mon2 0 1)) (mul2 (taF e) (sm e (mon2 1 1))) = taF e := by
  funext i j
  rw [mul2_sm]
  show mon2 1 0 i j + mon2 0 1 i j + e * mul2 (taF e) (mon2 1 1) i j = taF e i j
  rw [mul2_mon2]
  unfold mon2 taF
  by_cases h0 : 1 ≤ i ∧ 1 ≤ j
  · rw [if_neg (by omega), if_neg (by omega), if_pos h0]
    by_cases h1 : i = j + 1
    · rw [if_pos (by omega), if_pos h1, Int.zero_add, Int.zero_add]
      obtain ⟨j, rfl⟩ : ∃ j', j = j' + 1 := ⟨j - 1, by omega⟩
      rw [Nat.add_sub_cancel, Int.pow_succ, Int.mul_comm]
    · by_cases h2 : j = i + 1
      · rw [if_neg (by omega), if_pos (by omega), if_neg h1, if_pos h2, Int.zero_add, Int.zero_add]
        obtain ⟨i, rfl⟩ : ∃ i', i = i' + 1 := ⟨i - 1, by omega⟩
        rw [Nat.add_sub_cancel, Int.pow_succ, Int.mul_comm]
      · rw [if_neg (by omega), if_neg (by omega), if_neg h1, if_neg h2]; omega
  · rw [if_neg h0]
    by_cases h1 : i = 1 ∧ j = 0
    · rw [if_pos h1, if_neg (by omega), if_pos (by omega), h1.2, Int.pow_zero]; omega
    · by_cases h2 : i = 0 ∧ j = 1
      · rw [if_neg h1, if_pos h2, if_neg (by omega), if_pos (by omega), h2.1, Int.pow_zero]; omega
      · rw [if_neg h1, if_neg h2, if_neg (by omega), if_neg (by omega)]; omega

/-! the law of Euler -/
/-- x r(y) + y r(x) -/
def euT (r : Nat → Int) : Nat → Nat → Int := fun i j => (if i = 1 then r j else 0) + (if j = 1 then r i else 0)
/-- the sum of e^k x^2k y^2k -/
def euG (e : Int) : Nat → Nat → Int := fun i j => if i = j ∧ i % 2 = 0 then e ^ (i / 2) else 0
theorem eug_fix (e : Int) : pl (one2 1) (mul2 (euG e) (sm e (mon2 2 2))) = euG e := by
  funext i j
  rw [mul2_sm]
  show one2 1 i j + e * mul2 (euG e) (mon2 2 2) i j = euG e i j
  rw [mul2_mon2]
  unfold one2 euG
  by_cases h0 : 2 ≤ i ∧ 2 ≤ j
  · rw [if_neg (by omega), if_pos h0]
    by_cases h1 : i = j ∧ i % 2 = 0
    · rw [if_pos (by omega), if_pos h1, Int.zero_add, show i / 2 = (i - 2) / 2 + 1 by omega, Int.pow_succ, Int.mul_comm]
    · rw [if_neg (by omega), if_neg h1]; omega
  · rw [if_neg h0]
    by_cases h1 : i = 0 ∧ j = 0
    · rw [if_pos h1, if_pos (by omega), h1.1]; simp
    · rw [if_neg h1, if_neg (by omega)]; omega
theorem eu_fix (r : Nat → Int) (e : Int) : pl (euT r) (mul2 (mul2 (euT r) (euG e)) (sm e (mon2 2 2))) = mul2 (euT r) (euG e) := by
  rw [mul2_assoc]
  have h := eug_fix e
  have : mul2 (euT r) (pl (one2 1) (mul2 (euG e) (sm e (mon2 2 2)))) = mul2 (euT r) (euG e) := by rw [h]
  rw [mul2_pl, mul2_one2, one_sm] at this
  exact this
theorem eut_eq (r : Nat → Int) (d : Nat) (i j : Nat) (h : i + j ≤ d) : pl (mul2 (mon2 1 0) (aft r (mon2 0 1) (d + 1))) (mul2 (mon2 0 1) (aft r (mon2 1 0) (d + 1))) i j = euT r i j := by
  show mul2 _ _ i j + mul2 _ _ i j = _
  rw [mon2_mul2, mon2_mul2]
  unfold euT
  congr 1
  · by_cases h1 : i = 1
    · rw [if_pos (by omega), aft_y _ _ _ _ (by omega), if_pos (by omega), if_pos h1]; rfl
    · rw [if_neg h1]
      by_cases h2 : 1 ≤ i ∧ 0 ≤ j
      · rw [if_pos h2, aft_y _ _ _ _ (by omega), if_neg (by omega)]
      · rw [if_neg h2]
  · by_cases h1 : j = 1
    · rw [if_pos (by omega), aft_x _ _ _ _ (by omega), if_pos (by omega), if_pos h1]; rfl
    · rw [if_neg h1]
      by_cases h2 : 0 ≤ i ∧ 1 ≤ j
      · rw [if_pos h2, aft_x _ _ _ _ (by omega), if_neg (by omega)]
      · rw [if_neg h2]
/-- quotients by 1 + c t', where 1 - (1 + G) is taken for R -/
theorem rest_eq {m : Int} {d : Nat} (t : List (List Int)) {G : Nat → Nat → Int} (h : Eq m d (pc t) (pl (one2 1) G)) : Eq m d (pc (polT m d (pc t) [1, -1])) (sm (-1) G) := by
  have h1 := polF_tab (pc t) h [1, -1]
  rw [polF_two] at h1
  refine h1.trans (Eq.fn ?_)
  funext i j
  show -1 * (one2 1 i j + G i j) + one2 1 i j = -1 * G i j
  omega
end Pl
end Go.Proofs.Ytilfjhnkjdfcoab

/- Contract of a polynomial's value at a grid. -/
namespace Go.Proofs.Ytilfjhnkjdfcoab
open Go Go.RowKit Go.Shelf Go.WideShapes Go.ChangeShapes Go.ChangeAt

theorem OwnR.turn {w w' : World} {lo hi : Nat} {v : Value} {rows : List (List Int)} (h : OwnR w lo hi v rows) {row : Option Nat} (hg : w.grownBy w' row) (hr : ∀ r, row = some r → ∃ o : Obj, w.heap[r]? = some o ∧ o.isCells = false) : OwnR w' lo hi v rows := by
  have key : ∀ (g : Nat) (cs : Array Value) (t : TypeId) (f : Nat × Nat), w.heap[g]? = some (.cells cs t f) → row ≠ some g := by
    intro g cs t f hh e
    obtain ⟨o, ho, hc⟩ := hr g e
    rw [hh] at ho
    injection ho with ho
    subst ho
    simp [Obj.isCells] at hc
  obtain ⟨vs, h1, h2, h3, h4⟩ := h
  refine ⟨vs, ⟨h1.1, ?_⟩, h2, fun i r hr' => ?_, h4⟩
  · rcases h1.2 with hn | ⟨g, cap, cur, rfl, hg', hh, rest⟩
    · exact .inl hn
    · exact .inr ⟨g, cap, cur, rfl, hg', (hg.block g (Array.getElem?_eq_some_iff.1 hh).1 (fun e => key g _ _ _ hh e.symm)).trans hh, rest⟩
  · obtain ⟨u, a, b, c⟩ := h3 i r hr'
    refine ⟨u, a, b.other hg ?_, c⟩
    unfold OwnI at b
    rcases b.2 with ⟨rfl, _⟩ | ⟨g, cap, cur, rfl, _, hh, _⟩
    · exact .inl rfl
    · exact .inr (fun e => key g _ _ _ hh e.symm)
theorem VarC.turn {t : TypeId} {w w' : World} {g : Nat} {cs : Array Value} (h : VarC t w g cs) {row : Option Nat} (hg : w.grownBy w' row) (hr : ∀ r, row = some r → ∃ o : Obj, w.heap[r]? = some o ∧ o.isCells = false) : VarC t w' g cs :=
  h.other hg (fun e => by
    obtain ⟨o, ho, hc⟩ := hr g e
    unfold VarC at h
    rw [h] at ho
    injection ho with ho
    subst ho
    simp [Obj.isCells] at hc)
theorem keeps_below {W W' : World} (h : Below W.heap.size W W') : KeepsOthers W W' := ⟨h.size, fun k _ hk _ => (h.block k (Array.getElem?_eq_some_iff.1 hk).1).trans hk⟩
/-- what holds between two rounds -/
def polI (W : World) (G Bs : Nat) (m : Int) (d : Nat) (F : Nat → Nat → Int) (B : Option Addr) (n cb : Nat) (pre : List BI) (X : World) : Prop :=
  (∃ A1 c1 lo hi, VarC 66 X G #[.int .i64 m, .int .i64 d, .slice A1 (d + 1) c1] ∧ OwnR X lo hi (.slice A1 (d + 1) c1) (Pl.polT m d F (vals pre)) ∧ (hi ≤ G ∨ Bs < lo) ∧ W.heap.size ≤ lo ∧ hi ≤ X.heap.size) ∧
    X.cell? ⟨Bs, 0, none⟩ = some (.slice B n cb) ∧ Below W.heap.size W X ∧ Bs < X.heap.size
theorem polI_own (W : World) (G Bs : Nat) (m : Int) (d : Nat) (F : Nat → Nat → Int) (B : Option Addr) (n cb k : Nat) (hk : W.heap.size ≤ k) : OwnFrom k (polI W G Bs m d F B n cb) := by
  intro s X X' row h hg hr
  have hr' : ∀ r, row = some r → ∃ o : Obj, X.heap[r]? = some o ∧ o.isCells = false := fun r e => (hr r e).2
  obtain ⟨⟨A1, c1, lo, hi, v, o, a1, a2, a3⟩, hc, hb, hs⟩ := h
  exact ⟨⟨A1, c1, lo, hi, v.turn hg hr', o.turn hg hr', a1, a2, Nat.le_trans a3 hg.size⟩, cell_kept hc hg hr', hb.grown hg hb.size (fun r e => Nat.le_trans hk (hr r e).1), Nat.lt_of_lt_of_le hs hg.size⟩
theorem polT_nil (m : Int) (d : Nat) (t : List (List Int)) : (Pl.tab m d fun i j => Pl.pc t i j * 0) = Pl.polT m d (Pl.pc t) [] := Pl.tab_congr (Pl.Eq.of m d (fun _ _ _ => Int.mul_zero _))
set_option maxHeartbeats 4000000 in
set_option maxRecDepth 100000 in
theorem polynomial_any (m : Int) (d : Nat) (A : Option Addr) (c : Nat) (t : List (List Int)) (B : Option Addr) (cb : Nat) (cs : List Int) (w : World) (hs : Pl.Ok m d t) (hr : RP w A t) (hrb : RI w B cs) (hz : cs.length ≤ 1000000) (hbd : ∀ i, -100000000 ≤ Ser.co cs i ∧ Ser.co cs i ≤ 100000000) :
    Calls Try.prog 74 #[.agg #[.int .i64 m, .int .i64 d, .slice A t.length c], .slice B cs.length cb] w fun e w' => ∃ v, e = .returned (.agg #[.int .i64 m, .int .i64 d, v]) ∧ OwnR w' w.heap.size w'.heap.size v (Pl.polT m d (Pl.pc t) cs) ∧ Below w.heap.size w w' := by
  obtain ⟨W, hW, b1, v3, hwb⟩ := gpro1 w m d A t.length c
  have HWS : Hid (W.heap.size = w.heap.size + 1 + 1) := Lib.hid (by rw [← hW]; simp)
  have m1 := hs.m1
  have m2 := hs.m2
  have hd1 := hs.d1
  have hd2 := hs.d2
  have HS := Lib.hid hs
  have HR := Lib.hid (hr.below hwb)
  have HSC := Lib.hid (fun W0 (h0 : Below W.heap.size W W0) => gscaled_any m d A c t 0 W0 hs ((hr.below hwb).below h0) (by omega) (by omega))
  rw [polT_nil] at HSC
  have HT := Lib.hid (fun (zs : List Int) (A1 : Option Addr) (c1 : Nat) (W0 : World) (h : RP W0 A1 (Pl.polT m d (Pl.pc t) zs)) (h' : RP W0 A t) => by
    have := gtimes_any m d A1 c1 (Pl.polT m d (Pl.pc t) zs) A c t W0 (Pl.polT_ok m1 m2 hd1 hd2 _ zs) hs h h'
    rw [Pl.polT_length] at this
    exact this)
  have HB := Lib.hid hwb
  have HW := Lib.hid hW
  have V3 := Lib.hid v3
  have B1 := Lib.hid b1
  have HRB := Lib.hid hrb
  obtain ⟨L, hL⟩ : ∃ L, t.length = L := ⟨_, rfl⟩
  obtain ⟨n, hn⟩ : ∃ n, cs.length = n := ⟨_, rfl⟩
  obtain ⟨T0, hT0⟩ : ∃ T0, Pl.polT m d (Pl.pc t) [] = T0 := ⟨_, rfl⟩
  have hT0l : T0.length = d + 1 := by rw [← hT0, Pl.polT_length]
  rw [hT0] at HSC
  rw [hL] at HW HT HSC B1 ⊢
  have HT0 := Lib.hid hT0
  have HN := Lib.hid hn
  rw [hn]
  clear hwb hW hr hs hrb hL hT0 v3 b1 hn
  refine (callsIn_wide (n := 3)).1 (callsIn_of_wp_marks Try.func74 rfl trivial (wpIn_wide.2 ?_) rfl)
  simp only [Try.ntmps74, List.size_toArray, List.length_cons, List.length_nil, Nat.reduceAdd, Nat.reduceSub, Array.replicate_succ, Array.replicate_zero, List.push_toArray, List.append_toArray, List.nil_append, List.cons_append]
  obtain ⟨q0, q1, q2, q3⟩ := B1.out
  go_wp2_with fail
  rw [HW.out]
  refine (HSC.out _ (Below.refl _ _)).mono ?_
  rintro e w1 ⟨v, rfl, ho1, hb1⟩
  obtain ⟨A1, c1, rfl, -⟩ := ho1.len
  rw [hT0l] at ho1 ⊢
  obtain ⟨q0, q1, q2, q3⟩ := B1.out.keep hb1
  go_wp2_with (go_at_call 114; refine (back_any _ _ _ _).mono ?_; rintro e w' ⟨rfl, rfl⟩)
  obtain ⟨w2, hw2⟩ : ∃ w2, w1.alloc (.cells #[.int .i64 m, .int .i64 d, .slice A1 (d + 1) c1] 66) = w2 := ⟨_, rfl⟩
  obtain ⟨w3, hw3⟩ : ∃ w3, w2.alloc (.cells #[.slice B n cb] 22) = w3 := ⟨_, rfl⟩
  have s2 : w2.heap.size = w1.heap.size + 1 := by rw [← hw2]; simp
  have s3 : w3.heap.size = w1.heap.size + 1 + 1 := by rw [← hw3]; simp [s2]
  have hWw1 := hb1.size
  have hb3 : Below W.heap.size W w3 := by rw [← hw3, ← hw2]; exact below_alloc _ (below_alloc _ hb1)
  have hv2 : VarC 66 w3 w1.heap.size #[.int .i64 m, .int .i64 d, .slice A1 (d + 1) c1] := by rw [← hw3, ← hw2]; exact (VarC.new _ _ _).keep (below_one _ _)
  have ho3 : OwnR w3 W.heap.size w1.heap.size (.slice A1 (d + 1) c1) T0 := by
    rw [← hw3]
    exact (ho1.keep (by rw [← hw2]; exact below_one _ _)).keep ((below_one w2 _).mono (by omega))
  have hc3 : w3.cell? ⟨w1.heap.size + 1, 0, none⟩ = some (.slice B n cb) := by
    rw [← hw3, ← s2]
    have := VarC.new 22 w2 #[.slice B n cb]
    exact this.cell 0 _ rfl
  have hI0 : polI W w1.heap.size (w1.heap.size + 1) m d (Pl.pc t) B n cb [] w3 := ⟨⟨A1, c1, _, _, hv2, by rw [show Pl.polT m d (Pl.pc t) (vals []) = T0 from HT0.out]; exact ho3, .inl (Nat.le_refl _), Nat.le_refl _, by omega⟩, hc3, hb3, by omega⟩
  have hseq : SeqStopsK Fence.wide 2 Try.prog 138 #[.pointer (some ⟨w1.heap.size + 1, 0, none⟩)] (fun x : BI => #[Value.int .i64 (x.1.1 : Int), .int .i64 x.1.2]) (bkK W.heap.size (w1.heap.size + 1)) (fun ys => ys = revs cs hbd n) (fun _ => True) n w3 := by
    have hcn := HN.out
    subst hcn
    have hWs := HWS.out
    refine back_stops 2 (w1.heap.size + 1) W.heap.size B cb cs hz hbd w3 (by omega) hb3.size hc3 (fun hne => ?_)
    obtain ⟨b, off, e, hlt, hc⟩ := HRB.out hne
    exact ⟨b, off, e, by omega, fun k hk => ((HB.out.trans (hb3.mono HB.out.size)).cell (p := ⟨b, off + k, none⟩) hlt).trans (hc k hk)⟩
  have HI0 := Lib.hid hI0
  have HSEQ := Lib.hid hseq
  have HB3 := Lib.hid hb3
  clear hI0 hseq hb3 hv2 ho3 ho1 hc3 hb1 q0 q1 q2 q3
  rw [hw2, hw3]
  refine wpIn_wide.1 (wpIn_rangeFunc_ownF (n := 3) rfl (by omega) (gf := 138) (lb := #[.pointer (some ⟨w1.heap.size + 1, 0, none⟩)]) rfl trivial (enters_of Try.func138 (by kernel_rfl) rfl) HSEQ.out bkK_t (bkK_b HB3.out.size (by omega)) (Below.refl _ _) (fun _ => rfl)
    (polI W w1.heap.size (w1.heap.size + 1) m d (Pl.pc t) B n cb) (fun _ _ _ => False) (polI_own _ _ _ _ _ _ _ _ _ _ HB3.out.size) (fun _ _ _ _ _ h _ _ => h.elim) HI0.out
    (fun x => { tmps := #[.agg #[.int .i64 m, .int .i64 d, .slice A L c], .slice B n cb, .pointer (some ⟨w.heap.size, 0, none⟩), undef, .pointer (some ⟨w.heap.size + 1, 0, none⟩), .pointer (some ⟨w1.heap.size, 0, none⟩), undef, .int .i64 x.1.2, .agg #[.int .i64 m, .int .i64 d, .slice A L c], .agg #[.int .i64 m, .int .i64 d, .slice A1 (d + 1) c1], .slice B n cb, .func (.func 138) #[] #[.pointer (some ⟨w1.heap.size + 1, 0, none⟩)], .int .i64 (x.1.1 : Int), .int .i64 x.1.2, undef, undef, undef, undef, undef, undef, undef, undef, undef, undef, undef, undef, undef, undef, undef, undef, undef, undef, undef, undef, undef], defers := [] }) ?assign ?body ?done ?stop)
  case assign =>
    intro l x X K hK
    refine region_round _ (noDefer_of (by kernel_rfl)) (fun ⟨_, _, h⟩ => h) ?_
    go_wp2
    exact hK
  case stop =>
    intro D c' pre X _ _ h _
    exact h.elim
  case body =>
    rintro l pre x X ⟨⟨A2, c2, lo, hi, v, o, g1, g2, g3⟩, hcB, hbX, hBs⟩ hlt
    have HT2 := Lib.hid (HT.out (vals pre) A2 c2 X o.rp (HR.out.below hbX))
    have hst := Pl.polT_step (m := m) (d := d) (Pl.pc t) x.1.2 (vals pre)
    rw [← vals_snoc] at hst
    obtain ⟨hx1, hx2⟩ := x.2
    obtain ⟨Z, hZ⟩ : ∃ Z, x.1.2 = Z := ⟨_, rfl⟩
    obtain ⟨Y, hY⟩ : ∃ Y : Nat, x.1.1 = Y := ⟨_, rfl⟩
    rw [hZ] at hst hx1 hx2 ⊢
    rw [hY]
    obtain ⟨Fm, hFm⟩ : ∃ F, Pl.mul2 (Pl.pc (Pl.polT m d (Pl.pc t) (vals pre))) (Pl.pc t) = F := ⟨_, rfl⟩
    rw [hFm] at HT2 hst
    have HST := Lib.hid hst
    have HVX := Lib.hid v
    have HBX := Lib.hid hbX
    obtain ⟨z3, z4, z5, -⟩ := v.tells3
    obtain ⟨y1, y2, y3, y4⟩ := B1.out.keep hbX
    clear hst hFm v o hbX hZ hY
    refine wpIn_block (wpIn_seq ?_)
    refine region_round _ (noDefer_of (by kernel_rfl)) (fun ⟨_, _, h⟩ => h) ?_
    go_wp2_with fail
    refine HT2.out.mono ?_
    rintro e w4 ⟨v4, rfl, ho4, hb4⟩
    obtain ⟨g, cv, rfl⟩ := ho4.openv (by rw [Pl.tab_length]; omega)
    rw [Pl.tab_length] at ho4 ⊢
    have hk := HVX.out.keep hb4
    obtain ⟨q0, q1, q2, q3, q4, q5⟩ := hk.tells3
    have hGX : w1.heap.size < X.heap.size := by omega
    obtain ⟨X9, hX9⟩ : ∃ X9, set3 w4 w1.heap.size (.int .i64 m) (.int .i64 d) (.slice (some ⟨g, 0, none⟩) (d + 1) cv) = X9 := ⟨_, rfl⟩
    obtain ⟨f0, f1, f2, ox, bx⟩ := fin_grid (w := W) hk ho4 (.inl hGX) hWw1 (Nat.le_refl _) (below_step HBX.out hb4) (.int .i64 m) (.int .i64 d) (.slice (some ⟨g, 0, none⟩) (d + 1) cv)
    have vx := hk.set3 (.int .i64 m) (.int .i64 d) (.slice (some ⟨g, 0, none⟩) (d + 1) cv)
    have kx : KeepsOthers X X9 := by rw [← hX9]; exact (keeps_below hb4).trans (((KeepsOthers.setCell _ _ _).trans (KeepsOthers.setCell _ _ _)).trans (KeepsOthers.setCell _ _ _))
    rw [hX9] at f0 f1 f2 ox bx vx
    have hcx : X9.cell? ⟨w1.heap.size + 1, 0, none⟩ = some (.slice B n cb) := by
      rw [← hX9]
      have h1 := (hb4.cell (p := ⟨w1.heap.size + 1, 0, none⟩) hBs).trans hcB
      exact (World.cell?_of_block ((grown_set3 w4 w1.heap.size (.int .i64 m) (.int .i64 d) (.slice (some ⟨g, 0, none⟩) (d + 1) cv)).block (w1.heap.size + 1) (Nat.lt_of_lt_of_le hBs hb4.size) (fun e => by injection e with e; omega))).trans h1
    obtain ⟨b4, c4, h1, h2, h3, h4, hcel⟩ := ox.numB 0 0 (d + 1) (by rw [Pl.tab_length]; omega) (by rw [Pl.tab_row m d _ 0 (by omega), Ser.cut_length]; omega) (by omega)
    obtain ⟨k4, k5, k6, k7⟩ := hcel X9.drew (below_drew0 X9)
    obtain ⟨Y0, hY0⟩ : ∃ Y, Pl.pc (Pl.tab m d Fm) 0 0 = Y := ⟨_, rfl⟩
    have hyb := (HS.out.tab Fm).pc 0 0
    have hst := HST.out
    rw [hY0] at hst hyb k5
    have h8 := k7 ((Y0 + Z) % m)
    rw [hst] at h8
    have h9 := h8.more (show X9.heap.size ≤ (X9.drew.setCell ⟨b4, 0, none⟩ (.int .i64 ((Y0 + Z) % m))).heap.size by show X9.heap.size ≤ (X9.heap.modify _ _).size; simp)
    have ne2 : b4 ≠ w1.heap.size := by omega
    have ne3 : b4 ≠ w1.heap.size + 1 := by omega
    have hWX : W.heap.size ≤ X.heap.size := HBX.out.size
    have V9 := vx.drew.far b4 0 (.int .i64 ((Y0 + Z) % m)) ne2
    have B9 := bx.drew.setCell (p := ⟨b4, 0, none⟩) (show W.heap.size ≤ b4 by omega) (.int .i64 ((Y0 + Z) % m))
    have K9 := (kx.trans (KeepsOthers.drew X9)).trans (KeepsOthers.setCell X9.drew ⟨b4, 0, none⟩ (.int .i64 ((Y0 + Z) % m)))
    have C9 : (X9.drew.setCell ⟨b4, 0, none⟩ (.int .i64 ((Y0 + Z) % m))).cell? ⟨w1.heap.size + 1, 0, none⟩ = some (.slice B n cb) :=
      (World.cell?_of_block (w := X9.drew) (Below.heap_setCell X9.drew ⟨b4, 0, none⟩ _ (w1.heap.size + 1) (fun e => ne3 e.symm))).trans hcx
    have S9 : (X9.drew.setCell ⟨b4, 0, none⟩ (.int .i64 ((Y0 + Z) % m))).heap.size = X9.heap.size := by show (X9.heap.modify _ _).size = _; simp
    have hXX9 : X.heap.size ≤ X9.heap.size := kx.size
    have HF : Hid (KeepsOthers X (X9.drew.setCell ⟨b4, 0, none⟩ (.int .i64 ((Y0 + Z) % m))) ∧ bkK W.heap.size (w1.heap.size + 1) X (X9.drew.setCell ⟨b4, 0, none⟩ (.int .i64 ((Y0 + Z) % m))) ∧ polI W w1.heap.size (w1.heap.size + 1) m d (Pl.pc t) B n cb (pre ++ [x]) (X9.drew.setCell ⟨b4, 0, none⟩ (.int .i64 ((Y0 + Z) % m)))) := Lib.hid
      ⟨K9, ⟨((((hb4.mono hWX)).trans (by rw [← hX9]; exact below_set3 (Below.refl _ _) hWw1 _ _ _)).drew).setCell (p := ⟨b4, 0, none⟩) (show W.heap.size ≤ b4 by omega) _, C9.trans hcB.symm⟩,
        ⟨_, _, X.heap.size, _, V9, h9, .inr (by omega), hWX, Nat.le_refl _⟩, C9, B9, by rw [S9]; omega⟩
    obtain ⟨x5, x6, x7, x8⟩ := B1.out.keep bx
    have p1 : -1000000000000 ≤ Y0 + Z := by omega
    have p2 : Y0 + Z ≤ 1000000000000 := by omega
    have p3 : IntKind.i64.wrap (Y0 + Z) = Y0 + Z := by rw [IntKind.wrap_i64]; omega
    have p4 : (0 : Int) < (d : Int) + 1 := by omega
    have hm1 : 1 ≤ m := by omega
    unfold set3 at hX9
    have HX := Lib.hid hX9
    clear hX9 hcel k7 h8 h9 hst hyb hY0 V9 B9 K9 C9 S9 kx hcx ne2 ne3 h1 h2 h3 h4 ox bx vx hk ho4 hb4 hcB
    go_wp2_with fail
    rw [HX.out]
    clear HX q0 q1 q2 q3 q4 q5
    refine region_still_tail_round 17 (noDefer_of (by kernel_rfl)) (fun ⟨_, _, h⟩ => h) (by kernel_rfl) (by kernel_rfl) ?_
    simp only [List.take_succ_cons, List.take_zero, List.drop_succ_cons, List.drop_zero]
    repeat still_step
    still_call ((remainder_any m (Y0 + Z) _ hm1 m2 p1 p2).mono (fun e w' h => ⟨h.1, h.2.symm⟩))
    repeat still_step
    try refine wpStill_nil ?_
    go_wp2
    exact HF.out
  case done =>
    rintro D ys X hD rfl ⟨⟨A2, c2, lo, hi, v, o, g1, g2, g3⟩, hcB, hbX, hBs⟩ hK
    have hcn := HN.out
    subst hcn
    rw [vals_revs] at o
    have hv3 := V3.out.keep hbX
    have hDX : D < X.heap.size := (Array.getElem?_eq_some_iff.1 hK).1
    have hWs := HWS.out
    have hg : w.heap.size + 1 < lo ∨ hi ≤ w.heap.size + 1 := .inl (by omega)
    have hgD : w.heap.size + 1 ≠ D := by omega
    obtain ⟨z3, z4, z5, -⟩ := v.tells3
    obtain ⟨q0, q1, q2, q3, q4, q5⟩ := hv3.tells3
    obtain ⟨X9, hX9⟩ : ∃ X9, set3 X (w.heap.size + 1) (.int .i64 m) (.int .i64 d) (.slice A2 (d + 1) c2) = X9 := ⟨_, rfl⟩
    obtain ⟨f0, f1, f2, ox, bx⟩ := fin_grid (w := w) hv3 o hg (by omega) g3 (below_step HB.out hbX) (.int .i64 m) (.int .i64 d) (.slice A2 (d + 1) c2)
    have hK9 : (set3 X (w.heap.size + 1) (.int .i64 m) (.int .i64 d) (.slice A2 (d + 1) c2)).heap[D]? = some (.deferred (some [])) :=
      ((grown_set3 X (w.heap.size + 1) (.int .i64 m) (.int .i64 d) (.slice A2 (d + 1) c2)).block D hDX (fun e => by injection e with e; omega)).trans hK
    rw [hX9] at f0 f1 f2 ox bx hK9
    have hgr := grownBy_putObj' X9 D (.deferred none)
    have hrw : ∀ r, some D = some r → ∃ o : Obj, X9.heap[r]? = some o ∧ o.isCells = false := fun r e => by cases e; exact ⟨_, hK9, rfl⟩
    have F0 := cell_kept f0 hgr hrw
    have F1 := cell_kept f1 hgr hrw
    have F2 := cell_kept f2 hgr hrw
    have OX := Lib.hid (((ox.turn hgr hrw).low (show w.heap.size ≤ lo by omega)).more hgr.size)
    have BX := Lib.hid (bx.grown hgr bx.size (fun r e => by cases e; omega))
    unfold set3 at hX9
    have HX := Lib.hid hX9
    clear hX9 ox bx f0 f1 f2 hv3 v o hcB hbX hWs HT HSC HSEQ HI0 hgr hrw
    go_wp2_with fail
    rw [HX.out]
    refine ⟨by simp, .inl ⟨_, _, rfl, run_takeDeferred hK9, ?_⟩⟩
    exact ⟨.agg #[.int .i64 m, .int .i64 d, .slice A2 (d + 1) c2], by simp [results, Try.results74, go_sem, F0, F1, F2], _, rfl, OX.out, BX.out⟩
end Go.Proofs.Ytilfjhnkjdfcoab

/- Contract of the quotient of grids. -/
namespace Go.Proofs.Ytilfjhnkjdfcoab
open Go.RowKit Go.WideShapes Go.ChangeShapes Go.ChangeAt

/-- a list of numbers that has just been built -/
theorem ri_lit (W : World) (l : List Int) (T : TypeId) : RI (W.alloc (.cells (l.map (Value.int .i64)).toArray T)) (some ⟨W.heap.size, 0, none⟩) l := by
  intro _
  refine ⟨W.heap.size, 0, rfl, by simp, fun k hk => ?_⟩
  have h : (W.alloc (.cells (l.map (Value.int .i64)).toArray T)).heap[W.heap.size]? = some (.cells (l.map (Value.int .i64)).toArray T (0, 0)) := heap_alloc_new W _
  rw [Nat.zero_add]
  simp only [World.cell?, h]
  simp [hk]
theorem ri_two (W : World) (a b : Int) (T : TypeId) : RI (W.alloc (.cells #[.int .i64 a, .int .i64 b] T)) (some ⟨W.heap.size, 0, none⟩) [a, b] := ri_lit W [a, b] T
theorem ri_three (W : World) (a b c : Int) (T : TypeId) : RI (W.alloc (.cells #[.int .i64 a, .int .i64 b, .int .i64 c] T)) (some ⟨W.heap.size, 0, none⟩) [a, b, c] := ri_lit W [a, b, c] T
theorem ri_four (W : World) (a b c e : Int) (T : TypeId) : RI (W.alloc (.cells #[.int .i64 a, .int .i64 b, .int .i64 c, .int .i64 e] T)) (some ⟨W.heap.size, 0, none⟩) [a, b, c, e] := ri_lit W [a, b, c, e] T
theorem bd_two {a b : Int} (ha : -100000000 ≤ a ∧ a ≤ 100000000) (hb : -100000000 ≤ b ∧ b ≤ 100000000) : ∀ i, -100000000 ≤ Ser.co [a, b] i ∧ Ser.co [a, b] i ≤ 100000000
  | 0 => ha
  | 1 => hb
  | i + 2 => by simp [Ser.co]
theorem bd_three {a b c : Int} (ha : -100000000 ≤ a ∧ a ≤ 100000000) (hb : -100000000 ≤ b ∧ b ≤ 100000000) (hc : -100000000 ≤ c ∧ c ≤ 100000000) : ∀ i, -100000000 ≤ Ser.co [a, b, c] i ∧ Ser.co [a, b, c] i ≤ 100000000
  | 0 => ha
  | 1 => hb
  | 2 => hc
  | i + 3 => by simp [Ser.co]
theorem bd_four {a b c e : Int} (ha : -100000000 ≤ a ∧ a ≤ 100000000) (hb : -100000000 ≤ b ∧ b ≤ 100000000) (hc : -100000000 ≤ c ∧ c ≤ 100000000) (he : -100000000 ≤ e ∧ e ≤ 100000000) : ∀ i, -100000000 ≤ Ser.co [a, b, c, e] i ∧ Ser.co [a, b, c, e] i ≤ 100000000
  | 0 => ha
  | 1 => hb
  | 2 => hc
  | 3 => he
  | i + 4 => by simp [Ser.co]
/-- what all but the last operation keep: three grids' variables -/
def ovS (m : Int) (d : Nat) (g1 g2 g3 : Nat) (s1 s2 s3 : Value) (w : World) : Prop :=
  (w.cell? ⟨g1, 0, none⟩ = some (.int .i64 m) ∧ w.cell? ⟨g1, 1, none⟩ = some (.int .i64 d) ∧ w.cell? ⟨g1, 2, none⟩ = some s1) ∧
  (w.cell? ⟨g2, 0, none⟩ = some (.int .i64 m) ∧ w.cell? ⟨g2, 1, none⟩ = some (.int .i64 d) ∧ w.cell? ⟨g2, 2, none⟩ = some s2) ∧
  (w.cell? ⟨g3, 0, none⟩ = some (.int .i64 m) ∧ w.cell? ⟨g3, 1, none⟩ = some (.int .i64 d) ∧ w.cell? ⟨g3, 2, none⟩ = some s3)
set_option maxHeartbeats 16000000 in
set_option maxRecDepth 100000 in
theorem over_any (m : Int) (d : Nat) (A : Option Addr) (c : Nat) (t : List (List Int)) (A' : Option Addr) (c' : Nat) (t' : List (List Int)) (w : World) (hs : Pl.Ok m d t) (hs' : Pl.Ok m d t') (hr : RP w A t) (hr' : RP w A' t') :
    Calls Try.prog 75 #[.agg #[.int .i64 m, .int .i64 d, .slice A t.length c], .agg #[.int .i64 m, .int .i64 d, .slice A' t'.length c']] w fun e w' => ∃ v, e = .returned (.agg #[.int .i64 m, .int .i64 d, v]) ∧ OwnR w' w.heap.size w'.heap.size v (Pl.ovT m d t (Pl.pc (Pl.polT m d (Pl.pc t') [1, -1])) d) ∧ Below w.heap.size w w' := by
  obtain ⟨W, hW, b1, b2, v3, hwb⟩ := gpro2 w m d A t.length c m d A' t'.length c'
  have m1 := hs.m1
  have m2 := hs.m2
  have hd1 := hs.d1
  have hd2 := hs.d2
  have B1 := Lib.hid b1
  have B2 := Lib.hid b2
  have V3 := Lib.hid v3
  have HB := Lib.hid hwb
  have HW := Lib.hid hW
  have HWS : w.heap.size + 1 + 1 < W.heap.size := v3.lt
  have HR1 := Lib.hid (hr.below hwb)
  have hWs : W.heap.size = w.heap.size + 1 + 1 + 1 := by rw [← hW]; simp
  have hrl : RI (W.alloc (.cells #[.int .i64 1, .int .i64 (-1)] 2)) (some ⟨w.heap.size + 1 + 1 + 1, 0, none⟩) [1, -1] := by rw [← hWs]; exact ri_two W 1 (-1) _
  have hpo := polynomial_any m d A' c' t' (some ⟨w.heap.size + 1 + 1 + 1, 0, none⟩) 2 [1, -1] (W.alloc (.cells #[.int .i64 1, .int .i64 (-1)] 2)) hs' ((hr'.below hwb).below (below_one _ _)) hrl (by simp) (bd_two (by omega) (by omega))
  obtain ⟨TR, hTR⟩ : ∃ TR, Pl.polT m d (Pl.pc t') [1, -1] = TR := ⟨_, rfl⟩
  have hRok : Pl.Ok m d TR := by rw [← hTR]; exact Pl.polT_ok m1 m2 hd1 hd2 _ _
  have hTRl : TR.length = d + 1 := hRok.len
  rw [hTR] at hpo ⊢
  have HPO := Lib.hid hpo
  have HT := Lib.hid (fun (k : Nat) (A1 : Option Addr) (c1 : Nat) (A2 : Option Addr) (c2 : Nat) (W0 : World) (h : RP W0 A1 (Pl.ovT m d t (Pl.pc TR) k)) (h' : RP W0 A2 TR) => by
    have := gtimes_any m d A1 c1 (Pl.ovT m d t (Pl.pc TR) k) A2 c2 TR W0 (Pl.ovT_ok hs _ k) hRok h h'
    rw [(Pl.ovT_ok hs (Pl.pc TR) k).len, hTRl] at this
    exact this)
  have HP := Lib.hid (fun (k : Nat) (A1 : Option Addr) (c1 : Nat) (W0 : World) (h0 : RP W0 A t) (h : RP W0 A1 (Pl.tab m d (Pl.mul2 (Pl.pc (Pl.ovT m d t (Pl.pc TR) k)) (Pl.pc TR)))) => by
    have := gplus_any m d A c t A1 c1 (Pl.tab m d (Pl.mul2 (Pl.pc (Pl.ovT m d t (Pl.pc TR) k)) (Pl.pc TR))) W0 hs (hs.tab _) h0 h
    rw [hs.len, Pl.tab_length] at this
    exact this)
  have hnx : ∀ k, (Pl.tab m d fun i j => Pl.pc t i j + Pl.pc (Pl.tab m d (Pl.mul2 (Pl.pc (Pl.ovT m d t (Pl.pc TR) k)) (Pl.pc TR))) i j) = Pl.ovT m d t (Pl.pc TR) (k + 1) := fun k => rfl
  have HNX := Lib.hid hnx
  have HOV := Lib.hid (show ∀ k, Pl.Ok m d (Pl.ovT m d t (Pl.pc TR) k) from fun k => Pl.ovT_ok hs _ k)
  have HQ0 := Lib.hid (show Pl.ovT m d t (Pl.pc TR) 0 = t from rfl)
  obtain ⟨Q, hQ⟩ : ∃ Q, Pl.ovT m d t (Pl.pc TR) = Q := ⟨_, rfl⟩
  rw [hQ] at HT HP HNX HOV HQ0
  have hQd : Pl.ovT m d t (Pl.pc TR) d = Q d := by rw [hQ]
  rw [hQd]
  have hlt := hs.len
  obtain ⟨L', hL'⟩ : ∃ L, t'.length = L := ⟨_, rfl⟩
  rw [hlt] at B1 HW ⊢
  rw [hL'] at B2 HW HPO ⊢
  clear b1 b2 v3 hwb hW hr hr' hs hs' hpo hTR hRok hnx hQ hQd hlt hL' hrl hWs
  obtain ⟨y1, y2, y3, y4⟩ := B2.out
  go_enter Try.func75, Try.ntmps75
  go_wp2_with fail
  rw [HW.out]
  refine HPO.out.mono ?_
  rintro e w1 ⟨v, rfl, ho1, hb1⟩
  obtain ⟨AR, cR, rfl, -⟩ := ho1.len
  rw [hTRl] at ho1 ⊢
  have hb1 : Below W.heap.size W w1 := below_step (below_one W (.cells #[.int .i64 1, .int .i64 (-1)] 2)) hb1
  obtain ⟨w2, hw2⟩ : ∃ w2, w1.alloc (.cells #[.int .i64 m, .int .i64 d, .slice AR (d + 1) cR] 66) = w2 := ⟨_, rfl⟩
  obtain ⟨w3, hw3⟩ : ∃ w3, w2.alloc (.cells #[.int .i64 m, .int .i64 d, .slice A (d + 1) c] 66) = w3 := ⟨_, rfl⟩
  have hb2 : Below W.heap.size W w2 := by rw [← hw2]; exact below_alloc _ hb1
  obtain ⟨x1, x2, x3, x4⟩ := B1.out.keep hb2
  rw [← hw2] at x1 x2 x3
  have hb3 : Below W.heap.size W w3 := by rw [← hw3]; exact below_alloc _ hb2
  obtain ⟨u1, u2, u3, u4⟩ := B1.out.keep hb3
  rw [← hw3, ← hw2] at u1 u2 u3
  have s2 : w2.heap.size = w1.heap.size + 1 := by rw [← hw2]; simp
  have hWw1 := hb1.size
  have hvR : VarC 66 w3 w1.heap.size #[.int .i64 m, .int .i64 d, .slice AR (d + 1) cR] := by rw [← hw3, ← hw2]; exact (VarC.new _ _ _).keep (below_one _ _)
  have hvQ : VarC 66 w3 w2.heap.size #[.int .i64 m, .int .i64 d, .slice A (d + 1) c] := by rw [← hw3]; exact VarC.new _ _ _
  have hoR : RP w1 AR TR := ho1.rp
  have hbR : Below w1.heap.size w1 w3 := by rw [← hw3, ← hw2]; exact below_alloc _ (below_one _ _)
  have HBR := Lib.hid hbR
  have HVR := Lib.hid hvR
  have HVQ := Lib.hid hvQ
  have HOR := Lib.hid hoR
  have HB3 := Lib.hid hb3
  have HX := Lib.hid hw3
  have HX2 := Lib.hid hw2
  have hwd : w.heap.size < W.heap.size := by omega
  obtain ⟨GR, hGR⟩ : ∃ G, w1.heap.size = G := ⟨_, rfl⟩
  rw [hGR] at HVR s2
  rw [s2] at HVQ
  have s3 : W.heap.size ≤ GR := by omega
  have s4 : w2.heap.size = GR + 1 := by omega
  clear hvR hvQ hoR hbR hb3 hb2 hb1 ho1 hw2 hw3
  go_wp2_with fail
  rw [HX2.out, HX.out]
  clear x1 x2 x3 x4 y1 y2 y3 y4 u1 u2 u3 u4 HX HX2
  go_loopw [14] (fun q wr => ∃ (k : Nat) (A2 : Option Addr) (c2 : Nat), k ≤ d ∧ q = .int .i64 k ∧ VarC 66 wr GR #[.int .i64 m, .int .i64 d, .slice AR (d + 1) cR] ∧ VarC 66 wr (GR + 1) #[.int .i64 m, .int .i64 d, .slice A2 (d + 1) c2] ∧ RP wr A2 (Q k) ∧ Below w1.heap.size w1 wr ∧ (1 ≤ k → ∃ lo, OwnR wr lo wr.heap.size (.slice A2 (d + 1) c2) (Q k) ∧ GR + 1 < lo) ∧ Below W.heap.size W wr) (fun q _ => d - (intOf q).toNat)
  case atStart => exact ⟨0, A, c, Nat.zero_le _, rfl, HVR.out, HVQ.out, by rw [HQ0.out]; exact HR1.out.below HB3.out, HBR.out, fun h => absurd h (by omega), HB3.out⟩
  case round =>
    clear HVR HVQ HBR HB3 HPO HQ0
    obtain ⟨k, A2, c2, hk, rfl, v1, v2, r2, r1, hown, hbel⟩ := hrel
    have HV1 := Lib.hid v1
    have HV2 := Lib.hid v2
    have HR2 := Lib.hid r2
    have HRR := Lib.hid r1
    have HBE := Lib.hid hbel
    have HOW := Lib.hid hown
    clear v1 v2 r2 r1 hbel hown
    by_cases hkd : k < d
    · have HK := Lib.hid (show ∀ W0, Below wr.heap.size wr W0 → ovS m d w.heap.size (GR + 1) GR (.slice A (d + 1) c) (.slice A2 (d + 1) c2) (.slice AR (d + 1) cR) W0 from fun W0 h => by
        obtain ⟨a1, a2, a3, -⟩ := B1.out.keep (below_step HBE.out h)
        obtain ⟨b1, b2, b3, -⟩ := (HV2.out.keep h).tells3
        obtain ⟨c1, c2, c3, -⟩ := (HV1.out.keep h).tells3
        exact ⟨⟨a1, a2, a3⟩, ⟨b1, b2, b3⟩, c1, c2, c3⟩)
      have HT1 := Lib.hid (fun (W0 : World) (h : Below wr.heap.size wr W0) => HT.out k A2 c2 AR cR W0 (HR2.out.below h) (HOR.out.below (below_step HRR.out h)))
      have HP1 := Lib.hid (fun (A1 : Option Addr) (c1 : Nat) (W0 : World) (h : Below wr.heap.size wr W0) (h2 : RP W0 A1 (Pl.tab m d (Pl.mul2 (Pl.pc (Q k)) (Pl.pc TR)))) => by
        have := HP.out k A1 c1 W0 (HR1.out.below (below_step HBE.out h)) h2
        rw [HNX.out k] at this
        exact this)
      have hTl : (Pl.tab m d (Pl.mul2 (Pl.pc (Q k)) (Pl.pc TR))).length = d + 1 := Pl.tab_length _ _ _
      have hQl : (Q (k + 1)).length = d + 1 := (HOV.out (k + 1)).len
      obtain ⟨TT, hTT⟩ : ∃ T, Pl.tab m d (Pl.mul2 (Pl.pc (Q k)) (Pl.pc TR)) = T := ⟨_, rfl⟩
      rw [hTT] at HT1 HP1 hTl
      obtain ⟨QN, hQN⟩ : ∃ T, Q (k + 1) = T := ⟨_, rfl⟩
      rw [hQN] at HP1 hQl
      have HQN := Lib.hid hQN
      have HTL := Lib.hid hTl
      have HQL := Lib.hid hQl
      have hS0 := HK.out _ (below_drew0 wr)
      have HS0 := Lib.hid hS0
      have j1 : (k : Int) < (d : Int) := by omega
      clear hS0 hTT hQN hTl hQl HT HP HNX HOV
      go_wp2
      refine region_till (ovS m d w.heap.size (GR + 1) GR (.slice A (d + 1) c) (.slice A2 (d + 1) c2) (.slice AR (d + 1) cR)) 5 (by kernel_rfl) ?_
      refine till_take (i := 0) (dst := some 16) (.agg #[.int .i64 m, .int .i64 d, .slice A (d + 1) c]) rfl rfl (by kernel_rfl) (by kernel_rfl) (by kernel_rfl) (by kernel_rfl) (fun _ _ _ h => h) (Or.inl ⟨by rfl, ?_⟩) HS0.out ?_
      · rintro w' ⟨⟨a1, a2, a3⟩, ⟨b1, b2, b3⟩, c1, c2, c3⟩
        go_simp
      simp only [Act.put, List.setIfInBounds_toArray, List.set_cons_zero, List.set_cons_succ]
      refine till_take (i := 1) (dst := some 17) (.agg #[.int .i64 m, .int .i64 d, .slice A2 (d + 1) c2]) rfl rfl (by kernel_rfl) (by kernel_rfl) (by kernel_rfl) (by kernel_rfl) (fun _ _ _ h => h) (Or.inl ⟨by rfl, ?_⟩) HS0.out ?_
      · rintro w' ⟨⟨a1, a2, a3⟩, ⟨b1, b2, b3⟩, c1, c2, c3⟩
        go_simp
      simp only [Act.put, List.setIfInBounds_toArray, List.set_cons_zero, List.set_cons_succ]
      refine till_take (i := 2) (dst := some 18) (.agg #[.int .i64 m, .int .i64 d, .slice AR (d + 1) cR]) rfl rfl (by kernel_rfl) (by kernel_rfl) (by kernel_rfl) (by kernel_rfl) (fun _ _ _ h => h) (Or.inl ⟨by rfl, ?_⟩) HS0.out ?_
      · rintro w' ⟨⟨a1, a2, a3⟩, ⟨b1, b2, b3⟩, c1, c2, c3⟩
        go_simp
      simp only [Act.put, List.setIfInBounds_toArray, List.set_cons_zero, List.set_cons_succ]
      refine till_one (i := 3) (by kernel_rfl) rfl (fun K hK => ?_)
      go_simp
      (go_at_call 72; with_reducible refine Calls.mono (HT1.out _ (below_drew0 wr)) ?_; rintro e w4 ⟨v4, rfl, ho4, hb4⟩; obtain ⟨A4, c4, rfl, -⟩ := ho4.len; rw [HTL.out] at ho4 ⊢; have b4 := below_step (below_drew0 wr) hb4)
      dsimp only
      refine hK.out _ _ (fun _ => HK.out _ b4) ?_
      clear hK K
      try simp only [Act.put, List.setIfInBounds_toArray, List.set_cons_zero, List.set_cons_succ]
      refine till_one (i := 4) (by kernel_rfl) rfl (fun K hK => ?_)
      go_simp
      (go_at_call 71; with_reducible refine Calls.mono (HP1.out _ _ _ b4 ho4.rp) ?_; rintro e w5 ⟨v5, rfl, ho5, hb5⟩; obtain ⟨A5, c5, rfl, -⟩ := ho5.len; rw [HQL.out] at ho5 ⊢; have b5 := below_step b4 hb5; have hv5 := HV2.out.keep b5; obtain ⟨z1, z2, z3, z4, z5, z6⟩ := hv5.tells3)
      dsimp only
      refine hK.out _ _ (fun _ => HK.out _ b5) ?_
      clear hK K
      try simp only [Act.put, List.setIfInBounds_toArray, List.set_cons_zero, List.set_cons_succ]
      refine till_one (i := 5) (by kernel_rfl) rfl (fun K hK => ?_)
      go_simp
      refine hK.out _ _ (fun hne => absurd rfl hne) ?_
      clear hK K
      refine till_done (by kernel_rfl) ?_
      have hlt := HV2.out.lt
      have hw4 := b4.size
      have hG : W.heap.size ≤ GR + 1 := by omega
      obtain ⟨f0, f1, f2, ox, bx⟩ := fin_grid (w := W) hv5 ho5 (.inl (by omega)) hG (Nat.le_refl _) (below_step HBE.out b5) (.int .i64 m) (.int .i64 d) (.slice A5 (d + 1) c5)
      have K1 := Lib.hid ((HV1.out.keep b5).other (grown_set3 w5 (GR + 1) (.int .i64 m) (.int .i64 d) (.slice A5 (d + 1) c5)) (by intro e; injection e with e; omega))
      have K2 := Lib.hid (hv5.set3 (.int .i64 m) (.int .i64 d) (.slice A5 (d + 1) c5))
      have K3 := Lib.hid bx
      have K4 := Lib.hid ox
      have K5 := Lib.hid (show GR + 1 < w4.heap.size by omega)
      have K6 := Lib.hid (below_set3 (below_step HRR.out b5) (show w1.heap.size ≤ GR + 1 by omega) (.int .i64 m) (.int .i64 d) (.slice A5 (d + 1) c5))
      clear f0 f1 f2 ox bx hv5 ho5 ho4 hb4 hb5 b4 b5 z1 z2 z3 z4 z5 z6 HS0 HK HT1 HP1
      go_wp2
      go_roundw
      case rel => exact ⟨k + 1, A5, c5, by omega, by go_num, K1.out, K2.out, by rw [HQN.out]; exact K4.out.rp, K6.out, fun _ => ⟨_, by rw [HQN.out]; exact K4.out, K5.out⟩, K3.out⟩
      case measure => simp only [intOf]; omega
    · obtain rfl : k = d := by omega
      obtain ⟨lo, ho, hlo⟩ := HOW.out hd1
      have hv3 := V3.out.keep HBE.out
      obtain ⟨y1, y2, y3, -⟩ := HV2.out.tells3
      obtain ⟨q0, q1, q2, q3, q4, q5⟩ := hv3.tells3
      obtain ⟨f0, f1, f2, f3, f4⟩ := fin_grid (w := w) hv3 ho (.inl (by omega)) (by omega) (Nat.le_refl _) (below_step HB.out HBE.out) (.int .i64 m) (.int .i64 k) (.slice A2 (k + 1) c2)
      have F3 := Lib.hid (f3.low (show w.heap.size ≤ lo by omega))
      have F4 := Lib.hid f4
      unfold set3 at f0 f1 f2
      clear f3 f4 ho hv3 HT HP
      go_wp2
      exact bodyPost_ret (v := .agg #[.int .i64 m, .int .i64 k, .slice A2 (k + 1) c2]) (by simp [results, Try.results75, go_sem, f0, f1, f2]) rfl ⟨_, rfl, F3.out, F4.out⟩
end Go.Proofs.Ytilfjhnkjdfcoab

/- A region that draws its order, and whose last operations store into what the others load: a condition on the world that holds till then. -/
namespace Go.Proofs.Ytilfjhnkjdfcoab
open Go

section
variable {P : Program} {ops : Array Oper} {Q : Exit → Act → World → Prop} {md : Region.Mode} {S : World → Prop} {n : Nat}

/-- in whatever order; S holds behind every operation below number n -/
def wpTilN (P : Program) (md : Region.Mode) (ops : Array Oper) (Q : Exit → Act → World → Prop) (S : World → Prop) (n : Nat) : Nat → Array Bool → Act → World → Prop
  | 0, listed, a, w => Region.ready md ops listed = [] ∧ Q .normal a w
  | fuel + 1, listed, a, w => (Region.ready md ops listed = [] → Q .normal a w) ∧
    ∀ i ∈ Region.ready md ops listed, wpOp P ops Q i (fun a' w' => (i < n → S w') ∧ wpTilN P md ops Q S n fuel (listed.setIfInBounds i true) a' w') a w
theorem any_of_tilN : ∀ (fuel : Nat) (listed : Array Bool) (a : Act) (w : World), wpTilN P md ops Q S n fuel listed a w → wpAny P md ops Q fuel listed a w
  | 0, _, _, _, h => h
  | fuel + 1, _, _, _, h => ⟨h.1, fun i hi => wpOp_mono (fun a' w' k => any_of_tilN fuel _ a' w' k.2) (h.2 i hi)⟩
/-- what is listed cannot be waited for by what may come up -/
theorem no_waitN {i : Nat} {listed : Array Bool} {oj : Oper} (hr : i ∈ Region.ready md ops listed) (hall : ∀ e ∈ oj.after, Region.binds md e = true → listed.getD e.on false = true) :
    ∀ e ∈ oj.after, Region.binds md e = true → e.on ≠ i := by
  intro e he hb heq
  have h1 := hall e he hb
  have h0 := (mem_ready.1 hr).1
  rw [heq] at h1
  by_cases h : i < listed.size
  · simp [h] at h0 h1
    rw [h0] at h1
    exact absurd h1 (by decide)
  · simp [Array.getElem?_eq_none (Nat.le_of_not_lt h)] at h1
/-- number k waits for number i, maybe by others -/
def waitT (md : Region.Mode) (ops : Array Oper) (i : Nat) : Nat → Nat → Bool
  | 0, _ => false
  | f + 1, k => match ops[k]? with
    | none => false
    | some o => o.after.any fun e => Region.binds md e && (e.on == i || waitT md ops i f e.on)
/-- what is listed has waited for what is listed -/
def Clos (md : Region.Mode) (ops : Array Oper) (listed : Array Bool) : Prop := ∀ l o, ops[l]? = some o → listed.getD l false = true → ∀ e ∈ o.after, Region.binds md e = true → listed.getD e.on false = true
theorem waitT_listed {i : Nat} {listed : Array Bool} (hc : Clos md ops listed) : ∀ (f k : Nat) (o : Oper), ops[k]? = some o → (∀ e ∈ o.after, Region.binds md e = true → listed.getD e.on false = true) → waitT md ops i f k = true → listed.getD i false = true
  | 0, _, _, _, _, h => by cases h
  | f + 1, k, o, ho, hw, h => by
    unfold waitT at h
    rw [ho] at h
    obtain ⟨e, he, h2⟩ := Array.any_eq_true'.1 h
    rw [Bool.and_eq_true, Bool.or_eq_true] at h2
    rcases h2.2 with h3 | h3
    · rw [← (by simpa using h3 : e.on = i)]
      exact hw e he h2.1
    · cases hq : ops[e.on]? with
      | none =>
        cases f with
        | zero => cases h3
        | succ f => unfold waitT at h3; rw [hq] at h3; cases h3
      | some o2 => exact waitT_listed hc f e.on o2 hq (hc e.on o2 hq (hw e he h2.1)) h3
theorem not_listed {i : Nat} {listed : Array Bool} (h0 : listed.getD i true = false) (h1 : listed.getD i false = true) : False := by
  by_cases h : i < listed.size
  · simp [h] at h0 h1
    rw [h0] at h1
    exact absurd h1 (by decide)
  · simp [Array.getElem?_eq_none (Nat.le_of_not_lt h)] at h1
theorem set_listed {l j : Nat} {listed : Array Bool} (h : (listed.setIfInBounds j true).getD l false = true) : l = j ∨ listed.getD l false = true := by
  by_cases e : l = j
  · exact .inl e
  · rw [getD_set_ne false (fun x => e x.symm)] at h
    exact .inr h
theorem listed_set {l j : Nat} {listed : Array Bool} (h : listed.getD l false = true) : (listed.setIfInBounds j true).getD l false = true := by
  by_cases e : j = l
  · subst e
    by_cases hs : j < listed.size
    · simp [hs]
    · simp [Array.getElem?_eq_none (Nat.le_of_not_lt hs)] at h
  · rw [getD_set_ne false e]
    exact h
/-- an operation that yields v in every world of S may be taken first, if number n waits for it -/
theorem tilN_first {i : Nat} {oi : Oper} {v : Value} (hi : ops[i]? = some oi) (hsel : ∀ (j : Nat) (o : Oper) cs b, ops[j]? = some o → o.op ≠ .select cs b)
    (hQ : ∀ c a w, Q (.panic c) (a.put oi.dst v) w → Q (.panic c) a w) (hn : ∀ k on, n ≤ k → ops[k]? = some on → waitT md ops i ops.size k = true) :
    ∀ (fuel : Nat) (listed : Array Bool) (a : Act) (w : World), Clos md ops listed →
      (∀ j oj, ops[j]? = some oj → j ≠ i → listed.getD j true = false → (∀ e ∈ oj.after, Region.binds md e = true → e.on ≠ i) → oi.apart ops oj = true) →
      i ∈ Region.ready md ops listed → YieldsIf P ops S oi v a → S w →
      wpTilN P md ops Q S n fuel (listed.setIfInBounds i true) (a.put oi.dst v) w → wpTilN P md ops Q S n (fuel + 1) listed a w := by
  intro fuel
  induction fuel with
  | zero =>
    intro listed a w _ _ hr hy hS H
    refine ⟨fun e => (by rw [e] at hr; cases hr), fun j hj => ?_⟩
    by_cases hji : j = i
    · subst hji
      exact hy.wpOp hi hS ⟨fun _ => hS, H⟩
    · have hk := ready_mono hj hji
      rw [H.1] at hk
      cases hk
  | succ fuel ih =>
    intro listed a w hcl hfree hr hy hS H
    refine ⟨fun e => (by rw [e] at hr; cases hr), fun j hj => ?_⟩
    by_cases hji : j = i
    · subst hji
      exact hy.wpOp hi hS ⟨fun _ => hS, H⟩
    · obtain ⟨hun, oj, hoj, hall⟩ := mem_ready.1 hj
      have hnot := no_waitN hr hall
      have hjn : j < n := by
        apply Classical.byContradiction
        intro hge
        exact not_listed (mem_ready.1 hr).1 (waitT_listed hcl _ j oj hoj hall (hn j oj (by omega) hoj))
      have k2 := wpOp_putIf hoj (hfree j oj hoj hji hun hnot) (fun cs b => hsel i oi cs b hi) (fun cs b => hsel j oj cs b hoj) hQ hy (H.2 j (ready_mono hj hji))
      have hfree' : ∀ k ok, ops[k]? = some ok → k ≠ i → (listed.setIfInBounds j true).getD k true = false →
          (∀ e ∈ ok.after, Region.binds md e = true → e.on ≠ i) → oi.apart ops ok = true := by
        intro k ok hk hki hu hno
        refine hfree k ok hk hki ?_ hno
        by_cases hjk : j = k
        · subst hjk; exact hun
        · rw [getD_set_ne true hjk] at hu; exact hu
      have hcl' : Clos md ops (listed.setIfInBounds j true) := by
        intro l o ho hl e he hb
        rcases set_listed hl with rfl | hl
        · rw [hoj] at ho
          injection ho with ho
          subst ho
          exact listed_set (hall e he hb)
        · exact listed_set (hcl l o ho hl e he hb)
      refine wpOp_mono (fun a' w' k3 => ⟨fun _ => k3.2.1 hjn, ih (listed.setIfInBounds j true) a' w' hcl' hfree' (ready_mono hr (Ne.symm hji)) k3.1 (k3.2.1 hjn) ?_⟩) k2
      rw [Array.setIfInBounds_comm _ _ hji]
      exact k3.2.2
/-- number n and all behind it wait for number i; what is listed is closed -/
def waitN (md : Region.Mode) (ops : Array Oper) (listed : Array Bool) (n i : Nat) : Bool :=
  ((List.range ops.size).all fun k => decide (k < n) || waitT md ops i ops.size k) &&
    (List.range ops.size).all fun l => !(listed.getD l false) || ((ops[l]?).map fun o => o.after.all fun e => !(Region.binds md e) || listed.getD e.on false).getD true
theorem tilN_take {i : Nat} {oi : Oper} {dst : Option Tmp} (v : Value) {fuel : Nat} {listed : Array Bool} {a : Act} {w : World} (hi : ops[i]? = some oi) (hd : oi.dst = dst) (hs : Region.noSelect ops = true) (hf : Region.free md ops listed i = true)
    (hr : (Region.ready md ops listed).contains i = true) (hw : waitN md ops listed n i = true) (hQ : ∀ c a w, Q (.panic c) (a.put dst v) w → Q (.panic c) a w) (hy : YieldsIf P ops S oi v a) (hS : S w)
    (h : wpTilN P md ops Q S n fuel (listed.setIfInBounds i true) (a.put dst v) w) : wpTilN P md ops Q S n (fuel + 1) listed a w := by
  subst hd
  unfold waitN at hw
  rw [Bool.and_eq_true] at hw
  have hsz : ∀ {k : Nat} {on : Oper}, ops[k]? = some on → k < ops.size := fun {k on} ho => by
    apply Classical.byContradiction
    intro h
    rw [Array.getElem?_eq_none (by omega)] at ho
    cases ho
  refine tilN_first hi (Region.noSelect_spec hs) hQ (fun k on hk ho => ?_) fuel listed a w (fun l o ho hl e he hb => ?_) (Region.free_spec hi hf) (by simpa using hr) hy hS h
  · have h1 := List.all_eq_true.1 hw.1 k (List.mem_range.2 (hsz ho))
    simp only [Bool.or_eq_true, decide_eq_true_eq] at h1
    rcases h1 with h1 | h1
    · omega
    · exact h1
  · have h1 := List.all_eq_true.1 hw.2 l (List.mem_range.2 (hsz ho))
    rw [ho, hl] at h1
    have h2 : (o.after.all fun e => !(Region.binds md e) || listed.getD e.on false) = true := by simpa using h1
    have h3 := Array.all_eq_true_iff_forall_mem.1 h2 e he
    rw [hb] at h3
    simpa using h3
/-- one operation alone may come up -/
theorem tilN_one {i : Nat} {o : Oper} {fuel : Nat} {listed : Array Bool} {a : Act} {w : World} (hr : Region.ready md ops listed = [i]) (ho : ops[i]? = some o)
    (h : ∀ K : Act → World → Prop, Shut (∀ a w, (i < n → S w) → wpTilN P md ops Q S n fuel (listed.setIfInBounds i true) a w → K a w) → if Region.wanted o (yielded ops a.tmps) = true then Oper.wp P o a w K Q else K (a.put o.dst undef) w) :
    wpTilN P md ops Q S n (fuel + 1) listed a w := by
  refine ⟨fun e => (by rw [e] at hr; cases hr), fun j hj => ?_⟩
  rw [hr] at hj
  obtain rfl : j = i := by simpa using hj
  exact wpOp_step ho (fun K hK => h K (fun a w hS hW => hK a w ⟨hS, hW⟩))
theorem tilN_done {fuel : Nat} {listed : Array Bool} {a : Act} {w : World} (hr : Region.ready md ops listed = []) (h : Q .normal a w) : wpTilN P md ops Q S n fuel listed a w := by
  cases fuel with
  | zero => exact ⟨hr, h⟩
  | succ f => exact ⟨fun _ => h, by rw [hr]; simp⟩
theorem region_tilN {id : Nat} {a : Act} {w : World} (S : World → Prop) (n : Nat) (hm : P.follows .mixedOrders = true) (h : wpTilN P .any ops Q S n ops.size (Array.replicate ops.size false) a w.drew) : (Code.region id ops true).wp P Q a w :=
  wp_region_any hm (any_of_tilN _ _ _ _ h)
end
end Go.Proofs.Ytilfjhnkjdfcoab

/- Contract of a grid with its variables exchanged. -/
namespace Go.Proofs.Ytilfjhnkjdfcoab
open Go.RowKit Go.WideShapes Go.ChangeShapes Go.ChangeAt

set_option maxHeartbeats 1000000 in
theorem turnedC_any (i j g : Nat) (m : Int) (d : Nat) (A : Option Addr) (c : Nat) (t : List (List Int)) (W : World) (hb : GBox W g m d A t.length c) (hs : Pl.Ok m d t) (hr : RP W A t) (hij : i + j ≤ d) :
    Calls Try.prog 137 #[.int .i64 i, .int .i64 j, .pointer (some ⟨g, 0, none⟩)] W fun e w' => e = .returned (.int .i64 (Pl.pc t j i)) ∧ Below W.heap.size W w' := by
  obtain ⟨_, _, x2, _⟩ := hb
  obtain ⟨b, off, b', off', c', rfl, -, k1, -, k2⟩ := hr.num j i (by rw [hs.len]; omega) (by rw [hs.row j (by omega)]; omega)
  have hl := hs.len
  have hrw := hs.row j (by omega)
  obtain ⟨N, hN⟩ : ∃ N, d - j + 1 = N := ⟨_, rfl⟩
  obtain ⟨L, hL⟩ : ∃ L, t.length = L := ⟨_, rfl⟩
  obtain ⟨X, hX⟩ : ∃ X, Pl.pc t j i = X := ⟨_, rfl⟩
  rw [hrw, hN] at k1
  rw [hX] at k2 ⊢
  rw [hL] at x2
  have j1 : (0 : Int) ≤ (j : Int) := by omega
  have j2 : (j : Int) < (L : Int) := by omega
  have j3 : (0 : Int) ≤ (i : Int) := by omega
  have j4 : (i : Int) < (N : Int) := by omega
  clear hl hrw hN hL hX hr hs
  go_enter Try.func137, Try.ntmps137
  go_wp2
  go_ret
  exact ⟨rfl, Below.refl _ _⟩
set_option maxHeartbeats 2000000 in
set_option maxRecDepth 100000 in
theorem turned_any (m : Int) (d : Nat) (A : Option Addr) (c : Nat) (t : List (List Int)) (w : World) (hs : Pl.Ok m d t) (hr : RP w A t) :
    Calls Try.prog 109 #[.agg #[.int .i64 m, .int .i64 d, .slice A t.length c]] w fun e w' => ∃ v, e = .returned (.agg #[.int .i64 m, .int .i64 d, v]) ∧ OwnR w' w.heap.size w'.heap.size v (Pl.tab m d (fun i j => Pl.pc t j i)) ∧ Below w.heap.size w w' := by
  obtain ⟨W, hW, b1, v3, hwb⟩ := gpro1 w m d A t.length c
  have HS := Lib.hid (filled_any m d 137 #[.pointer (some ⟨w.heap.size, 0, none⟩)] (fun i j => Pl.pc t j i) W (by have := hs.m1; omega) hs.m2 (by have := hs.d2; omega)
    (fun i j hij => by have := hs.pc j i; have := hs.m2; omega) (enters_fn Try.func137 (of_decide_eq_true (by kernel_rfl)) rfl)
    (fun i j W1 hij hb => turnedC_any i j _ m d A c t W1 (b1.keep hb) hs ((hr.below hwb).below hb) hij))
  have HB := Lib.hid hwb
  have HW := Lib.hid hW
  have V3 := Lib.hid v3
  obtain ⟨T, hT⟩ : ∃ T, Pl.tab m d (fun i j => Pl.pc t j i) = T := ⟨_, rfl⟩
  rw [hT] at HS ⊢
  obtain ⟨L, hL⟩ : ∃ L, t.length = L := ⟨_, rfl⟩
  rw [hL] at HW ⊢
  clear b1 v3 hwb hW hr hs hT hL
  go_enter Try.func109, Try.ntmps109
  go_wp2_with fail
  rw [HW.out]
  refine HS.out.mono ?_
  rintro e w2 ⟨v, rfl, ho, hb⟩
  obtain ⟨A2, c2, rfl, -⟩ := ho.len
  have hv := V3.out.keep hb
  obtain ⟨q0, q1, q2, q3, q4, q5⟩ := hv.tells3
  obtain ⟨f0, f1, f2, f3, f4⟩ := fin_grid (w := w) hv ho (by have := V3.out.lt; omega) (by omega) (Nat.le_refl _) (below_step HB.out hb) (.int .i64 m) (.int .i64 d) (.slice A2 T.length c2)
  have F3 := Lib.hid (f3.low (show w.heap.size ≤ W.heap.size from HB.out.size))
  have F4 := Lib.hid f4
  unfold set3 at f0 f1 f2
  clear f3 f4 ho hv hb
  go_wp2
  exact bodyPost_ret (v := .agg #[.int .i64 m, .int .i64 d, .slice A2 T.length c2]) (by simp [results, Try.results109, go_sem, f0, f1, f2]) rfl ⟨_, rfl, F3.out, F4.out⟩
end Go.Proofs.Ytilfjhnkjdfcoab

/- Contracts of the grids of series. -/
namespace Go.Proofs.Ytilfjhnkjdfcoab
open Go.RowKit Go.WideShapes Go.ChangeShapes Go.ChangeAt

set_option maxHeartbeats 2000000 in
set_option maxRecDepth 100000 in
theorem frameOfSeries_any (m : Int) (A : Option Addr) (n c d : Nat) (w : World) (hn : n = d + 1) (hd : d ≤ 1000) :
    Calls Try.prog 106 #[.agg #[.int .i64 m, .slice A n c]] w fun e w' => e = .returned (.agg #[.int .i64 m, .int .i64 d]) ∧ Below w.heap.size w w' := by
  obtain ⟨W, hW⟩ : ∃ W, (w.alloc (.cells #[.int .i64 m, .slice A n c] 24)).alloc (.cells #[.int .i64 0, .int .i64 0] 64) = W := ⟨_, rfl⟩
  have hwb : Below w.heap.size w W := by rw [← hW]; exact below_alloc _ (below_one _ _)
  have b1 : Box W w.heap.size m A n c := by rw [← hW]; exact (Box.newT _ _ _ _ _ _).keep (below_one _ _)
  have v2 : VarC 64 W (w.heap.size + 1) #[.int .i64 0, .int .i64 0] := by
    rw [← hW]
    have := VarC.new 64 (w.alloc (.cells #[.int .i64 m, .slice A n c] 24)) #[.int .i64 0, .int .i64 0]
    simpa using this
  have HG := Lib.hid (fun W0 => degree_nat m A n c d W0 hn hd)
  have HB := Lib.hid hwb
  have HW := Lib.hid hW
  have V2 := Lib.hid v2
  obtain ⟨x1, x2, x3⟩ := b1
  clear hwb hW v2 hn
  go_enter Try.func106, Try.ntmps106
  go_wp2
  rw [HW.out]
  go_region_held3 (fun w' => w'.cell? ⟨w.heap.size, 0, none⟩ = some (.int .i64 m) ∧ w'.cell? ⟨w.heap.size, 1, none⟩ = some (.slice A n c) ∧ w.heap.size < w'.heap.size) (first | exact ⟨x1, x2, x3⟩ | exact box_store (by omega) (by assumption) | exact box_call (by assumption) (by assumption)) (first
    | (go_at_call 98; refine (HG.out _).mono ?_; rintro e1 w1 ⟨rfl, hb1⟩; have hv := V2.out.keep (below_step (below_drew0 _) hb1); obtain ⟨q0, q1, q2, q3⟩ := hv.tells2))
  all_goals
    have h2 := (hv.set 0 (.int .i64 m)).set 1 (.int .i64 d)
    obtain ⟨f0, f1, _⟩ := h2.tells2
    have HF := Lib.hid (((below_step HB.out (below_step (below_drew0 _) hb1)).setCell (p := ⟨w.heap.size + 1, 0, none⟩) (by show w.heap.size ≤ w.heap.size + 1; omega) (.int .i64 m)).setCell (p := ⟨w.heap.size + 1, 1, none⟩) (by show w.heap.size ≤ w.heap.size + 1; omega) (.int .i64 d))
    clear h2 hb1 hv
    go_wp2
    exact bodyPost_ret (v := .agg #[.int .i64 m, .int .i64 d]) (by simp [results, Try.results106, go_sem, f0, f1]) rfl ⟨rfl, HF.out⟩

theorem gosC_any (i j g : Nat) (m : Int) (d : Nat) (A : Option Addr) (c : Nat) (l : List Int) (W : World) (hb : Box W g m A l.length c) (hs : SerOk m d l) (hr : RI W A l) (hij : i + j ≤ d) :
    Calls Try.prog 108 #[.int .i64 i, .int .i64 j, .pointer (some ⟨g, 0, none⟩)] W fun e w' => e = .returned (.int .i64 (if i = 0 then Ser.co l j else 0)) ∧ Below W.heap.size W w' := by
  obtain ⟨_, x2, _⟩ := hb
  by_cases hi : i = 0
  · rw [if_pos hi]
    subst hi
    obtain ⟨b, off, rfl, hlt, hc⟩ := hr.at j (by rw [hs.len]; omega)
    obtain ⟨X, hX⟩ : ∃ X, Ser.co l j = X := ⟨_, rfl⟩
    rw [hX] at hc ⊢
    have j0 : (0 : Int) ≤ (j : Int) := by omega
    have j1 : (j : Int) < (l.length : Int) := by have := hs.len; omega
    clear hX hr hs
    go_enter Try.func108, Try.ntmps108
    go_wp2
    go_ret
    exact ⟨rfl, Below.refl _ _⟩
  · rw [if_neg hi]
    have hi2 : ¬ (i : Int) = 0 := by omega
    obtain ⟨n1, n2⟩ := ne_facts hi2
    clear hi hr hs
    go_enter Try.func108, Try.ntmps108
    go_wp2
    go_ret
    exact ⟨rfl, Below.refl _ _⟩
/-- the table of a(x) for k = 0, of a(y) else -/
def gosF (l : List Int) (k : Int) : Nat → Nat → Int := fun i j => if k = 0 then (if j = 0 then Ser.co l i else 0) else (if i = 0 then Ser.co l j else 0)
theorem gosF_turned (m : Int) (d : Nat) (l : List Int) : (Pl.tab m d fun i j => Pl.pc (Pl.tab m d fun i j => if i = 0 then Ser.co l j else 0) j i) = Pl.tab m d (gosF l 0) :=
  Pl.tab_congr (fun i j h => by
    rw [Pl.pc_tab (by omega), Int.emod_emod]
    unfold gosF
    rw [if_pos rfl])
theorem gosF_plain (m : Int) (d : Nat) (l : List Int) (k : Int) (hk : ¬ k = 0) : (Pl.tab m d fun i j => if i = 0 then Ser.co l j else 0) = Pl.tab m d (gosF l k) :=
  Pl.tab_congr (fun i j h => by unfold gosF; rw [if_neg hk])
set_option maxHeartbeats 2000000 in
set_option maxRecDepth 100000 in
theorem gridOfSeries_any (m : Int) (d : Nat) (A : Option Addr) (c : Nat) (l : List Int) (k : Int) (w : World) (hs : SerOk m d l) (hr : RI w A l) :
    Calls Try.prog 68 #[.agg #[.int .i64 m, .slice A l.length c], .int .i64 k] w fun e w' => ∃ v, e = .returned (.agg #[.int .i64 m, .int .i64 d, v]) ∧ OwnR w' w.heap.size w'.heap.size v (Pl.tab m d (gosF l k)) ∧ Below w.heap.size w w' := by
  obtain ⟨W, hW⟩ : ∃ W, (w.alloc (.cells #[.int .i64 m, .slice A l.length c] 24)).alloc (.cells #[.int .i64 0, .int .i64 0, .slice none 0 0] 66) = W := ⟨_, rfl⟩
  have hwb : Below w.heap.size w W := by rw [← hW]; exact below_alloc _ (below_one _ _)
  have b1 : Box W w.heap.size m A l.length c := by rw [← hW]; exact (Box.newT _ _ _ _ _ _).keep (below_one _ _)
  have v2 : VarC 66 W (w.heap.size + 1) #[.int .i64 0, .int .i64 0, .slice none 0 0] := by
    rw [← hW]
    have := VarC.new 66 (w.alloc (.cells #[.int .i64 m, .slice A l.length c] 24)) #[.int .i64 0, .int .i64 0, .slice none 0 0]
    simpa using this
  have HG := Lib.hid (fun W0 => frameOfSeries_any m A l.length c d W0 hs.len (by have := hs.d2; omega))
  have hm1 := hs.m1
  have HS := Lib.hid (fun W0 (h : Below W.heap.size W W0) => filled_any m d 108 #[.pointer (some ⟨w.heap.size, 0, none⟩)] (fun i j => if i = 0 then Ser.co l j else 0) W0 (by omega) hs.m2 (by have := hs.d2; omega)
    (fun i j hij => by have := hs.red j; have := hs.m2; split <;> omega) (enters_fn Try.func108 (of_decide_eq_true (by kernel_rfl)) rfl)
    (fun i j W1 hij hb => gosC_any i j _ m d A c l W1 ((b1.keep h).keep hb) hs (((hr.below hwb).below h).below hb) hij))
  have HT := Lib.hid (fun (W0 : World) (A0 : Option Addr) (c0 : Nat) (h : RP W0 A0 (Pl.tab m d fun i j => if i = 0 then Ser.co l j else 0)) => turned_any m d A0 c0 _ W0 (Pl.Ok.of_tab hs.m1 hs.m2 hs.d1 hs.d2 _) h)
  have HB := Lib.hid hwb
  have HW := Lib.hid hW
  have V3 := Lib.hid v2
  obtain ⟨x1, x2, x3⟩ := b1
  by_cases hk : k = 0
  · subst hk
    rw [gosF_turned] at HT
    obtain ⟨T0, hT0⟩ : ∃ T0, (Pl.tab m d fun i j => if i = 0 then Ser.co l j else 0) = T0 := ⟨_, rfl⟩
    obtain ⟨T, hT⟩ : ∃ T, Pl.tab m d (gosF l 0) = T := ⟨_, rfl⟩
    rw [hT0] at HS HT
    rw [hT] at HT ⊢
    clear hwb hW v2 hr hs hT hT0
    go_enter Try.func68, Try.ntmps68
    go_wp2_with fail
    rw [HW.out]
    refine (HG.out _).mono ?_
    rintro e w1 ⟨rfl, hb1⟩
    go_wp2_with fail
    refine (HS.out _ hb1).mono ?_
    rintro e w2 ⟨v, rfl, ho2, hb2⟩
    obtain ⟨A1, c1, rfl, hp⟩ := ho2.len
    have HP := Lib.hid (hp.below (below_one w2 (.cells #[.int .i64 m, .int .i64 d, .slice A1 T0.length c1] 66)))
    have hb12 := below_alloc (.cells #[.int .i64 m, .int .i64 d, .slice A1 T0.length c1] 66) (below_step hb1 hb2)
    clear ho2 hp
    go_wp2_with fail
    refine (HT.out _ _ _ HP.out).mono ?_
    rintro e w3 ⟨v, rfl, ho, hb3⟩
    obtain ⟨A2, c2, rfl, -⟩ := ho.len
    have hb := below_step hb12 hb3
    have hv := V3.out.keep hb
    obtain ⟨q0, q1, q2, q3, q4, q5⟩ := hv.tells3
    obtain ⟨f0, f1, f2, f3, f4⟩ := fin_grid (w := w) hv ho (by have := V3.out.lt; have := hb12.size; omega) (by omega) (Nat.le_refl _) (below_step HB.out hb) (.int .i64 m) (.int .i64 d) (.slice A2 T.length c2)
    have F3 := Lib.hid (f3.low (lo' := w.heap.size) (by have := V3.out.lt; have := hb12.size; omega))
    have F4 := Lib.hid f4
    unfold set3 at f0 f1 f2
    clear f3 f4 ho hv hb hb12
    go_wp2
    exact bodyPost_ret (v := .agg #[.int .i64 m, .int .i64 d, .slice A2 T.length c2]) (by simp [results, Try.results68, go_sem, f0, f1, f2]) rfl ⟨_, rfl, F3.out, F4.out⟩
  · obtain ⟨n1, n2⟩ := ne_facts hk
    rw [← gosF_plain m d l k hk]
    obtain ⟨T, hT⟩ : ∃ T0, (Pl.tab m d fun i j => if i = 0 then Ser.co l j else 0) = T0 := ⟨_, rfl⟩
    rw [hT] at HS ⊢
    clear hwb hW v2 hr hs hT HT
    go_enter Try.func68, Try.ntmps68
    go_wp2_with fail
    rw [HW.out]
    refine (HG.out _).mono ?_
    rintro e w1 ⟨rfl, hb1⟩
    go_wp2_with fail
    refine (HS.out _ hb1).mono ?_
    rintro e w2 ⟨v, rfl, ho2, hb2⟩
    obtain ⟨A2, c2, rfl, hp⟩ := ho2.len
    have hb := below_alloc (.cells #[.int .i64 m, .int .i64 d, .slice A2 T.length c2] 66) (below_step hb1 hb2)
    have ho := ho2.keep (below_one w2 (.cells #[.int .i64 m, .int .i64 d, .slice A2 T.length c2] 66))
    have hv := V3.out.keep hb
    obtain ⟨q0, q1, q2, q3, q4, q5⟩ := hv.tells3
    obtain ⟨f0, f1, f2, f3, f4⟩ := fin_grid (w := w) hv ho (by have := V3.out.lt; have := hb1.size; omega) (by omega) (below_one w2 _).size (below_step HB.out hb) (.int .i64 m) (.int .i64 d) (.slice A2 T.length c2)
    have F3 := Lib.hid (f3.low (lo' := w.heap.size) (by have := V3.out.lt; have := hb1.size; omega))
    have F4 := Lib.hid f4
    unfold set3 at f0 f1 f2
    clear f3 f4 ho hv hb ho2 hp
    go_wp2
    exact bodyPost_ret (v := .agg #[.int .i64 m, .int .i64 d, .slice A2 T.length c2]) (by simp [results, Try.results68, go_sem, f0, f1, f2]) rfl ⟨_, rfl, F3.out, F4.out⟩
end Go.Proofs.Ytilfjhnkjdfcoab

/- Appending a row that the call has made to a slice of slices of its own. -/
namespace Go.Proofs.Ytilfjhnkjdfcoab
open Go.RowKit Go.WideShapes Go.ChangeShapes Go.ChangeAt

theorem made_from {b n c g : Nat} (h : (Value.slice (some ⟨b, 0, none⟩) n c).ownBlock = some g) : b ≤ g := by
  have : g = b := by simpa [Value.ownBlock] using h.symm
  omega
/-- what an append of one row leaves -/
theorem OwnR.pushed {w w' : World} {lo hi : Nat} {v v' u : Value} {rows : List (List Int)} {r : List Int} {vs : List Value} {o : Obj}
    (h1 : w.ownsRow lo 22 1 v rows.length vs)
    (h3 : ∀ (i : Nat) (r : List Int), rows[i]? = some r → ∃ u : Value, vs[i]? = some u ∧ OwnI w lo u r ∧ ∀ g, u.ownBlock = some g → g < hi)
    (h4 : ∀ (i j : Nat) (u u' : Value), i < j → vs[i]? = some u → vs[j]? = some u' → u.ownBlock = none ∨ u.ownBlock ≠ u'.ownBlock)
    (hhi : hi ≤ w.heap.size) (hu : OwnI w lo u r) (hub : ∀ g, u.ownBlock = some g → hi ≤ g)
    (g1 : w'.ownsRow lo 22 1 v' (rows.length + 1) (vs ++ [u])) (g2 : (w.alloc o).grownBy w' v.ownBlock) : OwnR w' lo w'.heap.size v' (rows ++ [r]) := by
  have hsz : w.heap.size + 1 ≤ w'.heap.size := by have := g2.size; simpa using this
  have hvsl : vs.length = rows.length := by have := h1.1; omega
  refine ⟨vs ++ [u], by rw [List.length_append]; exact g1, fun g hg => (World.ownsRow.lt g1 g hg).2, ?_, ?_⟩
  · intro i r' hr
    by_cases hi' : i < rows.length
    · rw [List.getElem?_append_left hi'] at hr
      obtain ⟨u', a1, a2, a3⟩ := h3 i r' hr
      have hk := a2.alloc o
      exact ⟨u', by rw [List.getElem?_append_left (by omega)]; exact a1, hk.other g2 (ne_types (h1.alloc o) hk), fun g hg => by have := a3 g hg; omega⟩
    · rw [List.getElem?_append_right (by omega)] at hr
      have hi2 : i = rows.length := by
        rcases Nat.eq_or_lt_of_le (Nat.le_of_not_lt hi') with e | e
        · exact e.symm
        · rw [show i - rows.length = (i - rows.length - 1) + 1 by omega] at hr; simp at hr
      subst hi2
      rw [Nat.sub_self] at hr
      simp at hr
      subst hr
      have hk := hu.alloc o
      exact ⟨u, by rw [← hvsl, List.getElem?_append_right (Nat.le_refl _), Nat.sub_self]; rfl, hk.other g2 (ne_types (h1.alloc o) hk), fun g hg => by have := (hu.lt g hg).2; omega⟩
  · intro i j x y hij hx hy
    by_cases hj : j < vs.length
    · rw [List.getElem?_append_left hj] at hy
      rw [List.getElem?_append_left (by omega)] at hx
      exact h4 i j x y hij hx hy
    · have hju : j = vs.length := by
        rw [List.getElem?_append_right (by omega)] at hy
        rcases Nat.eq_or_lt_of_le (Nat.le_of_not_lt hj) with e | e
        · exact e.symm
        · rw [show j - vs.length = (j - vs.length - 1) + 1 by omega] at hy; simp at hy
      subst hju
      rw [List.getElem?_append_right (Nat.le_refl _), Nat.sub_self] at hy
      simp at hy
      subst hy
      rw [List.getElem?_append_left hij] at hx
      obtain ⟨r', hr'⟩ : ∃ r', rows[i]? = some r' := ⟨_, List.getElem?_eq_getElem (by omega)⟩
      obtain ⟨u2, a1, _, a3⟩ := h3 i r' hr'
      rw [hx] at a1
      injection a1 with a1
      subst a1
      rcases hc : x.ownBlock with _ | g
      · exact .inl rfl
      · refine .inr fun e => ?_
        have p1 := a3 g hc
        have p2 := hub g e.symm
        omega

theorem wp_pushU {ops : Array Oper} {rest : List Oper} {o : Oper} {a : Act} {Q : Exit → Act → World → Prop} {w : World} (s x : Operand) (t : TypeId)
    (hgd : o.guard = none) (ho : o.op = .call { callee := .builtin .append, args := #[s, x], argTypes := #[t, t] })
    (ht : Try.prog.underlying t = some (.slice 22)) (lo hi : Nat) (v : Value) (rows : List (List Int)) (hs : a.eval s = v) (hown : OwnR w lo hi v rows) (hhi : hi ≤ w.heap.size)
    (u : Value) (r : List Int) (hu : OwnI w lo u r) (hub : ∀ g, u.ownBlock = some g → hi ≤ g) (G : Nat) (hG : w.heap.size = G) (hx : a.eval x = .slice (some ⟨G, 0, none⟩) 1 1) (hlen : rows.length ≤ 1000000000000) (hlo : lo ≤ w.heap.size)
    (h : ∀ v' w', OwnR w' lo w'.heap.size v' (rows ++ [r]) → Below lo w w' → wpList Try.prog ops Q rest (a.put o.dst v') w') :
    wpList Try.prog ops Q (o :: rest) a (w.alloc (.cells #[u] 22)) := by
  subst hG
  obtain ⟨i0, hi0, hz0, hz1, hz2⟩ := info_parts infoRow
  obtain ⟨vs, h1, h2, h3, h4⟩ := hown
  obtain ⟨Au, cu, hue, -⟩ := hu.form
  refine wpList_append_own _ hgd s x t ho lo 22 i0 (.slice none 0 0) 1 24 ht hi0 hz0 hz1 hz2 rfl (by decide) v rows.length vs hs (h1.alloc _)
    ⟨w.heap.size, 0, none⟩ 1 1 [u] hx rfl ?_ ?_ ?_ ?_ ?_ ?_
  · intro j u' hj
    match j, hj with
    | 0, hj => simp at hj; subst hj; simp [Addr.add]
  · intro u' hu'; simp at hu'; subst hu'; rw [hue]; rfl
  · unfold maxLen; omega
  · omega
  · simp; omega
  · intro v' w' g1 g2 _
    exact h v' w' (OwnR.pushed h1 h3 h4 hhi hu hub g1 g2) (((Below.refl lo w).alloc hlo _).grown g2 (by simp; omega) (fun k hk => (World.ownsRow.lt h1 k hk).1))

/-- the same at a step of a region that draws its order: the row's header lies in block g -/
theorem step_pushU {ops : Array Oper} {o : Oper} {a : Act} {K : Act → World → Prop} {Q : Exit → Act → World → Prop} {E : Prop} {w : World} (s x : Operand) (t : TypeId)
    (hgd : o.guard = none) (ho : o.op = .call { callee := .builtin .append, args := #[s, x], argTypes := #[t, t] })
    (ht : Try.prog.underlying t = some (.slice 22)) (lo hi : Nat) (v : Value) (rows : List (List Int)) (hs : a.eval s = v) (hown : OwnR w lo hi v rows) (hhi : hi ≤ w.heap.size)
    (u : Value) (r : List Int) (hu : OwnI w lo u r) (hub : ∀ g, u.ownBlock = some g → hi ≤ g) (g : Nat) (hx : a.eval x = .slice (some ⟨g, 0, none⟩) 1 1) (hy : w.cell? ⟨g, 0, none⟩ = some u) (hlen : rows.length ≤ 1000000000000) (hlo : lo ≤ w.heap.size)
    (h : ∀ v' w', OwnR w' lo w'.heap.size v' (rows ++ [r]) → Below lo w w' → K (a.put o.dst v') w') :
    if Region.wanted o (yielded ops a.tmps) = true then Oper.wp Try.prog o a w K Q else E := by
  have hw : Region.wanted o (yielded ops a.tmps) = true := by simp [Region.wanted, hgd]
  rw [if_pos hw]
  obtain ⟨i0, hi0, hz0, hz1, hz2⟩ := info_parts infoRow
  obtain ⟨vs, h1, h2, h3, h4⟩ := hown
  obtain ⟨Au, cu, hue, -⟩ := hu.form
  refine wp_append_own _ s x t ho lo 22 i0 (.slice none 0 0) 1 24 ht hi0 hz0 hz1 hz2 rfl (by decide) v rows.length vs hs h1
    ⟨g, 0, none⟩ 1 1 [u] hx rfl ?_ ?_ ?_ ?_ hlo ?_
  · intro j u' hj
    match j, hj with
    | 0, hj => simp at hj; subst hj; simp [Addr.add]; exact hy
  · intro u' hu'; simp at hu'; subst hu'; rw [hue]; rfl
  · unfold maxLen; omega
  · omega
  · intro v' w' g1 g2 _
    refine h v' w' ?_ ((Below.refl lo w).grown g2 hlo (fun k hk => (World.ownsRow.lt h1 k hk).1))
    have hsz := g2.size
    have hvsl : vs.length = rows.length := by have := h1.1; omega
    refine ⟨vs ++ [u], by rw [List.length_append]; exact g1, fun g hg => (World.ownsRow.lt g1 g hg).2, ?_, ?_⟩
    · intro i r' hr
      by_cases hi' : i < rows.length
      · rw [List.getElem?_append_left hi'] at hr
        obtain ⟨u', a1, a2, a3⟩ := h3 i r' hr
        exact ⟨u', by rw [List.getElem?_append_left (by omega)]; exact a1, a2.other g2 (ne_types h1 a2), fun g hg => by have := a3 g hg; omega⟩
      · rw [List.getElem?_append_right (by omega)] at hr
        have hi2 : i = rows.length := by
          rcases Nat.eq_or_lt_of_le (Nat.le_of_not_lt hi') with e | e
          · exact e.symm
          · rw [show i - rows.length = (i - rows.length - 1) + 1 by omega] at hr; simp at hr
        subst hi2
        rw [Nat.sub_self] at hr
        simp at hr
        subst hr
        exact ⟨u, by rw [← hvsl, List.getElem?_append_right (Nat.le_refl _), Nat.sub_self]; rfl, hu.other g2 (ne_types h1 hu), fun g hg => by have := (hu.lt g hg).2; omega⟩
    · intro i j x y hij hx hy
      by_cases hj : j < vs.length
      · rw [List.getElem?_append_left hj] at hy
        rw [List.getElem?_append_left (by omega)] at hx
        exact h4 i j x y hij hx hy
      · have hju : j = vs.length := by
          rw [List.getElem?_append_right (by omega)] at hy
          rcases Nat.eq_or_lt_of_le (Nat.le_of_not_lt hj) with e | e
          · exact e.symm
          · rw [show j - vs.length = (j - vs.length - 1) + 1 by omega] at hy; simp at hy
        subst hju
        rw [List.getElem?_append_right (Nat.le_refl _), Nat.sub_self] at hy
        simp at hy
        subst hy
        rw [List.getElem?_append_left hij] at hx
        obtain ⟨r', hr'⟩ : ∃ r', rows[i]? = some r' := ⟨_, List.getElem?_eq_getElem (by omega)⟩
        obtain ⟨u2, a1, _, a3⟩ := h3 i r' hr'
        rw [hx] at a1
        injection a1 with a1
        subst a1
        rcases hc : x.ownBlock with _ | g
        · exact .inl rfl
        · refine .inr fun e => ?_
          have p1 := a3 g hc
          have p2 := hub g e.symm
          omega
end Go.Proofs.Ytilfjhnkjdfcoab

/- Contracts of TurnPlane, of the program and of the model. -/
namespace Go.Proofs.Ytilfjhnkjdfcoab
open Go.RowKit Go.WideShapes Go.ChangeShapes Go.ChangeAt

set_option maxHeartbeats 1000000 in
set_option maxRecDepth 100000 in
theorem l03Zero_any (m : Int) (d : Nat) (w : World) (hd : d ≤ 1000) :
    Calls Try.prog 61 #[.int .i64 d] w fun e w' => ∃ v, e = .returned v ∧ OwnR w' w.heap.size w'.heap.size v (Pl.tab m d fun _ _ => 0) ∧ Below w.heap.size w w' := by
  have HM2 := Lib.hid (fun (n : Nat) (W : World) (hn : n ≤ 1001) => run_make_row' (P := Try.prog) 22 2 (.int .i64 0) 8 Try.underlying22 info64 rfl .i64 .i64 n (by omega) (by omega) W)
  go_enter Try.func61, Try.ntmps61
  go_wp2
  go_loopw [3, 4] (fun r i wr => ∃ k : Nat, k ≤ d + 1 ∧ i = .int .i64 k ∧ OwnR wr w.heap.size wr.heap.size r ((Pl.tab m d fun _ _ => 0).take k) ∧ Below w.heap.size w wr) (fun _ i _ => d + 1 - (intOf i).toNat)
  case atStart => exact ⟨0, Nat.zero_le _, rfl, by simpa using OwnR.none0 w, below_one _ _⟩
  case round =>
    obtain ⟨k, hk, rfl, hown, hbel⟩ := hrel
    have HB := Lib.hid hbel
    have HO := Lib.hid hown
    have hsz := hbel.size
    clear hbel
    by_cases hlt : k < d + 1
    · obtain ⟨N, hN⟩ : ∃ N, d - k + 1 = N := ⟨_, rfl⟩
      have hmk := fun W => HM2.out N W (by omega)
      have HN := Lib.hid hN
      have hlen : ((Pl.tab m d fun _ _ => 0).take k).length ≤ 1000000000000 := by rw [List.length_take, Pl.tab_length]; omega
      have hrow : Ser.cut m (d - k) (fun _ => 0) = List.replicate N 0 := by rw [Ser.cut_zero, hN]
      have hst : (Pl.tab m d fun _ _ => 0).take (k + 1) = (Pl.tab m d fun _ _ => 0).take k ++ [List.replicate N 0] := by rw [Pl.tab_take_succ m d _ k (by omega), hrow]
      have HST := Lib.hid hst
      have hd1 : (d : Int) - (k : Int) + 1 = (N : Int) := by omega
      have hkd : (k : Int) ≤ (d : Int) := by omega
      have hNm : N ≤ maxLen := by unfold maxLen; omega
      clear hst hrow hN hown
      go_wp2_with (at_builtin; refine wp_pushU _ _ _ (by rfl) (by rfl) Try.underlying33 w.heap.size wr.heap.size _ _ (by rfl) (HO.out.keep (below_one _ _)) (below_one wr _).size (.slice (some ⟨wr.heap.size, 0, none⟩) N N) (List.replicate N 0) ((OwnI.made wr N hNm).more hsz) (fun g hg => made_from hg) (wr.heap.size + 1) (by simp) (by rfl) hlen (Nat.le_trans hsz (below_one wr _).size) ?_; intro v' w1 ho1 hpb)
      have HO1 := Lib.hid ho1
      have HB1 := Lib.hid ((HB.out.trans ((below_one wr (.cells (madeCells #[.int .i64 0] N) 2)).mono hsz)).trans hpb)
      clear ho1 hpb
      go_wp2
      go_roundw
      case rel => exact ⟨k + 1, by omega, by go_num, by rw [HST.out]; exact HO1.out, HB1.out⟩
      case measure => simp only [intOf]; omega
    · obtain rfl : k = d + 1 := by omega
      have ho := HO.out
      rw [Pl.tab_take_all] at ho
      have HF := Lib.hid ho
      clear ho hown
      go_wp2
      go_ret
      exact ⟨_, rfl, HF.out, HB.out⟩
/-- what the model's exchange has written: all rows below i, and row i below j -/
def turF (t : List (List Int)) (i j : Nat) : Nat → Nat → Int := fun p q => if q < i ∨ (q = i ∧ p < j) then Pl.pc t q p else 0
theorem turF_zero (m : Int) (d : Nat) (t : List (List Int)) : Pl.tab m d (turF t 0 0) = Pl.tab m d fun _ _ => 0 := Pl.tab_congr (Pl.Eq.of m d (fun p q _ => by unfold turF; rw [if_neg (by omega)]))
theorem turF_next (m : Int) (d : Nat) (t : List (List Int)) (i N : Nat) (h : d - i + 1 ≤ N) : Pl.tab m d (turF t i N) = Pl.tab m d (turF t (i + 1) 0) :=
  Pl.tab_congr (Pl.Eq.of m d (fun p q hpq => by
    unfold turF
    by_cases h1 : q < i + 1
    · rw [if_pos (by omega), if_pos (by omega)]
    · rw [if_neg (by omega), if_neg (by omega)]))
theorem turF_end (m : Int) (d : Nat) (t : List (List Int)) : Pl.tab m d (turF t (d + 1) 0) = Pl.tab m d fun i j => Pl.pc t j i :=
  Pl.tab_congr (Pl.Eq.of m d (fun p q hpq => by unfold turF; rw [if_pos (by omega)]))
theorem turF_step {m : Int} {d : Nat} {t : List (List Int)} (hs : Pl.Ok m d t) (i j : Nat) (h : i + j ≤ d) :
    (Pl.tab m d (turF t i j)).set j ((Pl.rw' (Pl.tab m d (turF t i j)) j).set i (Pl.pc t i j)) = Pl.tab m d (turF t i (j + 1)) := by
  refine Pl.tab_put (by omega) ?_ (fun p q hpq hne => ?_)
  · unfold turF
    rw [if_pos (by omega), Int.emod_eq_of_lt (hs.pc i j).1 (hs.pc i j).2]
  · unfold turF
    by_cases h1 : q < i ∨ (q = i ∧ p < j)
    · rw [if_pos h1, if_pos (by omega)]
    · rw [if_neg h1, if_neg (by omega)]

set_option maxHeartbeats 2000000 in
set_option maxRecDepth 100000 in
theorem l03Turn_any (m : Int) (d : Nat) (A : Option Addr) (c : Nat) (t : List (List Int)) (w : World) (hs : Pl.Ok m d t) (hr : RP w A t) :
    Calls Try.prog 66 #[.slice A t.length c] w fun e w' => ∃ v, e = .returned v ∧ OwnR w' w.heap.size w'.heap.size v (Pl.tab m d fun i j => Pl.pc t j i) ∧ Below w.heap.size w w' := by
  have HR := Lib.hid hr
  have HS := Lib.hid hs
  have HD := Lib.hid hs.len
  have hd2 := hs.d2
  have HZ := Lib.hid (l03Zero_any m d w (by omega))
  obtain ⟨L, hL⟩ : ∃ L, t.length = L := ⟨_, rfl⟩
  have HL := Lib.hid hL
  have hLd : (L : Int) - 1 = (d : Int) := by have := hs.len; omega
  have hLb : L ≤ 11 := by have := hs.len; omega
  rw [hL]
  clear hr hs hL
  go_enter Try.func66, Try.ntmps66
  go_wp2_with fail
  refine HZ.out.mono ?_
  rintro e w1 ⟨v, rfl, ho, hb⟩
  rw [← turF_zero m d t] at ho
  obtain ⟨g, cv, rfl⟩ := ho.openv (by rw [Pl.tab_length]; omega)
  rw [Pl.tab_length] at ho ⊢
  have HO1 := Lib.hid ho
  have HB1 := Lib.hid hb
  clear ho hb
  go_wp2
  go_loopw [4] (fun i wr => ∃ k : Nat, k ≤ L ∧ i = .int .i64 k ∧ OwnR wr w.heap.size wr.heap.size (.slice (some ⟨g, 0, none⟩) (d + 1) cv) (Pl.tab m d (turF t k 0)) ∧ Below w.heap.size w wr) (fun i _ => L - (intOf i).toNat)
  case atStart => exact ⟨0, Nat.zero_le _, rfl, HO1.out, HB1.out⟩
  case round =>
    clear HO1 HB1
    obtain ⟨k, hk, rfl, hown, hbel⟩ := hrel
    have HB := Lib.hid hbel
    have HO := Lib.hid hown
    clear hown hbel
    by_cases hlt : k < L
    · obtain ⟨N, hN⟩ : ∃ N, d - k + 1 = N := ⟨_, rfl⟩
      have HN := Lib.hid hN
      have hN1 : N ≤ 11 := by omega
      have j0 : (0 : Int) ≤ (k : Int) := by omega
      have j1 : (k : Int) < (L : Int) := by omega
      clear hN
      go_wp2
      go_loopw [5] (fun i wr => ∃ j : Nat, j ≤ N ∧ i = .int .i64 j ∧ OwnR wr w.heap.size wr.heap.size (.slice (some ⟨g, 0, none⟩) (d + 1) cv) (Pl.tab m d (turF t k j)) ∧ Below w.heap.size w wr) (fun i _ => N - (intOf i).toNat)
      case atStart => exact ⟨0, Nat.zero_le _, rfl, HO.out, HB.out⟩
      case round =>
        clear HO HB
        obtain ⟨j, hj, rfl, hown, hbel⟩ := hrel
        have HB := Lib.hid hbel
        have HO := Lib.hid hown
        obtain ⟨bb, off, A', c', rfl, hbb, hc, -, hri⟩ := HR.out.at k (by have := HL.out; omega)
        have hck := (hbel.cell (p := ⟨bb, off + k, none⟩) hbb).trans hc
        rw [HS.out.row k (by omega), HN.out] at hck
        by_cases hjt : j < N
        · have hNk := HN.out
          obtain ⟨b2, off2, rfl, hb2, hc2⟩ := hri.at j (by rw [HS.out.row k (by omega)]; omega)
          have hc3 := (hbel.cell (p := ⟨b2, off2 + j, none⟩) hb2).trans hc2
          have hst := turF_step HS.out k j (by omega)
          change wr.cell? _ = some (.int .i64 (Pl.pc t k j)) at hc3
          obtain ⟨X, hX⟩ : ∃ X, Pl.pc t k j = X := ⟨_, rfl⟩
          rw [hX] at hc3 hst
          obtain ⟨b, c3, g1, g2, g3, g4, hcel⟩ := HO.out.numB j k (d - j + 1) (by rw [Pl.tab_length]; omega) (by rw [Pl.tab_row m d _ j (by omega), Ser.cut_length]) (by omega)
          obtain ⟨c4, c5, c6, c7⟩ := hcel wr (Below.refl _ _)
          have h8 := c7 X
          rw [hst] at h8
          obtain ⟨M, hM⟩ : ∃ M, d - j + 1 = M := ⟨_, rfl⟩
          rw [hM] at c4
          have HO2 := Lib.hid (h8.more (show wr.heap.size ≤ (wr.setCell ⟨b, k, none⟩ (.int .i64 X)).heap.size by simp [World.setCell]))
          have HB2 := Lib.hid (hbel.setCell (p := ⟨b, k, none⟩) g2 (.int .i64 X))
          have i0 : (0 : Int) ≤ (j : Int) := by omega
          have i1 : (j : Int) < (N : Int) := by omega
          have i2 : (j : Int) < (d : Int) + 1 := by omega
          have i3 : (k : Int) < (M : Int) := by omega
          clear hNk hc2 hX hst hcel c7 h8 hM hown hbel hri hc
          go_wp2
          go_roundw
          case rel => exact ⟨j + 1, by omega, by go_num, HO2.out, HB2.out⟩
          case measure => simp only [intOf]; omega
        · obtain rfl : j = N := by omega
          have ho := HO.out
          rw [turF_next m d t k j (by have := HN.out; omega)] at ho
          have HO2 := Lib.hid ho
          clear ho hown hbel hri hc HO
          go_wp2
          go_roundw
          case rel => exact ⟨k + 1, by omega, by go_num, HO2.out, HB.out⟩
          case measure => simp only [intOf]; omega
    · obtain rfl : k = d + 1 := by omega
      have ho := HO.out
      rw [turF_end] at ho
      have HF := Lib.hid ho
      clear ho
      go_wp2
      go_ret
      exact ⟨_, rfl, HF.out, HB.out⟩
def turP := oneP fun m d t => Pl.tab m d fun i j => Pl.pc t j i
theorem turP_len (m : Int) (t : List (List Int)) : szT (turP m t).2.1 ≤ 1048576 := oneP_len _ m t (fun _ h => szT_ok (h.tab _))
end Go.Proofs.Ytilfjhnkjdfcoab

