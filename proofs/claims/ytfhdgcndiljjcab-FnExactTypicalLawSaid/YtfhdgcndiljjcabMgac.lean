/- Texts of contracts, joined. -/
import Derived.Test.YtfhdgcndiljjcabMgab
import Derived.Test.YtfhdgcndiljjcabMgaa
import Derived.StillTailTactics
/- Contracts of monomials, multiples and products of series, of the program. -/
namespace Go.Proofs.Ytfhdgcndiljjcab
open Go.RowKit Go.WideShapes Go.ChangeShapes Go.ChangeAt

/-- a block of one number -/
def Cel (w : World) (g : Nat) (x : Int) : Prop := w.cell? ⟨g, 0, none⟩ = some (.int .i64 x) ∧ g < w.heap.size
theorem Cel.new (w : World) (x : Int) : Cel (w.alloc (.cells #[.int .i64 x] 2)) w.heap.size x := by
  refine ⟨?_, by simp⟩
  rw [World.cell?_alloc_at _ _ _ _ rfl]; rfl
theorem Cel.keep {w w' : World} {g : Nat} {x : Int} (h : Cel w g x) (hb : Below w.heap.size w w') : Cel w' g x :=
  ⟨(hb.cell (p := ⟨g, 0, none⟩) h.2).trans h.1, Nat.lt_of_lt_of_le h.2 hb.size⟩

theorem monoC_any (n k : Nat) (g g' : Nat) (c : Int) (W : World) (h1 : Cel W g k) (h2 : Cel W g' c) :
    Calls Try.prog 73 #[.int .i64 n, .pointer (some ⟨g, 0, none⟩), .pointer (some ⟨g', 0, none⟩)] W fun e w' => e = .returned (.int .i64 (Ser.mon k c n)) ∧ Below W.heap.size W w' := by
  obtain ⟨x1, _⟩ := h1
  obtain ⟨x2, _⟩ := h2
  by_cases h : n = k
  · subst h
    have HE := Lib.hid (show Ser.mon n c n = c by unfold Ser.mon; rw [if_pos rfl])
    go_enter Try.func73, Try.ntmps73
    go_wp2
    go_ret
    exact ⟨ret_int HE.out.symm, Below.refl _ _⟩
  · have HE := Lib.hid (show Ser.mon k c n = 0 by unfold Ser.mon; rw [if_neg h])
    have hn : ¬ (n : Int) = (k : Int) := by omega
    obtain ⟨n1, n2⟩ : ((n : Int) == (k : Int)) = false ∧ ((n : Int) != (k : Int)) = true := ⟨by simpa using hn, by simpa using hn⟩
    clear h
    go_enter Try.func73, Try.ntmps73
    go_wp2
    go_ret
    exact ⟨ret_int HE.out.symm, Below.refl _ _⟩

theorem mon_bd (k : Nat) (c lo hi : Int) (h1 : lo ≤ 0) (h2 : 0 ≤ hi) (h3 : lo ≤ c) (h4 : c ≤ hi) (n : Nat) : lo ≤ Ser.mon k c n ∧ Ser.mon k c n ≤ hi := by
  unfold Ser.mon; split <;> omega

set_option maxHeartbeats 2000000 in
theorem monomial_any (m : Int) (d k : Nat) (c : Int) (w : World) (h1 : 1 ≤ m) (h2 : m ≤ 10000) (hd : d ≤ 1000) (h3 : -1000000 ≤ c) (h4 : c ≤ 1000000) :
    Calls Try.prog 55 #[.int .i64 m, .int .i64 d, .int .i64 k, .int .i64 c] w fun e w' => ∃ v, e = .returned (.agg #[.int .i64 m, v]) ∧ OwnI w' w.heap.size v (Ser.cut m d (Ser.mon k c)) ∧ Below w.heap.size w w' := by
  obtain ⟨W, hW⟩ : ∃ W, ((w.alloc (.cells #[.int .i64 k] 2)).alloc (.cells #[.int .i64 c] 2)).alloc (.cells #[.int .i64 0, .slice none 0 0] 62) = W := ⟨_, rfl⟩
  have hwb : Below w.heap.size w W := by rw [← hW]; exact below_alloc _ (below_alloc _ (below_one _ _))
  have b1 : Cel W w.heap.size k := by rw [← hW]; exact ((Cel.new w k).keep (below_one _ _)).keep (below_one _ _)
  have b2 : Cel W (w.heap.size + 1) c := by
    rw [← hW]
    have := (Cel.new (w.alloc (.cells #[.int .i64 k] 2)) c).keep (below_one _ (.cells #[.int .i64 0, .slice none 0 0] 62))
    simpa using this
  have v3 : Var2 W (w.heap.size + 1 + 1) (.int .i64 0) (.slice none 0 0) := by
    rw [← hW]
    have := Var2.new ((w.alloc (.cells #[.int .i64 k] 2)).alloc (.cells #[.int .i64 c] 2)) (.int .i64 0) (.slice none 0 0)
    simpa using this
  have V3 := Lib.hid v3
  have HB := Lib.hid hwb
  have HW := Lib.hid hW
  have HS := Lib.hid (seriesOf_any m d 73 #[.pointer (some ⟨w.heap.size, 0, none⟩), .pointer (some ⟨w.heap.size + 1, 0, none⟩)] (Ser.mon k c) W h1 h2 hd
    (fun n _ => mon_bd k c _ _ (by omega) (by omega) (by omega) (by omega) n)
    (enters_fn Try.func73 (of_decide_eq_true (by kernel_rfl)) rfl)
    (fun n W1 hn hb => monoC_any n k _ _ c W1 (b1.keep hb) (b2.keep hb)))
  obtain ⟨L, hL⟩ : ∃ L, Ser.cut m d (Ser.mon k c) = L := ⟨_, rfl⟩
  rw [hL] at HS ⊢
  clear b1 b2 v3 hwb hW hL
  go_enter Try.func55, Try.ntmps55
  go_wp2_with fail
  rw [HW.out]
  refine HS.out.mono ?_
  rintro e w2 ⟨v, rfl, ho, hb⟩
  obtain ⟨A2, c2, rfl, _⟩ := ho.form
  have hv := V3.out.keep hb
  have q0 := hv.c0
  have q1 := hv.c1
  have q2 := hv.fz 0
  have q3 := hv.fz 1
  obtain ⟨f0, f1, f2, f3⟩ := fin_var (w := w) hv ho (by have := V3.out.lt; omega) (by omega) (below_step HB.out hb) (.int .i64 m) (.slice A2 L.length c2)
  have F2 := Lib.hid f2
  have F3 := Lib.hid f3
  clear f2 f3 hv ho hb
  go_wp2
  exact bodyPost_ret (v := .agg #[.int .i64 m, .slice A2 L.length c2]) (by simp [results, Try.results55, go_sem, f0, f1]) rfl ⟨_, rfl, F2.out, F3.out⟩

theorem mul_bd {x y : Int} (h1 : 0 ≤ x) (h2 : x ≤ 10000) (h3 : -10000 ≤ y) (h4 : y ≤ 10000) : -100000000 ≤ x * y ∧ x * y ≤ 100000000 := by
  constructor
  · have := Int.mul_le_mul_of_nonneg_left (c := x) h3 h1
    have e : x * -10000 = -(x * 10000) := Int.mul_neg _ _
    omega
  · have := Int.mul_le_mul_of_nonneg_left (c := x) h4 h1
    omega
set_option maxHeartbeats 1000000 in
theorem scaledC_any (n : Nat) (g g' : Nat) (m : Int) (A : Option Addr) (c : Nat) (l : List Int) (k : Int) (W : World)
    (hb : Box W g m A l.length c) (hb' : Cel W g' k) (hr : RI W A l) (h1 : n < l.length) (h3 : 0 ≤ Ser.co l n) (h4 : Ser.co l n ≤ 10000) (h5 : -10000 ≤ k) (h6 : k ≤ 10000) :
    Calls Try.prog 75 #[.int .i64 n, .pointer (some ⟨g, 0, none⟩), .pointer (some ⟨g', 0, none⟩)] W fun e w' => e = .returned (.int .i64 (Ser.co l n * k)) ∧ Below W.heap.size W w' := by
  obtain ⟨b, off, rfl, hlt, hc⟩ := hr.at n h1
  obtain ⟨x1, x2, _⟩ := hb
  obtain ⟨y1, _⟩ := hb'
  obtain ⟨X, hX⟩ : ∃ X, Ser.co l n = X := ⟨_, rfl⟩
  rw [hX] at hc h3 h4 ⊢
  obtain ⟨p1, p2⟩ := mul_bd h3 h4 h5 h6
  have j1 : (0 : Int) ≤ (n : Int) := by omega
  have j2 : (n : Int) < (l.length : Int) := by omega
  clear hr hX
  go_enter Try.func75, Try.ntmps75
  go_wp2
  go_quiet (fail)
  go_wp2
  go_ret
  exact ⟨rfl, below_drewN (Below.refl _ _) _⟩

def scaL (m : Int) (d : Nat) (l : List Int) (k : Int) : List Int := Ser.cut m d fun n => Ser.co l n * k
set_option maxHeartbeats 2000000 in
set_option maxRecDepth 100000 in
theorem scaled_any (m : Int) (d : Nat) (A : Option Addr) (c : Nat) (l : List Int) (k : Int) (w : World) (hs : SerOk m d l) (hr : RI w A l) (h5 : -10000 ≤ k) (h6 : k ≤ 10000) :
    Calls Try.prog 56 #[.agg #[.int .i64 m, .slice A l.length c], .int .i64 k] w fun e w' => ∃ v, e = .returned (.agg #[.int .i64 m, v]) ∧ OwnI w' w.heap.size v (scaL m d l k) ∧ Below w.heap.size w w' := by
  obtain ⟨W, hW⟩ : ∃ W, (((w.alloc (.cells #[.int .i64 m, .slice A l.length c] 62)).alloc (.cells #[.int .i64 k] 2)).alloc (.cells #[.int .i64 0, .slice none 0 0] 62)) = W := ⟨_, rfl⟩
  have hwb : Below w.heap.size w W := by rw [← hW]; exact below_alloc _ (below_alloc _ (below_one _ _))
  have b1 : Box W w.heap.size m A l.length c := by rw [← hW]; exact ((Box.new w m A l.length c).keep (below_one _ _)).keep (below_one _ _)
  have b2 : Cel W (w.heap.size + 1) k := by
    rw [← hW]
    have := (Cel.new (w.alloc (.cells #[.int .i64 m, .slice A l.length c] 62)) k).keep (below_one _ (.cells #[.int .i64 0, .slice none 0 0] 62))
    simpa using this
  have v3 : Var2 W (w.heap.size + 1 + 1) (.int .i64 0) (.slice none 0 0) := by
    rw [← hW]
    have := Var2.new ((w.alloc (.cells #[.int .i64 m, .slice A l.length c] 62)).alloc (.cells #[.int .i64 k] 2)) (.int .i64 0) (.slice none 0 0)
    simpa using this
  have B1 := Lib.hid b1
  have B2 := Lib.hid b2
  have V3 := Lib.hid v3
  have HB := Lib.hid hwb
  have HW := Lib.hid hW
  have R1 := Lib.hid (hr.below hwb)
  have HS := Lib.hid (fun W0 (h0 : Below W.heap.size W W0) => seriesOf_any m d 75 #[.pointer (some ⟨w.heap.size, 0, none⟩), .pointer (some ⟨w.heap.size + 1, 0, none⟩)] (fun n => Ser.co l n * k) W0 (by have := hs.m1; omega) hs.m2 (by have := hs.d2; omega)
    (fun n _ => by have h1 := hs.red n; have h3 := hs.m2; have := mul_bd h1.1 (by omega) h5 h6; omega)
    (enters_fn Try.func75 (of_decide_eq_true (by kernel_rfl)) rfl)
    (fun n W1 hn hb => by
      have h1 := hs.red n
      have h3 := hs.m2
      have hb2 := h0.trans (hb.mono h0.size)
      exact scaledC_any n _ _ m A c l k W1 (B1.out.keep hb2) (B2.out.keep hb2) (R1.out.below hb2) (by rw [hs.len]; omega) (by omega) (by omega) h5 h6))
  have HL := Lib.hid hs.len
  have HD := Lib.hid hs.d2
  obtain ⟨L, hLL⟩ : ∃ L, scaL m d l k = L := ⟨_, rfl⟩
  unfold scaL at hLL ⊢
  rw [hLL] at HS ⊢
  clear b1 b2 v3 hwb hW hr hs hLL
  go_enter Try.func56, Try.ntmps56
  go_wp2
  rw [HW.out]
  obtain ⟨x1, x2, x3⟩ := B1.out
  go_region_held3 (fun w' => w'.cell? ⟨w.heap.size, 0, none⟩ = some (.int .i64 m) ∧ w'.cell? ⟨w.heap.size, 1, none⟩ = some (.slice A l.length c) ∧ w.heap.size < w'.heap.size) (first | exact ⟨x1, x2, x3⟩ | exact box_store (by omega) (by assumption) | exact box_call (by assumption) (by assumption)) (first
    | (go_at_call 74; refine (degree_nat _ _ _ _ d _ HL.out (by have := HD.out; omega)).mono ?_; rintro e1 w1 ⟨rfl, hb1⟩)
    | (go_at_call 72; refine (HS.out _ ((below_drew0 W).trans hb1)).mono ?_; rintro e2 w2 ⟨v, rfl, ho2, hb2⟩; obtain ⟨A2, c2, rfl, _⟩ := ho2.form; have hv := V3.out.keep (((below_drew0 W).trans hb1).trans (hb2.mono ((below_drew0 W).trans hb1).size)); have q0 := hv.c0; have q1 := hv.c1; have q2 := hv.fz 0; have q3 := hv.fz 1))
  all_goals
    have hz := ((below_drew0 W).trans hb1).size
    have hg := x3
    have hw2 : Below w.heap.size w w2 := (HB.out.trans (((below_drew0 W).trans hb1).mono HB.out.size)).trans (hb2.mono (by have := HB.out.size; omega))
    obtain ⟨f0, f1, f2, f3⟩ := fin_var (w := w) hv ho2 (by have := V3.out.lt; omega) (by omega) hw2 (.int .i64 m) (.slice A2 L.length c2)
    have F2 := Lib.hid f2
    have F3 := Lib.hid f3
    clear f2 f3 hw2 ho2 hb2 hb1
    go_wp2
    refine bodyPost_ret (v := .agg #[.int .i64 m, .slice A2 L.length c2]) (by simp [results, Try.results56, go_sem, f0, f1]) rfl ⟨_, rfl, F2.out, F3.out⟩

/-! products -/
set_option maxHeartbeats 4000000 in
theorem productAt_any (m : Int) (d n : Nat) (A : Option Addr) (c : Nat) (l : List Int) (m' : Int) (A' : Option Addr) (c' : Nat) (l' : List Int) (w : World) (hs : SerOk m d l) (hs' : SerOk m d l') (hr : RI w A l) (hr' : RI w A' l') (hn : n ≤ d) :
    Calls Try.prog 92 #[.agg #[.int .i64 m, .slice A l.length c], .agg #[.int .i64 m', .slice A' l'.length c'], .int .i64 n] w fun e w' => e = .returned (.int .i64 (Ser.cv n (Ser.co l) (Ser.co l'))) ∧ Below w.heap.size w w' := by
  obtain ⟨W, hW⟩ : ∃ W, (w.alloc (.cells #[.int .i64 m, .slice A l.length c] 62)).alloc (.cells #[.int .i64 m', .slice A' l'.length c'] 62) = W := ⟨_, rfl⟩
  obtain ⟨b1, b2, hwb⟩ := box2_new w m m' A A' l.length c l'.length c' W hW
  obtain ⟨x1, x2, _⟩ := b1
  obtain ⟨y1, y2, _⟩ := b2
  have HB := Lib.hid hwb
  have HW := Lib.hid hW
  have R1 := Lib.hid (hr.below hwb)
  have R2 := Lib.hid (hr'.below hwb)
  have HS := Lib.hid hs
  have HS' := Lib.hid hs'
  have HD := hs.d2
  obtain ⟨f, hf⟩ : ∃ f, f = fun i => Ser.co l i * Ser.co l' (n - i) := ⟨_, rfl⟩
  have HE := Lib.hid (show Ser.cv n (Ser.co l) (Ser.co l') = Ser.psum f (n + 1) by rw [hf]; exact Ser.cv_psum _ _ _)
  have HF := Lib.hid hf
  clear hwb hW hr hr' hs hs' hf
  go_enter Try.func92, Try.ntmps92
  go_wp2
  rw [HW.out]
  go_loopw [7, 8, 11] (fun s _ i wr => ∃ k : Nat, k ≤ n + 1 ∧ i = .int .i64 k ∧ s = .int .i64 (Ser.psum f k) ∧ 0 ≤ Ser.psum f k ∧ Ser.psum f k ≤ k * 100000000 ∧ ∃ q, wr = W.drewN q) (fun _ _ i _ => n + 1 - (intOf i).toNat)
  case atStart => exact ⟨0, Nat.zero_le _, rfl, rfl, Int.le_refl _, Int.le_refl _, 0, rfl⟩
  case round =>
    obtain ⟨k, hk, rfl, rfl, z1, z2, q, rfl⟩ := hrel
    by_cases hlt : k < n + 1
    · obtain ⟨b, off, rfl, hb, hc⟩ := R1.out.at k (by have := HS.out.len; omega)
      obtain ⟨b', off', rfl, hb', hc'⟩ := R2.out.at (n - k) (by have := HS'.out.len; omega)
      have r1 := HS.out.red k
      have r2 := HS'.out.red (n - k)
      have m2 := HS.out.m2
      have hst : Ser.psum f (k + 1) = Ser.psum f k + Ser.co l k * Ser.co l' (n - k) := by rw [Ser.psum, HF.out]
      obtain ⟨X, hX⟩ : ∃ X, Ser.co l k = X := ⟨_, rfl⟩
      obtain ⟨Y, hY⟩ : ∃ Y, Ser.co l' (n - k) = Y := ⟨_, rfl⟩
      obtain ⟨P, hP⟩ : ∃ P, Ser.psum f k = P := ⟨_, rfl⟩
      rw [hX] at hc r1 hst
      rw [hY] at hc' r2 hst
      rw [hP] at z1 z2 hst
      obtain ⟨p1, p2⟩ := mul_bd (x := X) (y := Y) r1.1 (by omega) (by omega) (by omega)
      have p3 : 0 ≤ X * Y := Int.mul_nonneg r1.1 r2.1
      have l1 := HS.out.len
      have l2 := HS'.out.len
      have j0 : (0 : Int) ≤ (k : Int) := by omega
      have j1 : (k : Int) < (l.length : Int) := by omega
      have j3 : (0 : Int) ≤ (n : Int) - (k : Int) := by omega
      have j4 : (n : Int) - (k : Int) < (l'.length : Int) := by omega
      have j5 : ((n : Int) - (k : Int)).toNat = n - k := by omega
      have HST := Lib.hid hst
      have HP := Lib.hid hP
      clear hX hY hP hst l1 l2
      rw [HP.out]
      go_wp2
      go_quiet (fail)
      go_wp2
      go_roundw
      case rel => exact ⟨k + 1, by omega, by go_num, by rw [HST.out], by rw [HST.out]; omega, by rw [HST.out]; omega, _, rfl⟩
      case measure => simp only [intOf]; omega
    · obtain rfl : k = n + 1 := by omega
      go_wp2
      go_ret
      exact ⟨ret_int HE.out.symm, below_drewN HB.out _⟩
end Go.Proofs.Ytfhdgcndiljjcab

/- Contracts of sums and multiples of grids. -/
namespace Go.Proofs.Ytfhdgcndiljjcab
open Go.RowKit Go.WideShapes Go.ChangeShapes Go.ChangeAt

theorem RP.some {w : World} {A : Option Addr} {t : List (List Int)} (h : RP w A t) (ht : 0 < t.length) : ∃ b off, A = some ⟨b, off, none⟩ := by
  obtain ⟨b, off, _, _, e, _⟩ := h.at 0 ht
  exact ⟨b, off, e⟩
/-- one number of a grid: what the walk reads -/
theorem GBox.num {W : World} {g : Nat} {m : Int} {d b off c : Nat} {t : List (List Int)} (hb : GBox W g m d (some ⟨b, off, none⟩) t.length c) (hs : Pl.Ok m d t) (hr : RP W (some ⟨b, off, none⟩) t) (i j : Nat) (hij : i + j ≤ d) :
    ∃ b' off' c' L N, L = d + 1 ∧ N = d - i + 1 ∧ W.cell? ⟨g, 2, none⟩ = some (.slice (some ⟨b, off, none⟩) L c) ∧ W.cell? ⟨b, off + i, none⟩ = some (.slice (some ⟨b', off', none⟩) N c') ∧ W.cell? ⟨b', off' + j, none⟩ = some (.int .i64 (Pl.pc t i j)) := by
  obtain ⟨_, _, x2, _⟩ := hb
  obtain ⟨b0, off0, b', off', c', e, -, k1, -, k2⟩ := hr.num i j (by rw [hs.len]; omega) (by rw [hs.row i (by omega)]; omega)
  injection e with e
  injection e with e1 e2
  subst e1 e2
  exact ⟨b', off', c', t.length, _, hs.len, hs.row i (by omega), x2, k1, k2⟩
set_option maxHeartbeats 1000000 in
theorem gplusC_any (i j g g' : Nat) (m : Int) (d : Nat) (A : Option Addr) (c : Nat) (t : List (List Int)) (A' : Option Addr) (c' : Nat) (t' : List (List Int)) (W : World) (hb : GBox W g m d A t.length c) (hb' : GBox W g' m d A' t'.length c') (hs : Pl.Ok m d t) (hs' : Pl.Ok m d t') (hr : RP W A t) (hr' : RP W A' t') (hij : i + j ≤ d) :
    Calls Try.prog 83 #[.int .i64 i, .int .i64 j, .pointer (some ⟨g, 0, none⟩), .pointer (some ⟨g', 0, none⟩)] W fun e w' => e = .returned (.int .i64 (Pl.pc t i j + Pl.pc t' i j)) ∧ Below W.heap.size W w' := by
  obtain ⟨b, off, rfl⟩ := hr.some (by rw [hs.len]; omega)
  obtain ⟨b', off', rfl⟩ := hr'.some (by rw [hs'.len]; omega)
  obtain ⟨p1, p2, p3, L, N, hL, hN, x1, x2, x3⟩ := hb.num hs hr i j hij
  obtain ⟨q1, q2, q3, L', N', hL', hN', y1, y2, y3⟩ := hb'.num hs' hr' i j hij
  have r1 := hs.pc i j
  have r2 := hs'.pc i j
  have hm := hs.m2
  obtain ⟨X, hX⟩ : ∃ X, Pl.pc t i j = X := ⟨_, rfl⟩
  obtain ⟨Y, hY⟩ : ∃ Y, Pl.pc t' i j = Y := ⟨_, rfl⟩
  rw [hX] at x3 r1 ⊢
  rw [hY] at y3 r2 ⊢
  obtain ⟨r1, r3⟩ := r1
  obtain ⟨r2, r4⟩ := r2
  have j1 : (0 : Int) ≤ (i : Int) := by omega
  have j2 : (i : Int) < (L : Int) := by omega
  have j3 : (0 : Int) ≤ (j : Int) := by omega
  have j4 : (j : Int) < (N : Int) := by omega
  have j5 : (i : Int) < (L' : Int) := by omega
  have j6 : (j : Int) < (N' : Int) := by omega
  clear hb hb' hr hr' hs hs' hX hY hL hN hL' hN'
  go_enter Try.func83, Try.ntmps83
  go_wp2
  go_quiet (fail)
  go_wp2
  go_ret
  exact ⟨rfl, below_drewN (Below.refl _ _) _⟩
set_option maxHeartbeats 2000000 in
set_option maxRecDepth 100000 in
theorem gplus_any (m : Int) (d : Nat) (A : Option Addr) (c : Nat) (t : List (List Int)) (A' : Option Addr) (c' : Nat) (t' : List (List Int)) (w : World) (hs : Pl.Ok m d t) (hs' : Pl.Ok m d t') (hr : RP w A t) (hr' : RP w A' t') :
    Calls Try.prog 62 #[.agg #[.int .i64 m, .int .i64 d, .slice A t.length c], .agg #[.int .i64 m, .int .i64 d, .slice A' t'.length c']] w fun e w' => ∃ v, e = .returned (.agg #[.int .i64 m, .int .i64 d, v]) ∧ OwnR w' w.heap.size w'.heap.size v (Pl.tab m d (fun i j => Pl.pc t i j + Pl.pc t' i j)) ∧ Below w.heap.size w w' := by
  obtain ⟨W, hW, b1, b2, v3, hwb⟩ := gpro2 w m d A t.length c m d A' t'.length c'
  have HS := Lib.hid (filled_any m d 83 #[.pointer (some ⟨w.heap.size, 0, none⟩), .pointer (some ⟨w.heap.size + 1, 0, none⟩)] (fun i j => Pl.pc t i j + Pl.pc t' i j) W (by have := hs.m1; omega) hs.m2 (by have := hs.d2; omega)
    (fun i j hij => by have := hs.pc i j; have := hs'.pc i j; have := hs.m2; omega) (enters_fn Try.func83 (of_decide_eq_true (by kernel_rfl)) rfl)
    (fun i j W1 hij hb => gplusC_any i j _ _ m d A c t A' c' t' W1 (b1.keep hb) (b2.keep hb) hs hs' ((hr.below hwb).below hb) ((hr'.below hwb).below hb) hij))
  have HB := Lib.hid hwb
  have HW := Lib.hid hW
  have V3 := Lib.hid v3
  obtain ⟨T, hT⟩ : ∃ T, Pl.tab m d (fun i j => Pl.pc t i j + Pl.pc t' i j) = T := ⟨_, rfl⟩
  rw [hT] at HS ⊢
  clear b1 b2 v3 hwb hW hr hr' hs hs' hT
  go_enter Try.func62, Try.ntmps62
  go_wp2_with fail
  rw [HW.out]
  refine HS.out.mono ?_
  rintro e w2 ⟨v, rfl, ho, hb⟩
  obtain ⟨A2, c2, rfl, -⟩ := ho.len
  have hv := V3.out.keep hb
  obtain ⟨q0, q1, q2, q3, q4, q5⟩ := hv.tells3
  obtain ⟨f0, f1, f2, f3, f4⟩ := fin_grid (w := w) hv ho (by have := V3.out.lt; omega) (by omega) (Nat.le_refl _) (below_step HB.out hb) (.int .i64 m) (.int .i64 d) (.slice A2 T.length c2)
  have F3 := Lib.hid (f3.low (show w.heap.size ≤ W.heap.size from HB.out.size))
  have F4 := Lib.hid f4
  unfold set3 at f0 f1 f2
  clear f3 f4 ho hv hb
  go_wp2
  exact bodyPost_ret (v := .agg #[.int .i64 m, .int .i64 d, .slice A2 T.length c2]) (by simp [results, Try.results62, go_sem, f0, f1, f2]) rfl ⟨_, rfl, F3.out, F4.out⟩
theorem pc_mul_bd {m : Int} {d : Nat} {t : List (List Int)} (hs : Pl.Ok m d t) (i j : Nat) {k : Int} (h1 : -10000 ≤ k) (h2 : k ≤ 10000) : -100000000 ≤ Pl.pc t i j * k ∧ Pl.pc t i j * k ≤ 100000000 := by
  have := hs.pc i j
  have := hs.m2
  exact mul_bd (by omega) (by omega) h1 h2
set_option maxHeartbeats 1000000 in
theorem gscaledC_any (i j g g' : Nat) (m : Int) (d : Nat) (A : Option Addr) (c : Nat) (t : List (List Int)) (k : Int) (W : World) (hb : GBox W g m d A t.length c) (hb' : Cel W g' k) (hs : Pl.Ok m d t) (hr : RP W A t) (hij : i + j ≤ d) (h5 : -10000 ≤ k) (h6 : k ≤ 10000) :
    Calls Try.prog 110 #[.int .i64 i, .int .i64 j, .pointer (some ⟨g, 0, none⟩), .pointer (some ⟨g', 0, none⟩)] W fun e w' => e = .returned (.int .i64 (Pl.pc t i j * k)) ∧ Below W.heap.size W w' := by
  obtain ⟨b, off, rfl⟩ := hr.some (by rw [hs.len]; omega)
  obtain ⟨p1, p2, p3, L, N, hL, hN, x1, x2, x3⟩ := hb.num hs hr i j hij
  obtain ⟨y1, _⟩ := hb'
  have hp := pc_mul_bd hs i j h5 h6
  obtain ⟨X, hX⟩ : ∃ X, Pl.pc t i j = X := ⟨_, rfl⟩
  rw [hX] at x3 hp ⊢
  obtain ⟨r1, r3⟩ := hp
  have j1 : (0 : Int) ≤ (i : Int) := by omega
  have j2 : (i : Int) < (L : Int) := by omega
  have j3 : (0 : Int) ≤ (j : Int) := by omega
  have j4 : (j : Int) < (N : Int) := by omega
  clear hb hr hs hX hL hN
  go_enter Try.func110, Try.ntmps110
  go_wp2
  go_quiet (fail)
  go_wp2
  go_ret
  exact ⟨rfl, below_drewN (Below.refl _ _) _⟩
set_option maxHeartbeats 2000000 in
set_option maxRecDepth 100000 in
theorem gscaled_any (m : Int) (d : Nat) (A : Option Addr) (c : Nat) (t : List (List Int)) (k : Int) (w : World) (hs : Pl.Ok m d t) (hr : RP w A t) (h5 : -10000 ≤ k) (h6 : k ≤ 10000) :
    Calls Try.prog 109 #[.agg #[.int .i64 m, .int .i64 d, .slice A t.length c], .int .i64 k] w fun e w' => ∃ v, e = .returned (.agg #[.int .i64 m, .int .i64 d, v]) ∧ OwnR w' w.heap.size w'.heap.size v (Pl.tab m d fun i j => Pl.pc t i j * k) ∧ Below w.heap.size w w' := by
  obtain ⟨W, hW⟩ : ∃ W, ((w.alloc (.cells #[.int .i64 m, .int .i64 d, .slice A t.length c] 43)).alloc (.cells #[.int .i64 k] 2)).alloc (.cells #[.int .i64 0, .int .i64 0, .slice none 0 0] 43) = W := ⟨_, rfl⟩
  have hwb : Below w.heap.size w W := by rw [← hW]; exact below_alloc _ (below_alloc _ (below_one _ _))
  have b1 : GBox W w.heap.size m d A t.length c := by rw [← hW]; exact ((GBox.new _ _ _ _ _ _ _).keep (below_one _ _)).keep (below_one _ _)
  have b2 : Cel W (w.heap.size + 1) k := by
    rw [← hW]
    have := (Cel.new (w.alloc (.cells #[.int .i64 m, .int .i64 d, .slice A t.length c] 43)) k).keep (below_one _ (.cells #[.int .i64 0, .int .i64 0, .slice none 0 0] 43))
    simpa using this
  have v3 : VarC 43 W (w.heap.size + 1 + 1) #[.int .i64 0, .int .i64 0, .slice none 0 0] := by
    rw [← hW]
    have := VarC.new 43 ((w.alloc (.cells #[.int .i64 m, .int .i64 d, .slice A t.length c] 43)).alloc (.cells #[.int .i64 k] 2)) #[.int .i64 0, .int .i64 0, .slice none 0 0]
    simpa using this
  have HS := Lib.hid (filled_any m d 110 #[.pointer (some ⟨w.heap.size, 0, none⟩), .pointer (some ⟨w.heap.size + 1, 0, none⟩)] (fun i j => Pl.pc t i j * k) W (by have := hs.m1; omega) hs.m2 (by have := hs.d2; omega)
    (fun i j hij => by have := pc_mul_bd hs i j h5 h6; omega) (enters_fn Try.func110 (of_decide_eq_true (by kernel_rfl)) rfl)
    (fun i j W1 hij hb => gscaledC_any i j _ _ m d A c t k W1 (b1.keep hb) (b2.keep hb) hs ((hr.below hwb).below hb) hij h5 h6))
  have HB := Lib.hid hwb
  have HW := Lib.hid hW
  have V3 := Lib.hid v3
  obtain ⟨T, hT⟩ : ∃ T, Pl.tab m d (fun i j => Pl.pc t i j * k) = T := ⟨_, rfl⟩
  rw [hT] at HS ⊢
  clear b1 b2 v3 hwb hW hr hs hT
  go_enter Try.func109, Try.ntmps109
  go_wp2_with fail
  rw [HW.out]
  refine HS.out.mono ?_
  rintro e w2 ⟨v, rfl, ho, hb⟩
  obtain ⟨A2, c2, rfl, -⟩ := ho.len
  have hv := V3.out.keep hb
  obtain ⟨q0, q1, q2, q3, q4, q5⟩ := hv.tells3
  obtain ⟨f0, f1, f2, f3, f4⟩ := fin_grid (w := w) hv ho (by have := V3.out.lt; omega) (by omega) (Nat.le_refl _) (below_step HB.out hb) (.int .i64 m) (.int .i64 d) (.slice A2 T.length c2)
  have F3 := Lib.hid (f3.low (show w.heap.size ≤ W.heap.size from HB.out.size))
  have F4 := Lib.hid f4
  unfold set3 at f0 f1 f2
  clear f3 f4 ho hv hb
  go_wp2
  exact bodyPost_ret (v := .agg #[.int .i64 m, .int .i64 d, .slice A2 T.length c2]) (by simp [results, Try.results109, go_sem, f0, f1, f2]) rfl ⟨_, rfl, F3.out, F4.out⟩
end Go.Proofs.Ytfhdgcndiljjcab

/- Appending a row that the call has made to a slice of slices of its own. -/
namespace Go.Proofs.Ytfhdgcndiljjcab
open Go.RowKit Go.WideShapes Go.ChangeShapes Go.ChangeAt

theorem made_from {b n c g : Nat} (h : (Value.slice (some ⟨b, 0, none⟩) n c).ownBlock = some g) : b ≤ g := by
  have : g = b := by simpa [Value.ownBlock] using h.symm
  omega
/-- what an append of one row leaves -/
theorem OwnR.pushed {w w' : World} {lo hi : Nat} {v v' u : Value} {rows : List (List Int)} {r : List Int} {vs : List Value} {o : Obj}
    (h1 : w.ownsRow lo 22 1 v rows.length vs)
    (h3 : ∀ (i : Nat) (r : List Int), rows[i]? = some r → ∃ u : Value, vs[i]? = some u ∧ OwnI w lo u r ∧ ∀ g, u.ownBlock = some g → g < hi)
    (h4 : ∀ (i j : Nat) (u u' : Value), i < j → vs[i]? = some u → vs[j]? = some u' → u.ownBlock = none ∨ u.ownBlock ≠ u'.ownBlock)
    (hhi : hi ≤ w.heap.size) (hu : OwnI w lo u r) (hub : ∀ g, u.ownBlock = some g → hi ≤ g)
    (g1 : w'.ownsRow lo 22 1 v' (rows.length + 1) (vs ++ [u])) (g2 : (w.alloc o).grownBy w' v.ownBlock) : OwnR w' lo w'.heap.size v' (rows ++ [r]) := by
  have hsz : w.heap.size + 1 ≤ w'.heap.size := by have := g2.size; simpa using this
  have hvsl : vs.length = rows.length := by have := h1.1; omega
  refine ⟨vs ++ [u], by rw [List.length_append]; exact g1, fun g hg => (World.ownsRow.lt g1 g hg).2, ?_, ?_⟩
  · intro i r' hr
    by_cases hi' : i < rows.length
    · rw [List.getElem?_append_left hi'] at hr
      obtain ⟨u', a1, a2, a3⟩ := h3 i r' hr
      have hk := a2.alloc o
      exact ⟨u', by rw [List.getElem?_append_left (by omega)]; exact a1, hk.other g2 (ne_types (h1.alloc o) hk), fun g hg => by have := a3 g hg; omega⟩
    · rw [List.getElem?_append_right (by omega)] at hr
      have hi2 : i = rows.length := by
        rcases Nat.eq_or_lt_of_le (Nat.le_of_not_lt hi') with e | e
        · exact e.symm
        · rw [show i - rows.length = (i - rows.length - 1) + 1 by omega] at hr; simp at hr
      subst hi2
      rw [Nat.sub_self] at hr
      simp at hr
      subst hr
      have hk := hu.alloc o
      exact ⟨u, by rw [← hvsl, List.getElem?_append_right (Nat.le_refl _), Nat.sub_self]; rfl, hk.other g2 (ne_types (h1.alloc o) hk), fun g hg => by have := (hu.lt g hg).2; omega⟩
  · intro i j x y hij hx hy
    by_cases hj : j < vs.length
    · rw [List.getElem?_append_left hj] at hy
      rw [List.getElem?_append_left (by omega)] at hx
      exact h4 i j x y hij hx hy
    · have hju : j = vs.length := by
        rw [List.getElem?_append_right (by omega)] at hy
        rcases Nat.eq_or_lt_of_le (Nat.le_of_not_lt hj) with e | e
        · exact e.symm
        · rw [show j - vs.length = (j - vs.length - 1) + 1 by omega] at hy; simp at hy
      subst hju
      rw [List.getElem?_append_right (Nat.le_refl _), Nat.sub_self] at hy
      simp at hy
      subst hy
      rw [List.getElem?_append_left hij] at hx
      obtain ⟨r', hr'⟩ : ∃ r', rows[i]? = some r' := ⟨_, List.getElem?_eq_getElem (by omega)⟩
      obtain ⟨u2, a1, _, a3⟩ := h3 i r' hr'
      rw [hx] at a1
      injection a1 with a1
      subst a1
      rcases hc : x.ownBlock with _ | g
      · exact .inl rfl
      · refine .inr fun e => ?_
        have p1 := a3 g hc
        have p2 := hub g e.symm
        omega

theorem wp_pushU {ops : Array Oper} {rest : List Oper} {o : Oper} {a : Act} {Q : Exit → Act → World → Prop} {w : World} (s x : Operand) (t : TypeId)
    (hgd : o.guard = none) (ho : o.op = .call { callee := .builtin .append, args := #[s, x], argTypes := #[t, t] })
    (ht : Try.prog.underlying t = some (.slice 22)) (lo hi : Nat) (v : Value) (rows : List (List Int)) (hs : a.eval s = v) (hown : OwnR w lo hi v rows) (hhi : hi ≤ w.heap.size)
    (u : Value) (r : List Int) (hu : OwnI w lo u r) (hub : ∀ g, u.ownBlock = some g → hi ≤ g) (G : Nat) (hG : w.heap.size = G) (hx : a.eval x = .slice (some ⟨G, 0, none⟩) 1 1) (hlen : rows.length ≤ 1000000000000) (hlo : lo ≤ w.heap.size)
    (h : ∀ v' w', OwnR w' lo w'.heap.size v' (rows ++ [r]) → Below lo w w' → wpList Try.prog ops Q rest (a.put o.dst v') w') :
    wpList Try.prog ops Q (o :: rest) a (w.alloc (.cells #[u] 22)) := by
  subst hG
  obtain ⟨i0, hi0, hz0, hz1, hz2⟩ := info_parts infoRow
  obtain ⟨vs, h1, h2, h3, h4⟩ := hown
  obtain ⟨Au, cu, hue, -⟩ := hu.form
  refine wpList_append_own _ hgd s x t ho lo 22 i0 (.slice none 0 0) 1 24 ht hi0 hz0 hz1 hz2 rfl (by decide) v rows.length vs hs (h1.alloc _)
    ⟨w.heap.size, 0, none⟩ 1 1 [u] hx rfl ?_ ?_ ?_ ?_ ?_ ?_
  · intro j u' hj
    match j, hj with
    | 0, hj => simp at hj; subst hj; simp [Addr.add]
  · intro u' hu'; simp at hu'; subst hu'; rw [hue]; rfl
  · unfold maxLen; omega
  · omega
  · simp; omega
  · intro v' w' g1 g2 _
    exact h v' w' (OwnR.pushed h1 h3 h4 hhi hu hub g1 g2) (((Below.refl lo w).alloc hlo _).grown g2 (by simp; omega) (fun k hk => (World.ownsRow.lt h1 k hk).1))

/-- the same at a step of a region that draws its order: the row's header lies in block g -/
theorem step_pushU {ops : Array Oper} {o : Oper} {a : Act} {K : Act → World → Prop} {Q : Exit → Act → World → Prop} {E : Prop} {w : World} (s x : Operand) (t : TypeId)
    (hgd : o.guard = none) (ho : o.op = .call { callee := .builtin .append, args := #[s, x], argTypes := #[t, t] })
    (ht : Try.prog.underlying t = some (.slice 22)) (lo hi : Nat) (v : Value) (rows : List (List Int)) (hs : a.eval s = v) (hown : OwnR w lo hi v rows) (hhi : hi ≤ w.heap.size)
    (u : Value) (r : List Int) (hu : OwnI w lo u r) (hub : ∀ g, u.ownBlock = some g → hi ≤ g) (g : Nat) (hx : a.eval x = .slice (some ⟨g, 0, none⟩) 1 1) (hy : w.cell? ⟨g, 0, none⟩ = some u) (hlen : rows.length ≤ 1000000000000) (hlo : lo ≤ w.heap.size)
    (h : ∀ v' w', OwnR w' lo w'.heap.size v' (rows ++ [r]) → Below lo w w' → K (a.put o.dst v') w') :
    if Region.wanted o (yielded ops a.tmps) = true then Oper.wp Try.prog o a w K Q else E := by
  have hw : Region.wanted o (yielded ops a.tmps) = true := by simp [Region.wanted, hgd]
  rw [if_pos hw]
  obtain ⟨i0, hi0, hz0, hz1, hz2⟩ := info_parts infoRow
  obtain ⟨vs, h1, h2, h3, h4⟩ := hown
  obtain ⟨Au, cu, hue, -⟩ := hu.form
  refine wp_append_own _ s x t ho lo 22 i0 (.slice none 0 0) 1 24 ht hi0 hz0 hz1 hz2 rfl (by decide) v rows.length vs hs h1
    ⟨g, 0, none⟩ 1 1 [u] hx rfl ?_ ?_ ?_ ?_ hlo ?_
  · intro j u' hj
    match j, hj with
    | 0, hj => simp at hj; subst hj; simp [Addr.add]; exact hy
  · intro u' hu'; simp at hu'; subst hu'; rw [hue]; rfl
  · unfold maxLen; omega
  · omega
  · intro v' w' g1 g2 _
    refine h v' w' ?_ ((Below.refl lo w).grown g2 hlo (fun k hk => (World.ownsRow.lt h1 k hk).1))
    have hsz := g2.size
    have hvsl : vs.length = rows.length := by have := h1.1; omega
    refine ⟨vs ++ [u], by rw [List.length_append]; exact g1, fun g hg => (World.ownsRow.lt g1 g hg).2, ?_, ?_⟩
    · intro i r' hr
      by_cases hi' : i < rows.length
      · rw [List.getElem?_append_left hi'] at hr
        obtain ⟨u', a1, a2, a3⟩ := h3 i r' hr
        exact ⟨u', by rw [List.getElem?_append_left (by omega)]; exact a1, a2.other g2 (ne_types h1 a2), fun g hg => by have := a3 g hg; omega⟩
      · rw [List.getElem?_append_right (by omega)] at hr
        have hi2 : i = rows.length := by
          rcases Nat.eq_or_lt_of_le (Nat.le_of_not_lt hi') with e | e
          · exact e.symm
          · rw [show i - rows.length = (i - rows.length - 1) + 1 by omega] at hr; simp at hr
        subst hi2
        rw [Nat.sub_self] at hr
        simp at hr
        subst hr
        exact ⟨u, by rw [← hvsl, List.getElem?_append_right (Nat.le_refl _), Nat.sub_self]; rfl, hu.other g2 (ne_types h1 hu), fun g hg => by have := (hu.lt g hg).2; omega⟩
    · intro i j x y hij hx hy
      by_cases hj : j < vs.length
      · rw [List.getElem?_append_left hj] at hy
        rw [List.getElem?_append_left (by omega)] at hx
        exact h4 i j x y hij hx hy
      · have hju : j = vs.length := by
          rw [List.getElem?_append_right (by omega)] at hy
          rcases Nat.eq_or_lt_of_le (Nat.le_of_not_lt hj) with e | e
          · exact e.symm
          · rw [show j - vs.length = (j - vs.length - 1) + 1 by omega] at hy; simp at hy
        subst hju
        rw [List.getElem?_append_right (Nat.le_refl _), Nat.sub_self] at hy
        simp at hy
        subst hy
        rw [List.getElem?_append_left hij] at hx
        obtain ⟨r', hr'⟩ : ∃ r', rows[i]? = some r' := ⟨_, List.getElem?_eq_getElem (by omega)⟩
        obtain ⟨u2, a1, _, a3⟩ := h3 i r' hr'
        rw [hx] at a1
        injection a1 with a1
        subst a1
        rcases hc : x.ownBlock with _ | g
        · exact .inl rfl
        · refine .inr fun e => ?_
          have p1 := a3 g hc
          have p2 := hub g e.symm
          omega
end Go.Proofs.Ytfhdgcndiljjcab

/- Contracts of the model's sums, multiples and remainders of rows, which may have one number alone. -/
namespace Go.Proofs.Ytfhdgcndiljjcab
open Go.RowKit Go.WideShapes Go.ChangeShapes Go.ChangeAt

/-- a row of d + 1 numbers modulo m -/
structure RowOk (m : Int) (d : Nat) (l : List Int) : Prop where
  m1 : 2 ≤ m
  m2 : m ≤ 10000
  d2 : d ≤ 10
  len : l.length = d + 1
  red : Ser.Red m l
theorem Pl.Ok.rowOk {m : Int} {d : Nat} {t : List (List Int)} (h : Pl.Ok m d t) (i : Nat) (hi : i ≤ d) : RowOk m (d - i) (Pl.rw' t i) := ⟨h.m1, h.m2, by have := h.d2; omega, h.row i hi, h.red i⟩
def addR (m : Int) (d : Nat) (l l' : List Int) : List Int := Ser.cut m d fun n => Ser.co l n + Ser.co l' n
def scaR (m : Int) (d : Nat) (l : List Int) (k : Int) : List Int := Ser.cut m d fun n => Ser.co l n * k
theorem mul_bdR {x y : Int} (h1 : 0 ≤ x) (h2 : x ≤ 10000) (h3 : -10000 ≤ y) (h4 : y ≤ 10000) : -100000000 ≤ x * y ∧ x * y ≤ 100000000 := by
  constructor
  · have := Int.mul_le_mul_of_nonneg_left (c := x) h3 h1
    have e : x * -10000 = -(x * 10000) := Int.mul_neg _ _
    omega
  · have := Int.mul_le_mul_of_nonneg_left (c := x) h4 h1
    omega
theorem wrap_remR {x m : Int} (h1 : 0 ≤ x) (h2 : x ≤ 1000000000000000) : (IntKind.i64.wrap x).tmod m = x % m := by
  have : IntKind.i64.wrap x = x := by rw [IntKind.wrap_i64]; omega
  rw [this, Int.tmod_eq_emod_of_nonneg h1]

set_option maxHeartbeats 2000000 in
set_option maxRecDepth 100000 in
theorem l02AddR_any (m : Int) (d : Nat) (A : Option Addr) (c : Nat) (l : List Int) (A' : Option Addr) (c' : Nat) (l' : List Int) (w : World) (hs : RowOk m d l) (hs' : RowOk m d l') (hr : RI w A l) (hr' : RI w A' l') :
    Calls Try.prog 69 #[.int .i64 m, .slice A l.length c, .slice A' l'.length c'] w fun e w' => ∃ v, e = .returned v ∧ OwnI w' w.heap.size v (addR m d l l') ∧ Below w.heap.size w w' := by
  have HS := Lib.hid hs
  have HS' := Lib.hid hs'
  have HR := Lib.hid hr
  have HR' := Lib.hid hr'
  have hm1 := hs.m1
  have hm2 := hs.m2
  have hd := hs.d2
  have hm0 : ¬ m = 0 := by omega
  have hll : l.length ≤ 11 := by have := hs.len; omega
  have hll' : l'.length ≤ 11 := by have := hs'.len; omega
  have E1 := Lib.hid hs.len
  have E2 := Lib.hid hs'.len
  clear hs hs' hr hr'
  go_enter Try.func69, Try.ntmps69
  go_wp2
  go_loopw [7, 8] (fun r i wr => ∃ k : Nat, k ≤ l.length ∧ i = .int .i64 k ∧ OwnI wr w.heap.size r ((addR m d l l').take k) ∧ Below w.heap.size w wr) (fun _ i _ => l.length - (intOf i).toNat)
  case atStart => exact ⟨0, Nat.zero_le _, rfl, OwnI.empty _, below_one _ _⟩
  case round =>
    obtain ⟨k, hk, rfl, hown, hbel⟩ := hrel
    have HB := Lib.hid hbel
    have HO := Lib.hid hown
    have hsz := hbel.size
    clear hown hbel
    by_cases hlt : k < l.length
    · obtain ⟨b, off, rfl, hb, hc⟩ := HR.out.at k hlt
      obtain ⟨b', off', rfl, hb', hc'⟩ := HR'.out.at k (by rw [E2.out, ← E1.out]; exact hlt)
      have c1 := (HB.out.cell (p := ⟨b, off + k, none⟩) hb).trans hc
      have c2 := (HB.out.cell (p := ⟨b', off' + k, none⟩) hb').trans hc'
      have r1 := HS.out.red k
      have r2 := HS'.out.red k
      have hst : (addR m d l l').take (k + 1) = (addR m d l l').take k ++ [(Ser.co l k + Ser.co l' k) % m] := Ser.cut_take_succ _ _ _ _ (by have := E1.out; omega)
      obtain ⟨X, hX⟩ : ∃ X, Ser.co l k = X := ⟨_, rfl⟩
      obtain ⟨Y, hY⟩ : ∃ Y, Ser.co l' k = Y := ⟨_, rfl⟩
      rw [hX] at hc c1 r1
      rw [hY] at hc' c2 r2
      rw [hX, hY] at hst
      have HST := Lib.hid hst
      have C1 := Lib.hid hc
      have C2 := Lib.hid hc'
      have j0 : (0 : Int) ≤ (k : Int) := by omega
      have j1 : (k : Int) < (l.length : Int) := by omega
      have j2 : (k : Int) < (l'.length : Int) := by have := E1.out; have := E2.out; omega
      obtain ⟨r1, r3⟩ := r1
      obtain ⟨r2, r4⟩ := r2
      have HQ := Lib.hid (wrap_remR (x := X + Y) (m := m) (by omega) (by omega))
      clear hX hY hst hc hc'
      go_wp2
      go_region_held3 (fun w' => w'.cell? ⟨b, off + k, none⟩ = some (.int .i64 X) ∧ w'.cell? ⟨b', off' + k, none⟩ = some (.int .i64 Y) ∧ ¬ m = 0) (first | exact ⟨((((HB.out.alloc hsz _).drew).trans hpb).cell hb).trans C1.out, ((((HB.out.alloc hsz _).drew).trans hpb).cell hb').trans C2.out, hm0⟩ | exact ⟨c1, c2, hm0⟩ | go_keep) ((refine step_push _ _ _ (by rfl) (by rfl) Try.underlying22 w.heap.size _ _ (by rfl) ((HO.out.alloc _).drew) wr.heap.size ((X + Y) % m) (by rfl) (by simp; exact HQ.out) (by have := take_cut_len m d (fun n => Ser.co l n + Ser.co l' n) k; unfold addR; omega) (by simp; omega) ?_; intro v' w1 ho1 hpb))
      all_goals
        have hb1 := (((HB.out.alloc hsz _).drew).trans hpb)
        have HB1 := Lib.hid hb1
        have HO1 := Lib.hid ho1
        clear hb1 ho1 hpb
        go_wp2
        go_roundw
        case rel => exact ⟨k + 1, by omega, by go_num, by rw [HST.out]; exact HO1.out, HB1.out⟩
        case measure => simp only [intOf]; omega
    · obtain rfl : k = l.length := by omega
      have ho := HO.out
      rw [List.take_of_length_le (by unfold addR; rw [Ser.cut_length, E1.out]; exact Nat.le_refl _)] at ho
      have HF := Lib.hid ho
      clear ho
      go_wp2
      go_ret
      exact ⟨_, rfl, HF.out, HB.out⟩

set_option maxHeartbeats 2000000 in
theorem l02ScaleR_any (m : Int) (d : Nat) (k : Int) (A : Option Addr) (c : Nat) (l : List Int) (w : World) (hs : RowOk m d l) (hr : RI w A l) (k1 : 0 ≤ k) (k2 : k < m) :
    Calls Try.prog 70 #[.int .i64 m, .int .i64 k, .slice A l.length c] w fun e w' => ∃ v, e = .returned v ∧ OwnI w' w.heap.size v (scaR m d l k) ∧ Below w.heap.size w w' := by
  have HS := Lib.hid hs
  have HR := Lib.hid hr
  have hm1 := hs.m1
  have hm2 := hs.m2
  have hd := hs.d2
  have hm0 : ¬ m = 0 := by omega
  have hll : l.length ≤ 11 := by have := hs.len; omega
  have E1 := Lib.hid hs.len
  clear hs hr
  go_enter Try.func70, Try.ntmps70
  go_wp2
  go_loopw [7, 8] (fun r i wr => ∃ j : Nat, j ≤ l.length ∧ i = .int .i64 j ∧ OwnI wr w.heap.size r ((scaR m d l k).take j) ∧ Below w.heap.size w wr) (fun _ i _ => l.length - (intOf i).toNat)
  case atStart => exact ⟨0, Nat.zero_le _, rfl, OwnI.empty _, below_one _ _⟩
  case round =>
    obtain ⟨j, hj, rfl, hown, hbel⟩ := hrel
    have HB := Lib.hid hbel
    have HO := Lib.hid hown
    have hsz := hbel.size
    have hlk := take_cut_len m d (fun n => Ser.co l n * k) j
    clear hown hbel
    by_cases hlt : j < l.length
    · obtain ⟨b, off, rfl, hb, hc⟩ := HR.out.at j hlt
      have c1 := (HB.out.cell (p := ⟨b, off + j, none⟩) hb).trans hc
      obtain ⟨r1, r2⟩ := HS.out.red j
      have hst : (scaR m d l k).take (j + 1) = (scaR m d l k).take j ++ [Ser.co l j * k % m] := Ser.cut_take_succ _ _ _ _ (by have := E1.out; omega)
      obtain ⟨X, hX⟩ : ∃ X, Ser.co l j = X := ⟨_, rfl⟩
      rw [hX] at c1 r1 r2 hst
      have p1 := Int.mul_nonneg k1 r1
      have p2 := (mul_bdR (x := k) (y := X) k1 (by omega) (by omega) (by omega)).2
      have he : X * k = k * X := Int.mul_comm _ _
      rw [he] at hst
      have j0 : (0 : Int) ≤ (j : Int) := by omega
      have j1 : (j : Int) < (l.length : Int) := by omega
      have HST := Lib.hid hst
      clear hX hst hc he
      go_wp2_with (at_builtin; refine wp_push _ _ _ (by rfl) (by rfl) Try.underlying22 w.heap.size _ _ (by rfl) HO.out (k * X % m) (by rfl) (by unfold scaR; omega) hsz ?_; intro v' w1 ho1 hpb)
      have HP := Lib.hid (HB.out.trans hpb)
      have HQ := Lib.hid ho1
      clear hpb ho1
      go_wp2
      go_roundw
      case rel => exact ⟨j + 1, by omega, by go_num, by rw [HST.out]; exact HQ.out, HP.out⟩
      case measure => simp only [intOf]; omega
    · obtain rfl : j = l.length := by omega
      have ho := HO.out
      rw [List.take_of_length_le (by unfold scaR; rw [Ser.cut_length, E1.out]; exact Nat.le_refl _)] at ho
      have HF := Lib.hid ho
      clear ho
      go_wp2
      go_ret
      exact ⟨_, rfl, HF.out, HB.out⟩

set_option maxHeartbeats 2000000 in
theorem l02RestR_any (k : Int) (d : Nat) (m : Int) (A : Option Addr) (c : Nat) (l : List Int) (w : World) (k1 : 2 ≤ k) (hs : RowOk m d l) (hr : RI w A l) :
    Calls Try.prog 37 #[.int .i64 k, .slice A l.length c] w fun e w' => ∃ v, e = .returned v ∧ OwnI w' w.heap.size v (Ser.cut k d (Ser.co l)) ∧ Below w.heap.size w w' := by
  have HS := Lib.hid hs
  have HR := Lib.hid hr
  have hd := hs.d2
  have hll : l.length ≤ 11 := by have := hs.len; omega
  have E1 := Lib.hid hs.len
  clear hs hr
  go_enter Try.func37, Try.ntmps37
  go_wp2
  go_loopw [5, 6] (fun r i wr => ∃ j : Nat, j ≤ l.length ∧ i = .int .i64 j ∧ OwnI wr w.heap.size r ((Ser.cut k d (Ser.co l)).take j) ∧ Below w.heap.size w wr) (fun _ i _ => l.length - (intOf i).toNat)
  case atStart => exact ⟨0, Nat.zero_le _, rfl, OwnI.empty _, below_one _ _⟩
  case round =>
    obtain ⟨j, hj, rfl, hown, hbel⟩ := hrel
    have HB := Lib.hid hbel
    have HO := Lib.hid hown
    have hsz := hbel.size
    have hlk := take_cut_len k d (Ser.co l) j
    clear hown hbel
    by_cases hlt : j < l.length
    · obtain ⟨b, off, rfl, hb, hc⟩ := HR.out.at j hlt
      have c1 := (HB.out.cell (p := ⟨b, off + j, none⟩) hb).trans hc
      obtain ⟨r1, r2⟩ := HS.out.red j
      have hm2 := HS.out.m2
      have hst : (Ser.cut k d (Ser.co l)).take (j + 1) = (Ser.cut k d (Ser.co l)).take j ++ [Ser.co l j % k] := Ser.cut_take_succ _ _ _ _ (by have := E1.out; omega)
      obtain ⟨X, hX⟩ : ∃ X, Ser.co l j = X := ⟨_, rfl⟩
      rw [hX] at c1 r1 r2 hst
      have HST := Lib.hid hst
      clear hX hst hc
      go_wp2_with (at_builtin; refine wp_push _ _ _ (by rfl) (by rfl) Try.underlying22 w.heap.size _ _ (by rfl) HO.out (X % k) (by rfl) (by omega) hsz ?_; intro v' w1 ho1 hpb)
      have HP := Lib.hid (HB.out.trans hpb)
      have HQ := Lib.hid ho1
      clear hpb ho1
      go_wp2
      go_roundw
      case rel => exact ⟨j + 1, by omega, by go_num, by rw [HST.out]; exact HQ.out, HP.out⟩
      case measure => simp only [intOf]; omega
    · obtain rfl : j = l.length := by omega
      have ho := HO.out
      rw [List.take_of_length_le (by rw [Ser.cut_length, E1.out]; exact Nat.le_refl _)] at ho
      have HF := Lib.hid ho
      clear ho
      go_wp2
      go_ret
      exact ⟨_, rfl, HF.out, HB.out⟩

end Go.Proofs.Ytfhdgcndiljjcab

/- Contracts of AddPlanes, of the program and of the model. -/
namespace Go.Proofs.Ytfhdgcndiljjcab
open Go.RowKit Go.WideShapes Go.ChangeShapes Go.ChangeAt

theorem add_row {m : Int} {d : Nat} {t t' : List (List Int)} (k : Nat) : Ser.cut m (d - k) (fun j => Pl.pc t k j + Pl.pc t' k j) = addR m (d - k) (Pl.rw' t k) (Pl.rw' t' k) := rfl
set_option maxHeartbeats 2000000 in
set_option maxRecDepth 100000 in
theorem l03Add_any (m : Int) (d : Nat) (A : Option Addr) (c : Nat) (t : List (List Int)) (A' : Option Addr) (c' : Nat) (t' : List (List Int)) (w : World) (hs : Pl.Ok m d t) (hs' : Pl.Ok m d t') (hr : RP w A t) (hr' : RP w A' t') :
    Calls Try.prog 52 #[.int .i64 m, .slice A t.length c, .slice A' t'.length c'] w fun e w' => ∃ v, e = .returned v ∧ OwnR w' w.heap.size w'.heap.size v (Pl.tab m d fun i j => Pl.pc t i j + Pl.pc t' i j) ∧ Below w.heap.size w w' := by
  have HR := Lib.hid hr
  have HR' := Lib.hid hr'
  have HS := Lib.hid hs
  have HS' := Lib.hid hs'
  have hl := hs.len
  have hl' := hs'.len
  have hd2 := hs.d2
  obtain ⟨L, hL⟩ : ∃ L, t.length = L := ⟨_, rfl⟩
  obtain ⟨L', hL'⟩ : ∃ L, t'.length = L := ⟨_, rfl⟩
  have HL := Lib.hid (hL.symm.trans hl)
  have HL' := Lib.hid (hL'.symm.trans hl')
  rw [hL, hL']
  have hLb : L ≤ 11 := by omega
  clear hr hr' hs hs' hL hL' hl hl'
  go_enter Try.func52, Try.ntmps52
  go_wp2
  go_loopw [7, 8] (fun r i wr => ∃ k : Nat, k ≤ L ∧ i = .int .i64 k ∧ OwnR wr w.heap.size wr.heap.size r ((Pl.tab m d fun i j => Pl.pc t i j + Pl.pc t' i j).take k) ∧ Below w.heap.size w wr) (fun _ i _ => L - (intOf i).toNat)
  case atStart => exact ⟨0, Nat.zero_le _, rfl, by simpa using OwnR.none0 w, below_one _ _⟩
  case round =>
    obtain ⟨k, hk, rfl, hown, hbel⟩ := hrel
    have HB := Lib.hid hbel
    have HO := Lib.hid hown
    have hsz := hbel.size
    clear hown
    by_cases hlt : k < L
    · have hLd := HL.out
      have hLd' := HL'.out
      obtain ⟨b, off, A1, c1, rfl, hb, hc, -, hri⟩ := HR.out.at k (by rw [HS.out.len]; omega)
      obtain ⟨b', off', A2, c2, rfl, hb', hc', -, hri'⟩ := HR'.out.at k (by rw [HS'.out.len]; omega)
      have e1 := (hbel.cell (p := ⟨b, off + k, none⟩) hb).trans hc
      have e2 := (hbel.cell (p := ⟨b', off' + k, none⟩) hb').trans hc'
      have HA : Hid (∀ W : World, Below w.heap.size w W → Calls Try.prog 69 #[.int .i64 m, .slice A1 (Pl.rw' t k).length c1, .slice A2 (Pl.rw' t' k).length c2] W fun e w' => ∃ v, e = .returned v ∧ OwnI w' W.heap.size v (addR m (d - k) (Pl.rw' t k) (Pl.rw' t' k)) ∧ Below W.heap.size W w') :=
        Lib.hid (fun W hW => l02AddR_any m (d - k) A1 c1 _ A2 c2 _ W (HS.out.rowOk k (by omega)) (HS'.out.rowOk k (by omega)) (hri.below hW) (hri'.below hW))
      have hst : (Pl.tab m d fun i j => Pl.pc t i j + Pl.pc t' i j).take (k + 1) = (Pl.tab m d fun i j => Pl.pc t i j + Pl.pc t' i j).take k ++ [addR m (d - k) (Pl.rw' t k) (Pl.rw' t' k)] := by rw [Pl.tab_take_succ m d _ k (by omega), add_row]
      have HLEN := Lib.hid (show ((Pl.tab m d fun i j => Pl.pc t i j + Pl.pc t' i j).take k).length ≤ 1000000000000 by rw [List.length_take, Pl.tab_length]; omega)
      obtain ⟨N, hN⟩ : ∃ N, (Pl.rw' t k).length = N := ⟨_, rfl⟩
      obtain ⟨N', hN'⟩ : ∃ N, (Pl.rw' t' k).length = N := ⟨_, rfl⟩
      obtain ⟨row, hrow⟩ : ∃ row, addR m (d - k) (Pl.rw' t k) (Pl.rw' t' k) = row := ⟨_, rfl⟩
      rw [hrow] at HA hst
      rw [hN] at e1 hc HA
      rw [hN'] at e2 hc' HA
      have HST := Lib.hid hst
      have C1 := Lib.hid hc
      have C2 := Lib.hid hc'
      have j0 : (0 : Int) ≤ (k : Int) := by omega
      have j1 : (k : Int) < (L : Int) := by omega
      have j2 : (k : Int) < (L' : Int) := by omega
      clear hst hN hN' hrow hri hri' hc hc' hLd hLd' hbel
      go_wp2
      go_region_held3 (fun w' => w'.cell? ⟨b, off + k, none⟩ = some (.slice A1 N c1) ∧ w'.cell? ⟨b', off' + k, none⟩ = some (.slice A2 N' c2)) (first | exact ⟨e1, e2⟩ | exact kp_call hb5 ⟨e1, e2⟩ | exact ⟨(hB6.cell hb).trans C1.out, (hB6.cell hb').trans C2.out⟩ | exact kp_call (below_one _ _) (by assumption)) (first
        | (go_at_call 69; refine (HA.out _ HB.out.drew).mono ?_; rintro e w5 ⟨u, rfl, hou, hb5⟩; obtain ⟨Au, cu, rfl, -⟩ := hou.form)
        | (refine step_pushU _ _ _ (by rfl) (by rfl) Try.underlying23 w.heap.size wr.heap.size _ _ (by rfl) (HO.out.keep ((below_step (below_drew0 wr) hb5).trans ((below_one w5 _).mono hb5.size))) (Nat.le_trans hb5.size (below_one w5 _).size) _ row ((hou.alloc _).more hsz) (fun g hg => (hou.lt g hg).1) w5.heap.size (by rfl) (by rw [World.cell?_alloc_at _ _ _ _ rfl]; rfl) HLEN.out (Nat.le_trans hsz (Nat.le_trans hb5.size (below_one w5 _).size)) ?_; intro v' w1 ho1 hpb; have hB6 : Below w.heap.size w w1 := ((HB.out.drew.trans (hb5.mono hsz)).trans ((below_one w5 (.cells #[.slice Au row.length cu] 22)).mono (Nat.le_trans hsz hb5.size))).trans hpb))
      all_goals
        have HB1 := Lib.hid hB6
        have HO1 := Lib.hid ho1
        clear hB6 ho1 hpb hou hb5
        go_wp2
        go_roundw
        case rel => exact ⟨k + 1, by omega, by go_num, by rw [HST.out]; exact HO1.out, HB1.out⟩
        case measure => simp only [intOf]; omega
    · obtain rfl : k = L := by omega
      have ho := HO.out
      rw [HL.out, Pl.tab_take_all] at ho
      have HF := Lib.hid ho
      clear ho
      go_wp2
      go_ret
      exact ⟨_, rfl, HF.out, HB.out⟩
def addP := twoP fun m d t t' => Pl.tab m d fun i j => Pl.pc t i j + Pl.pc t' i j
theorem addP_len (m : Int) (t : List (List Int)) (m' : Int) (t' : List (List Int)) : szT (addP m t m' t').2.1 ≤ 1048576 := twoP_len _ m t m' t' (fun _ h _ => szT_ok (h.tab _))
end Go.Proofs.Ytfhdgcndiljjcab

/- Contracts of ScalePlane, of the program and of the model. -/
namespace Go.Proofs.Ytfhdgcndiljjcab
open Go.RowKit Go.WideShapes Go.ChangeShapes Go.ChangeAt

/-- the model of a function of one plane and a number, which has a code of its own -/
def onePi (cod : Int → List (List Int) → Int → Int) (f : Int → Nat → List (List Int) → Int → List (List Int)) (m : Int) (t : List (List Int)) (k : Int) : Int × List (List Int) × Int :=
  if cod m t k = 0 then (m, f m (t.length - 1) t k, 0) else (0, [], cod m t k)
theorem onePi_len (cod : Int → List (List Int) → Int → Int) (f : Int → Nat → List (List Int) → Int → List (List Int)) (m : Int) (t : List (List Int)) (k : Int) (hc : cod m t k = 0 → isP m t = true) (h : ∀ d, cod m t k = 0 → Pl.Ok m d t → szT (f m d t k) ≤ 1048576) : szT (onePi cod f m t k).2.1 ≤ 1048576 := by
  unfold onePi
  by_cases h0 : cod m t k = 0
  · rw [if_pos h0]
    obtain ⟨d, e, ho⟩ := plOk_of (hc h0)
    rw [e]
    exact h d h0 ho
  · rw [if_neg h0]; exact Nat.zero_le _
def codePN (m : Int) (t : List (List Int)) (k : Int) : Int := if isP m t = true then (if inB k 0 (m - 1) = true then 0 else 2) else 1
def scaP := onePi codePN fun m d t k => Pl.tab m d fun i j => Pl.pc t i j * k
theorem scaP_len (m : Int) (t : List (List Int)) (k : Int) : szT (scaP m t k).2.1 ≤ 1048576 :=
  onePi_len _ _ m t k (fun h => by
    unfold codePN at h
    by_cases h1 : isP m t = true
    · exact h1
    · rw [if_neg h1] at h; exact absurd h (by decide)) (fun _ _ h => szT_ok (h.tab _))

set_option maxHeartbeats 2000000 in
set_option maxRecDepth 100000 in
theorem l03Scale_any (m : Int) (d : Nat) (k : Int) (A : Option Addr) (c : Nat) (t : List (List Int)) (w : World) (hs : Pl.Ok m d t) (hr : RP w A t) (k1 : 0 ≤ k) (k2 : k < m) :
    Calls Try.prog 53 #[.int .i64 m, .int .i64 k, .slice A t.length c] w fun e w' => ∃ v, e = .returned v ∧ OwnR w' w.heap.size w'.heap.size v (Pl.tab m d fun i j => Pl.pc t i j * k) ∧ Below w.heap.size w w' := by
  have HR := Lib.hid hr
  have HS := Lib.hid hs
  have hl := hs.len
  have hd2 := hs.d2
  obtain ⟨L, hL⟩ : ∃ L, t.length = L := ⟨_, rfl⟩
  have HL := Lib.hid (hL.symm.trans hl)
  have hLb : L ≤ 11 := by omega
  rw [hL]
  clear hr hs hL hl
  go_enter Try.func53, Try.ntmps53
  go_wp2
  go_loopw [7, 8] (fun r i wr => ∃ q : Nat, q ≤ L ∧ i = .int .i64 q ∧ OwnR wr w.heap.size wr.heap.size r ((Pl.tab m d fun i j => Pl.pc t i j * k).take q) ∧ Below w.heap.size w wr) (fun _ i _ => L - (intOf i).toNat)
  case atStart => exact ⟨0, Nat.zero_le _, rfl, by simpa using OwnR.none0 w, below_one _ _⟩
  case round =>
    obtain ⟨q, hq, rfl, hown, hbel⟩ := hrel
    have HB := Lib.hid hbel
    have HO := Lib.hid hown
    have hsz := hbel.size
    clear hown
    by_cases hlt : q < L
    · have hLd := HL.out
      obtain ⟨b, off, A1, c1, rfl, hb, hc, -, hri⟩ := HR.out.at q (by rw [HS.out.len]; omega)
      have e1 := (hbel.cell (p := ⟨b, off + q, none⟩) hb).trans hc
      have HA := Lib.hid (l02ScaleR_any m (d - q) k A1 c1 _ wr (HS.out.rowOk q (by omega)) (hri.below hbel) k1 k2)
      have hst : (Pl.tab m d fun i j => Pl.pc t i j * k).take (q + 1) = (Pl.tab m d fun i j => Pl.pc t i j * k).take q ++ [scaR m (d - q) (Pl.rw' t q) k] := Pl.tab_take_succ m d _ q (by omega)
      have HLEN := Lib.hid (show ((Pl.tab m d fun i j => Pl.pc t i j * k).take q).length ≤ 1000000000000 by rw [List.length_take, Pl.tab_length]; omega)
      obtain ⟨N, hN⟩ : ∃ N, (Pl.rw' t q).length = N := ⟨_, rfl⟩
      obtain ⟨row, hrow⟩ : ∃ row, scaR m (d - q) (Pl.rw' t q) k = row := ⟨_, rfl⟩
      rw [hrow] at HA hst
      rw [hN] at e1 HA
      have HST := Lib.hid hst
      have j0 : (0 : Int) ≤ (q : Int) := by omega
      have j1 : (q : Int) < (L : Int) := by omega
      clear hst hN hrow hri hc hLd hbel
      go_wp2_with fail
      refine HA.out.mono ?_
      rintro e w5 ⟨u, rfl, hou, hb5⟩
      obtain ⟨Au, cu, rfl, -⟩ := hou.form
      go_wp2_with (at_builtin; refine wp_pushU _ _ _ (by rfl) (by rfl) Try.underlying23 w.heap.size wr.heap.size _ _ (by rfl) (HO.out.keep hb5) hb5.size (.slice Au row.length cu) row (hou.more hsz) (fun g hg => (hou.lt g hg).1) w5.heap.size rfl (by rfl) HLEN.out (Nat.le_trans hsz hb5.size) ?_; intro v' w1 ho1 hpb)
      have HB1 := Lib.hid ((HB.out.trans (hb5.mono hsz)).trans hpb)
      have HO1 := Lib.hid ho1
      clear ho1 hpb hou hb5
      go_wp2
      go_roundw
      case rel => exact ⟨q + 1, by omega, by go_num, by rw [HST.out]; exact HO1.out, HB1.out⟩
      case measure => simp only [intOf]; omega
    · obtain rfl : q = L := by omega
      have ho := HO.out
      rw [HL.out, Pl.tab_take_all] at ho
      have HF := Lib.hid ho
      clear ho
      go_wp2
      go_ret
      exact ⟨_, rfl, HF.out, HB.out⟩
theorem codePN_bad {m : Int} {t : List (List Int)} (k : Int) (h : isP m t = false) : codePN m t k = 1 := by unfold codePN; rw [h]; rfl
theorem codePN_good {m : Int} {t : List (List Int)} (k : Int) (h : isP m t = true) : codePN m t k = if inB k 0 (m - 1) = true then 0 else 2 := by unfold codePN; rw [if_pos h]
end Go.Proofs.Ytfhdgcndiljjcab

/- Contract of the product of grids. -/
namespace Go.Proofs.Ytfhdgcndiljjcab
open Go.RowKit Go.WideShapes Go.ChangeShapes Go.ChangeAt

theorem inner_bd {m : Int} {d : Nat} {t t' : List (List Int)} (hs : Pl.Ok m d t) (hs' : Pl.Ok m d t') (i k j : Nat) (n : Nat) (hn : n ≤ 11) :
    0 ≤ Ser.psum (fun l => Pl.pc t k l * Pl.pc t' (i - k) (j - l)) n ∧ Ser.psum (fun l => Pl.pc t k l * Pl.pc t' (i - k) (j - l)) n ≤ 1100000000 := by
  have := Pl.psum_bd2 (fun l => Pl.pc t k l * Pl.pc t' (i - k) (j - l)) 100000000 (fun l => by
    have h1 := hs.pc k l
    have h2 := hs'.pc (i - k) (j - l)
    have h3 := hs.m2
    exact Pl.prod_bd h1.1 (by omega) h2.1 (by omega)) n
  refine ⟨this.1, ?_⟩
  have h := this.2
  omega
theorem outer_bd {m : Int} {d : Nat} {t t' : List (List Int)} (hs : Pl.Ok m d t) (hs' : Pl.Ok m d t') (i j : Nat) (hj : j ≤ 10) (n : Nat) (hn : n ≤ 11) :
    0 ≤ Ser.psum (fun k => Ser.psum (fun l => Pl.pc t k l * Pl.pc t' (i - k) (j - l)) (j + 1)) n ∧ Ser.psum (fun k => Ser.psum (fun l => Pl.pc t k l * Pl.pc t' (i - k) (j - l)) (j + 1)) n ≤ 12100000000 := by
  have := Pl.psum_bd2 (fun k => Ser.psum (fun l => Pl.pc t k l * Pl.pc t' (i - k) (j - l)) (j + 1)) 1100000000 (fun k => inner_bd hs hs' i k j (j + 1) (by omega)) n
  refine ⟨this.1, ?_⟩
  have h := this.2
  omega
set_option maxHeartbeats 2000000 in
set_option maxRecDepth 100000 in
theorem gtimesC_any (i j g g' : Nat) (m : Int) (d : Nat) (A : Option Addr) (c : Nat) (t : List (List Int)) (A' : Option Addr) (c' : Nat) (t' : List (List Int)) (W : World) (hb : GBox W g m d A t.length c) (hb' : GBox W g' m d A' t'.length c') (hs : Pl.Ok m d t) (hs' : Pl.Ok m d t') (hr : RP W A t) (hr' : RP W A' t') (hij : i + j ≤ d) :
    Calls Try.prog 90 #[.int .i64 i, .int .i64 j, .pointer (some ⟨g, 0, none⟩), .pointer (some ⟨g', 0, none⟩)] W fun e w' => e = .returned (.int .i64 (Pl.mul2 (Pl.pc t) (Pl.pc t') i j)) ∧ Below W.heap.size W w' := by
  obtain ⟨b, off, rfl⟩ := hr.some (by rw [hs.len]; omega)
  obtain ⟨b', off', rfl⟩ := hr'.some (by rw [hs'.len]; omega)
  have HB1 := Lib.hid hb
  have HB2 := Lib.hid hb'
  have HS := Lib.hid hs
  have HS' := Lib.hid hs'
  have HR := Lib.hid hr
  have HR' := Lib.hid hr'
  have hd2 := hs.d2
  have HM : Hid (Pl.mul2 (Pl.pc t) (Pl.pc t') i j = Ser.psum (fun k => Ser.psum (fun l => Pl.pc t k l * Pl.pc t' (i - k) (j - l)) (j + 1)) (i + 1)) := Lib.hid rfl
  obtain ⟨R, hR⟩ : ∃ R, Pl.mul2 (Pl.pc t) (Pl.pc t') i j = R := ⟨_, rfl⟩
  rw [hR] at HM ⊢
  obtain ⟨F, hF⟩ : ∃ F, (fun k => Ser.psum (fun l => Pl.pc t k l * Pl.pc t' (i - k) (j - l)) (j + 1)) = F := ⟨_, rfl⟩
  have HFF := Lib.hid hF
  rw [hF] at HM
  have HOB : Hid (∀ n, n ≤ 11 → 0 ≤ Ser.psum F n ∧ Ser.psum F n ≤ 12100000000) := Lib.hid (fun n hn => by rw [← hF]; exact outer_bd hs hs' i j (by omega) n hn)
  clear hb hb' hr hr' hs hs' hR hF
  go_enter Try.func90, Try.ntmps90
  go_wp2
  go_loopw [7, 12] (fun s q wr => ∃ k : Nat, k ≤ i + 1 ∧ q = .int .i64 k ∧ s = .int .i64 (Ser.psum F k) ∧ Below W.heap.size W wr) (fun _ q _ => i + 1 - (intOf q).toNat)
  case atStart => exact ⟨0, Nat.zero_le _, rfl, rfl, Below.refl _ _⟩
  case round =>
    obtain ⟨k, hk, rfl, rfl, hbel⟩ := hrel
    have HB := Lib.hid hbel
    clear hbel
    by_cases hlt : k < i + 1
    · obtain ⟨O, hO⟩ : ∃ O, Ser.psum F k = O := ⟨_, rfl⟩
      have hob := HOB.out k (by omega)
      rw [hO] at hob ⊢
      have HO := Lib.hid hO
      obtain ⟨hob1, hob2⟩ := hob
      obtain ⟨G, hG⟩ : ∃ G, (fun l => Pl.pc t k l * Pl.pc t' (i - k) (j - l)) = G := ⟨_, rfl⟩
      have HGG := Lib.hid hG
      have HIB : Hid (∀ n, n ≤ 11 → 0 ≤ Ser.psum G n ∧ Ser.psum G n ≤ 1100000000) := Lib.hid (fun n hn => by rw [← hG]; exact inner_bd HS.out HS'.out i k j n hn)
      have HFK : Hid (F k = Ser.psum G (j + 1)) := Lib.hid (by rw [← HFF.out, ← hG])
      have j1 : (k : Int) < (i : Int) + 1 := by omega
      clear hO hG
      go_wp2
      go_loopw [7, 17] (fun s q wr => ∃ l : Nat, l ≤ j + 1 ∧ q = .int .i64 l ∧ s = .int .i64 (O + Ser.psum G l) ∧ Below W.heap.size W wr) (fun _ q _ => j + 1 - (intOf q).toNat)
      case atStart => exact ⟨0, Nat.zero_le _, rfl, by simp [Ser.psum], HB.out⟩
      case round =>
        clear HB
        obtain ⟨l, hl, rfl, rfl, hbel⟩ := hrel
        have HB := Lib.hid hbel
        by_cases hlt2 : l < j + 1
        · obtain ⟨p1, p2, p3, L, N, hL, hN, x1, x2, x3⟩ := (HB1.out.keep hbel).num HS.out (HR.out.below hbel) k l (by omega)
          obtain ⟨r, hr⟩ : ∃ r, i - k = r := ⟨_, rfl⟩
          obtain ⟨s, hs⟩ : ∃ s, j - l = s := ⟨_, rfl⟩
          obtain ⟨q1, q2, q3, L', N', hL', hN', y1, y2, y3⟩ := (HB2.out.keep hbel).num HS'.out (HR'.out.below hbel) r s (by omega)
          have hG1 : G l = Pl.pc t k l * Pl.pc t' r s := by
            rw [← HGG.out]
            show Pl.pc t k l * Pl.pc t' (i - k) (j - l) = _
            rw [hr, hs]
          have hst : Ser.psum G (l + 1) = Ser.psum G l + Pl.pc t k l * Pl.pc t' r s := by rw [Ser.psum, hG1]
          clear hG1
          obtain ⟨P, hP⟩ : ∃ P, Ser.psum G l = P := ⟨_, rfl⟩
          have hib := HIB.out l (by omega)
          have c1 := HS.out.pc k l
          have c2 := HS'.out.pc r s
          have hm := HS.out.m2
          obtain ⟨X, hX⟩ : ∃ X, Pl.pc t k l = X := ⟨_, rfl⟩
          obtain ⟨Y, hY⟩ : ∃ Y, Pl.pc t' r s = Y := ⟨_, rfl⟩
          rw [hX] at x3 c1 hst
          rw [hY] at y3 c2 hst
          rw [hP] at hib hst ⊢
          have hpr := Pl.prod_bd c1.1 (by omega) c2.1 (by omega)
          have HST := Lib.hid hst
          have w1 : IntKind.i64.wrap (X * Y) = X * Y := by rw [IntKind.wrap_i64]; omega
          have w2 : IntKind.i64.wrap (O + P + X * Y) = O + P + X * Y := by rw [IntKind.wrap_i64]; omega
          have j2 : (0 : Int) ≤ (k : Int) := by omega
          have j3 : (k : Int) < (L : Int) := by omega
          have j4 : (0 : Int) ≤ (l : Int) := by omega
          have j5 : (l : Int) < (N : Int) := by omega
          have j6 : (i : Int) - (k : Int) = (r : Int) := by omega
          have j7 : (j : Int) - (l : Int) = (s : Int) := by omega
          have j8 : (r : Int) < (L' : Int) := by omega
          have j9 : (s : Int) < (N' : Int) := by omega
          have j10 : (0 : Int) ≤ (r : Int) := by omega
          have j11 : (0 : Int) ≤ (s : Int) := by omega
          clear hbel hL hN hL' hN' hst hP hib hX hY hr hs c1 c2 hpr
          go_wp2
          go_quiet (fail)
          go_wp2
          go_roundw
          case rel => exact ⟨l + 1, by omega, by go_num, by rw [HST.out, Int.add_assoc], below_drewN HB.out _⟩
          case measure => simp only [intOf]; omega
        · obtain rfl : l = j + 1 := by omega
          have HE : Hid (Ser.psum F (k + 1) = O + Ser.psum G (j + 1)) := Lib.hid (by rw [Ser.psum, HO.out, HFK.out])
          clear hbel
          go_wp2
          go_roundw
          case rel => exact ⟨k + 1, by omega, by go_num, by rw [HE.out], HB.out⟩
          case measure => simp only [intOf]; omega
    · obtain rfl : k = i + 1 := by omega
      go_wp2
      go_ret
      exact ⟨ret_int HM.out.symm, HB.out⟩
set_option maxHeartbeats 2000000 in
set_option maxRecDepth 100000 in
theorem gtimes_any (m : Int) (d : Nat) (A : Option Addr) (c : Nat) (t : List (List Int)) (A' : Option Addr) (c' : Nat) (t' : List (List Int)) (w : World) (hs : Pl.Ok m d t) (hs' : Pl.Ok m d t') (hr : RP w A t) (hr' : RP w A' t') :
    Calls Try.prog 85 #[.agg #[.int .i64 m, .int .i64 d, .slice A t.length c], .agg #[.int .i64 m, .int .i64 d, .slice A' t'.length c']] w fun e w' => ∃ v, e = .returned (.agg #[.int .i64 m, .int .i64 d, v]) ∧ OwnR w' w.heap.size w'.heap.size v (Pl.tab m d (Pl.mul2 (Pl.pc t) (Pl.pc t'))) ∧ Below w.heap.size w w' := by
  obtain ⟨W, hW, b1, b2, v3, hwb⟩ := gpro2 w m d A t.length c m d A' t'.length c'
  have HS := Lib.hid (filled_any m d 90 #[.pointer (some ⟨w.heap.size, 0, none⟩), .pointer (some ⟨w.heap.size + 1, 0, none⟩)] (Pl.mul2 (Pl.pc t) (Pl.pc t')) W (by have := hs.m1; omega) hs.m2 (by have := hs.d2; omega)
    (fun i j hij => by have := outer_bd hs hs' i j (by have := hs.d2; omega) (i + 1) (by have := hs.d2; omega); unfold Pl.mul2; omega) (enters_fn Try.func90 (of_decide_eq_true (by kernel_rfl)) rfl)
    (fun i j W1 hij hb => gtimesC_any i j _ _ m d A c t A' c' t' W1 (b1.keep hb) (b2.keep hb) hs hs' ((hr.below hwb).below hb) ((hr'.below hwb).below hb) hij))
  have HB := Lib.hid hwb
  have HW := Lib.hid hW
  have V3 := Lib.hid v3
  obtain ⟨T, hT⟩ : ∃ T, Pl.tab m d (Pl.mul2 (Pl.pc t) (Pl.pc t')) = T := ⟨_, rfl⟩
  rw [hT] at HS ⊢
  clear b1 b2 v3 hwb hW hr hr' hs hs' hT
  go_enter Try.func85, Try.ntmps85
  go_wp2_with fail
  rw [HW.out]
  refine HS.out.mono ?_
  rintro e w2 ⟨v, rfl, ho, hb⟩
  obtain ⟨A2, c2, rfl, -⟩ := ho.len
  have hv := V3.out.keep hb
  obtain ⟨q0, q1, q2, q3, q4, q5⟩ := hv.tells3
  obtain ⟨f0, f1, f2, f3, f4⟩ := fin_grid (w := w) hv ho (by have := V3.out.lt; omega) (by omega) (Nat.le_refl _) (below_step HB.out hb) (.int .i64 m) (.int .i64 d) (.slice A2 T.length c2)
  have F3 := Lib.hid (f3.low (show w.heap.size ≤ W.heap.size from HB.out.size))
  have F4 := Lib.hid f4
  unfold set3 at f0 f1 f2
  clear f3 f4 ho hv hb
  go_wp2
  exact bodyPost_ret (v := .agg #[.int .i64 m, .int .i64 d, .slice A2 T.length c2]) (by simp [results, Try.results85, go_sem, f0, f1, f2]) rfl ⟨_, rfl, F3.out, F4.out⟩
end Go.Proofs.Ytfhdgcndiljjcab

/- Contract of a grid with its variables exchanged. -/
namespace Go.Proofs.Ytfhdgcndiljjcab
open Go.RowKit Go.WideShapes Go.ChangeShapes Go.ChangeAt

set_option maxHeartbeats 1000000 in
theorem turnedC_any (i j g : Nat) (m : Int) (d : Nat) (A : Option Addr) (c : Nat) (t : List (List Int)) (W : World) (hb : GBox W g m d A t.length c) (hs : Pl.Ok m d t) (hr : RP W A t) (hij : i + j ≤ d) :
    Calls Try.prog 88 #[.int .i64 i, .int .i64 j, .pointer (some ⟨g, 0, none⟩)] W fun e w' => e = .returned (.int .i64 (Pl.pc t j i)) ∧ Below W.heap.size W w' := by
  obtain ⟨_, _, x2, _⟩ := hb
  obtain ⟨b, off, b', off', c', rfl, -, k1, -, k2⟩ := hr.num j i (by rw [hs.len]; omega) (by rw [hs.row j (by omega)]; omega)
  have hl := hs.len
  have hrw := hs.row j (by omega)
  obtain ⟨N, hN⟩ : ∃ N, d - j + 1 = N := ⟨_, rfl⟩
  obtain ⟨L, hL⟩ : ∃ L, t.length = L := ⟨_, rfl⟩
  obtain ⟨X, hX⟩ : ∃ X, Pl.pc t j i = X := ⟨_, rfl⟩
  rw [hrw, hN] at k1
  rw [hX] at k2 ⊢
  rw [hL] at x2
  have j1 : (0 : Int) ≤ (j : Int) := by omega
  have j2 : (j : Int) < (L : Int) := by omega
  have j3 : (0 : Int) ≤ (i : Int) := by omega
  have j4 : (i : Int) < (N : Int) := by omega
  clear hl hrw hN hL hX hr hs
  go_enter Try.func88, Try.ntmps88
  go_wp2
  go_ret
  exact ⟨rfl, Below.refl _ _⟩
set_option maxHeartbeats 2000000 in
set_option maxRecDepth 100000 in
theorem turned_any (m : Int) (d : Nat) (A : Option Addr) (c : Nat) (t : List (List Int)) (w : World) (hs : Pl.Ok m d t) (hr : RP w A t) :
    Calls Try.prog 82 #[.agg #[.int .i64 m, .int .i64 d, .slice A t.length c]] w fun e w' => ∃ v, e = .returned (.agg #[.int .i64 m, .int .i64 d, v]) ∧ OwnR w' w.heap.size w'.heap.size v (Pl.tab m d (fun i j => Pl.pc t j i)) ∧ Below w.heap.size w w' := by
  obtain ⟨W, hW, b1, v3, hwb⟩ := gpro1 w m d A t.length c
  have HS := Lib.hid (filled_any m d 88 #[.pointer (some ⟨w.heap.size, 0, none⟩)] (fun i j => Pl.pc t j i) W (by have := hs.m1; omega) hs.m2 (by have := hs.d2; omega)
    (fun i j hij => by have := hs.pc j i; have := hs.m2; omega) (enters_fn Try.func88 (of_decide_eq_true (by kernel_rfl)) rfl)
    (fun i j W1 hij hb => turnedC_any i j _ m d A c t W1 (b1.keep hb) hs ((hr.below hwb).below hb) hij))
  have HB := Lib.hid hwb
  have HW := Lib.hid hW
  have V3 := Lib.hid v3
  obtain ⟨T, hT⟩ : ∃ T, Pl.tab m d (fun i j => Pl.pc t j i) = T := ⟨_, rfl⟩
  rw [hT] at HS ⊢
  obtain ⟨L, hL⟩ : ∃ L, t.length = L := ⟨_, rfl⟩
  rw [hL] at HW ⊢
  clear b1 v3 hwb hW hr hs hT hL
  go_enter Try.func82, Try.ntmps82
  go_wp2_with fail
  rw [HW.out]
  refine HS.out.mono ?_
  rintro e w2 ⟨v, rfl, ho, hb⟩
  obtain ⟨A2, c2, rfl, -⟩ := ho.len
  have hv := V3.out.keep hb
  obtain ⟨q0, q1, q2, q3, q4, q5⟩ := hv.tells3
  obtain ⟨f0, f1, f2, f3, f4⟩ := fin_grid (w := w) hv ho (by have := V3.out.lt; omega) (by omega) (Nat.le_refl _) (below_step HB.out hb) (.int .i64 m) (.int .i64 d) (.slice A2 T.length c2)
  have F3 := Lib.hid (f3.low (show w.heap.size ≤ W.heap.size from HB.out.size))
  have F4 := Lib.hid f4
  unfold set3 at f0 f1 f2
  clear f3 f4 ho hv hb
  go_wp2
  exact bodyPost_ret (v := .agg #[.int .i64 m, .int .i64 d, .slice A2 T.length c2]) (by simp [results, Try.results82, go_sem, f0, f1, f2]) rfl ⟨_, rfl, F3.out, F4.out⟩
end Go.Proofs.Ytfhdgcndiljjcab

/- Contracts of TurnPlane, of the program and of the model. -/
namespace Go.Proofs.Ytfhdgcndiljjcab
open Go.RowKit Go.WideShapes Go.ChangeShapes Go.ChangeAt

set_option maxHeartbeats 1000000 in
set_option maxRecDepth 100000 in
theorem l03Zero_any (m : Int) (d : Nat) (w : World) (hd : d ≤ 1000) :
    Calls Try.prog 33 #[.int .i64 d] w fun e w' => ∃ v, e = .returned v ∧ OwnR w' w.heap.size w'.heap.size v (Pl.tab m d fun _ _ => 0) ∧ Below w.heap.size w w' := by
  have HM2 := Lib.hid (fun (n : Nat) (W : World) (hn : n ≤ 1001) => run_make_row' (P := Try.prog) 22 2 (.int .i64 0) 8 Try.underlying22 info64 rfl .i64 .i64 n (by omega) (by omega) W)
  go_enter Try.func33, Try.ntmps33
  go_wp2
  go_loopw [3, 4] (fun r i wr => ∃ k : Nat, k ≤ d + 1 ∧ i = .int .i64 k ∧ OwnR wr w.heap.size wr.heap.size r ((Pl.tab m d fun _ _ => 0).take k) ∧ Below w.heap.size w wr) (fun _ i _ => d + 1 - (intOf i).toNat)
  case atStart => exact ⟨0, Nat.zero_le _, rfl, by simpa using OwnR.none0 w, below_one _ _⟩
  case round =>
    obtain ⟨k, hk, rfl, hown, hbel⟩ := hrel
    have HB := Lib.hid hbel
    have HO := Lib.hid hown
    have hsz := hbel.size
    clear hbel
    by_cases hlt : k < d + 1
    · obtain ⟨N, hN⟩ : ∃ N, d - k + 1 = N := ⟨_, rfl⟩
      have hmk := fun W => HM2.out N W (by omega)
      have HN := Lib.hid hN
      have hlen : ((Pl.tab m d fun _ _ => 0).take k).length ≤ 1000000000000 := by rw [List.length_take, Pl.tab_length]; omega
      have hrow : Ser.cut m (d - k) (fun _ => 0) = List.replicate N 0 := by rw [Ser.cut_zero, hN]
      have hst : (Pl.tab m d fun _ _ => 0).take (k + 1) = (Pl.tab m d fun _ _ => 0).take k ++ [List.replicate N 0] := by rw [Pl.tab_take_succ m d _ k (by omega), hrow]
      have HST := Lib.hid hst
      have hd1 : (d : Int) - (k : Int) + 1 = (N : Int) := by omega
      have hkd : (k : Int) ≤ (d : Int) := by omega
      have hNm : N ≤ maxLen := by unfold maxLen; omega
      clear hst hrow hN hown
      go_wp2_with (at_builtin; refine wp_pushU _ _ _ (by rfl) (by rfl) Try.underlying23 w.heap.size wr.heap.size _ _ (by rfl) (HO.out.keep (below_one _ _)) (below_one wr _).size (.slice (some ⟨wr.heap.size, 0, none⟩) N N) (List.replicate N 0) ((OwnI.made wr N hNm).more hsz) (fun g hg => made_from hg) (wr.heap.size + 1) (by simp) (by rfl) hlen (Nat.le_trans hsz (below_one wr _).size) ?_; intro v' w1 ho1 hpb)
      have HO1 := Lib.hid ho1
      have HB1 := Lib.hid ((HB.out.trans ((below_one wr (.cells (madeCells #[.int .i64 0] N) 2)).mono hsz)).trans hpb)
      clear ho1 hpb
      go_wp2
      go_roundw
      case rel => exact ⟨k + 1, by omega, by go_num, by rw [HST.out]; exact HO1.out, HB1.out⟩
      case measure => simp only [intOf]; omega
    · obtain rfl : k = d + 1 := by omega
      have ho := HO.out
      rw [Pl.tab_take_all] at ho
      have HF := Lib.hid ho
      clear ho hown
      go_wp2
      go_ret
      exact ⟨_, rfl, HF.out, HB.out⟩
def turP := oneP fun m d t => Pl.tab m d fun i j => Pl.pc t j i
theorem turP_len (m : Int) (t : List (List Int)) : szT (turP m t).2.1 ≤ 1048576 := oneP_len _ m t (fun _ h => szT_ok (h.tab _))
end Go.Proofs.Ytfhdgcndiljjcab

