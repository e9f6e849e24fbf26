/- Texts of contracts, joined. -/
import Derived.Test.YtfhdgcndiljjcaaGreatDoorMgab
import Derived.Test.YtfhdgcndiljjcaaGreatDoorMgaa
import Derived.WalkSpells
import Derived.StillTailTactics
/- Contracts of monomials, multiples and products of series, of the program. -/
namespace Go.Proofs.YtfhdgcndiljjcaaGreatDoor
open Go.RowKit Go.WideShapes Go.ChangeShapes Go.ChangeAt

/-- a block of one number -/
def Cel (w : World) (g : Nat) (x : Int) : Prop := w.cell? ⟨g, 0, none⟩ = some (.int .i64 x) ∧ g < w.heap.size
theorem Cel.new (w : World) (x : Int) : Cel (w.alloc (.cells #[.int .i64 x] 2)) w.heap.size x := by
  refine ⟨?_, by simp⟩
  rw [World.cell?_alloc_at _ _ _ _ rfl]; rfl
theorem Cel.keep {w w' : World} {g : Nat} {x : Int} (h : Cel w g x) (hb : Below w.heap.size w w') : Cel w' g x :=
  ⟨(hb.cell (p := ⟨g, 0, none⟩) h.2).trans h.1, Nat.lt_of_lt_of_le h.2 hb.size⟩

theorem monoC_any (n k : Nat) (g g' : Nat) (c : Int) (W : World) (h1 : Cel W g k) (h2 : Cel W g' c) :
    Calls Tryz.prog 100 #[.int .i64 n, .pointer (some ⟨g, 0, none⟩), .pointer (some ⟨g', 0, none⟩)] W fun e w' => e = .returned (.int .i64 (Ser.mon k c n)) ∧ Below W.heap.size W w' := by
  obtain ⟨x1, _⟩ := h1
  obtain ⟨x2, _⟩ := h2
  by_cases h : n = k
  · subst h
    have HE := Lib.hid (show Ser.mon n c n = c by unfold Ser.mon; rw [if_pos rfl])
    go_enter Tryz.func100, Tryz.ntmps100
    go_wp2
    go_ret
    exact ⟨ret_int HE.out.symm, Below.refl _ _⟩
  · have HE := Lib.hid (show Ser.mon k c n = 0 by unfold Ser.mon; rw [if_neg h])
    have hn : ¬ (n : Int) = (k : Int) := by omega
    obtain ⟨n1, n2⟩ : ((n : Int) == (k : Int)) = false ∧ ((n : Int) != (k : Int)) = true := ⟨by simpa using hn, by simpa using hn⟩
    clear h
    go_enter Tryz.func100, Tryz.ntmps100
    go_wp2
    go_ret
    exact ⟨ret_int HE.out.symm, Below.refl _ _⟩

theorem mon_bd (k : Nat) (c lo hi : Int) (h1 : lo ≤ 0) (h2 : 0 ≤ hi) (h3 : lo ≤ c) (h4 : c ≤ hi) (n : Nat) : lo ≤ Ser.mon k c n ∧ Ser.mon k c n ≤ hi := by
  unfold Ser.mon; split <;> omega

set_option maxHeartbeats 2000000 in
theorem monomial_any (m : Int) (d k : Nat) (c : Int) (w : World) (h1 : 1 ≤ m) (h2 : m ≤ 10000) (hd : d ≤ 1000) (h3 : -1000000 ≤ c) (h4 : c ≤ 1000000) :
    Calls Tryz.prog 75 #[.int .i64 m, .int .i64 d, .int .i64 k, .int .i64 c] w fun e w' => ∃ v, e = .returned (.agg #[.int .i64 m, v]) ∧ OwnI w' w.heap.size v (Ser.cut m d (Ser.mon k c)) ∧ Below w.heap.size w w' := by
  obtain ⟨W, hW⟩ : ∃ W, ((w.alloc (.cells #[.int .i64 k] 2)).alloc (.cells #[.int .i64 c] 2)).alloc (.cells #[.int .i64 0, .slice none 0 0] 71) = W := ⟨_, rfl⟩
  have hwb : Below w.heap.size w W := by rw [← hW]; exact below_alloc _ (below_alloc _ (below_one _ _))
  have b1 : Cel W w.heap.size k := by rw [← hW]; exact ((Cel.new w k).keep (below_one _ _)).keep (below_one _ _)
  have b2 : Cel W (w.heap.size + 1) c := by
    rw [← hW]
    have := (Cel.new (w.alloc (.cells #[.int .i64 k] 2)) c).keep (below_one _ (.cells #[.int .i64 0, .slice none 0 0] 71))
    simpa using this
  have v3 : Var2 W (w.heap.size + 1 + 1) (.int .i64 0) (.slice none 0 0) := by
    rw [← hW]
    have := Var2.new ((w.alloc (.cells #[.int .i64 k] 2)).alloc (.cells #[.int .i64 c] 2)) (.int .i64 0) (.slice none 0 0)
    simpa using this
  have V3 := Lib.hid v3
  have HB := Lib.hid hwb
  have HW := Lib.hid hW
  have HS := Lib.hid (seriesOf_any m d 100 #[.pointer (some ⟨w.heap.size, 0, none⟩), .pointer (some ⟨w.heap.size + 1, 0, none⟩)] (Ser.mon k c) W h1 h2 hd
    (fun n _ => mon_bd k c _ _ (by omega) (by omega) (by omega) (by omega) n)
    (enters_fn Tryz.func100 (of_decide_eq_true (by kernel_rfl)) rfl)
    (fun n W1 hn hb => monoC_any n k _ _ c W1 (b1.keep hb) (b2.keep hb)))
  obtain ⟨L, hL⟩ : ∃ L, Ser.cut m d (Ser.mon k c) = L := ⟨_, rfl⟩
  rw [hL] at HS ⊢
  clear b1 b2 v3 hwb hW hL
  go_enter Tryz.func75, Tryz.ntmps75
  go_wp2_with fail
  rw [HW.out]
  refine HS.out.mono ?_
  rintro e w2 ⟨v, rfl, ho, hb⟩
  obtain ⟨A2, c2, rfl, _⟩ := ho.form
  have hv := V3.out.keep hb
  have q0 := hv.c0
  have q1 := hv.c1
  have q2 := hv.fz 0
  have q3 := hv.fz 1
  obtain ⟨f0, f1, f2, f3⟩ := fin_var (w := w) hv ho (by have := V3.out.lt; omega) (by omega) (below_step HB.out hb) (.int .i64 m) (.slice A2 L.length c2)
  have F2 := Lib.hid f2
  have F3 := Lib.hid f3
  clear f2 f3 hv ho hb
  go_wp2
  exact bodyPost_ret (v := .agg #[.int .i64 m, .slice A2 L.length c2]) (by simp [results, Tryz.results75, go_sem, f0, f1]) rfl ⟨_, rfl, F2.out, F3.out⟩

theorem mul_bd {x y : Int} (h1 : 0 ≤ x) (h2 : x ≤ 10000) (h3 : -10000 ≤ y) (h4 : y ≤ 10000) : -100000000 ≤ x * y ∧ x * y ≤ 100000000 := by
  constructor
  · have := Int.mul_le_mul_of_nonneg_left (c := x) h3 h1
    have e : x * -10000 = -(x * 10000) := Int.mul_neg _ _
    omega
  · have := Int.mul_le_mul_of_nonneg_left (c := x) h4 h1
    omega
set_option maxHeartbeats 1000000 in
theorem scaledC_any (n : Nat) (g g' : Nat) (m : Int) (A : Option Addr) (c : Nat) (l : List Int) (k : Int) (W : World)
    (hb : Box W g m A l.length c) (hb' : Cel W g' k) (hr : RI W A l) (h1 : n < l.length) (h3 : 0 ≤ Ser.co l n) (h4 : Ser.co l n ≤ 10000) (h5 : -10000 ≤ k) (h6 : k ≤ 10000) :
    Calls Tryz.prog 118 #[.int .i64 n, .pointer (some ⟨g, 0, none⟩), .pointer (some ⟨g', 0, none⟩)] W fun e w' => e = .returned (.int .i64 (Ser.co l n * k)) ∧ Below W.heap.size W w' := by
  obtain ⟨b, off, rfl, hlt, hc⟩ := hr.at n h1
  obtain ⟨x1, x2, _⟩ := hb
  obtain ⟨y1, _⟩ := hb'
  obtain ⟨X, hX⟩ : ∃ X, Ser.co l n = X := ⟨_, rfl⟩
  rw [hX] at hc h3 h4 ⊢
  obtain ⟨p1, p2⟩ := mul_bd h3 h4 h5 h6
  have j1 : (0 : Int) ≤ (n : Int) := by omega
  have j2 : (n : Int) < (l.length : Int) := by omega
  clear hr hX
  go_enter Tryz.func118, Tryz.ntmps118
  go_wp2
  go_quiet (fail)
  go_wp2
  go_ret
  exact ⟨rfl, below_drewN (Below.refl _ _) _⟩

def scaL (m : Int) (d : Nat) (l : List Int) (k : Int) : List Int := Ser.cut m d fun n => Ser.co l n * k
set_option maxHeartbeats 2000000 in
set_option maxRecDepth 100000 in
theorem scaled_any (m : Int) (d : Nat) (A : Option Addr) (c : Nat) (l : List Int) (k : Int) (w : World) (hs : SerOk m d l) (hr : RI w A l) (h5 : -10000 ≤ k) (h6 : k ≤ 10000) :
    Calls Tryz.prog 109 #[.agg #[.int .i64 m, .slice A l.length c], .int .i64 k] w fun e w' => ∃ v, e = .returned (.agg #[.int .i64 m, v]) ∧ OwnI w' w.heap.size v (scaL m d l k) ∧ Below w.heap.size w w' := by
  obtain ⟨W, hW⟩ : ∃ W, (((w.alloc (.cells #[.int .i64 m, .slice A l.length c] 71)).alloc (.cells #[.int .i64 k] 2)).alloc (.cells #[.int .i64 0, .slice none 0 0] 71)) = W := ⟨_, rfl⟩
  have hwb : Below w.heap.size w W := by rw [← hW]; exact below_alloc _ (below_alloc _ (below_one _ _))
  have b1 : Box W w.heap.size m A l.length c := by rw [← hW]; exact ((Box.new w m A l.length c).keep (below_one _ _)).keep (below_one _ _)
  have b2 : Cel W (w.heap.size + 1) k := by
    rw [← hW]
    have := (Cel.new (w.alloc (.cells #[.int .i64 m, .slice A l.length c] 71)) k).keep (below_one _ (.cells #[.int .i64 0, .slice none 0 0] 71))
    simpa using this
  have v3 : Var2 W (w.heap.size + 1 + 1) (.int .i64 0) (.slice none 0 0) := by
    rw [← hW]
    have := Var2.new ((w.alloc (.cells #[.int .i64 m, .slice A l.length c] 71)).alloc (.cells #[.int .i64 k] 2)) (.int .i64 0) (.slice none 0 0)
    simpa using this
  have B1 := Lib.hid b1
  have B2 := Lib.hid b2
  have V3 := Lib.hid v3
  have HB := Lib.hid hwb
  have HW := Lib.hid hW
  have R1 := Lib.hid (hr.below hwb)
  have HS := Lib.hid (fun W0 (h0 : Below W.heap.size W W0) => seriesOf_any m d 118 #[.pointer (some ⟨w.heap.size, 0, none⟩), .pointer (some ⟨w.heap.size + 1, 0, none⟩)] (fun n => Ser.co l n * k) W0 (by have := hs.m1; omega) hs.m2 (by have := hs.d2; omega)
    (fun n _ => by have h1 := hs.red n; have h3 := hs.m2; have := mul_bd h1.1 (by omega) h5 h6; omega)
    (enters_fn Tryz.func118 (of_decide_eq_true (by kernel_rfl)) rfl)
    (fun n W1 hn hb => by
      have h1 := hs.red n
      have h3 := hs.m2
      have hb2 := h0.trans (hb.mono h0.size)
      exact scaledC_any n _ _ m A c l k W1 (B1.out.keep hb2) (B2.out.keep hb2) (R1.out.below hb2) (by rw [hs.len]; omega) (by omega) (by omega) h5 h6))
  have HL := Lib.hid hs.len
  have HD := Lib.hid hs.d2
  obtain ⟨L, hLL⟩ : ∃ L, scaL m d l k = L := ⟨_, rfl⟩
  unfold scaL at hLL ⊢
  rw [hLL] at HS ⊢
  clear b1 b2 v3 hwb hW hr hs hLL
  go_enter Tryz.func109, Tryz.ntmps109
  go_wp2
  rw [HW.out]
  obtain ⟨x1, x2, x3⟩ := B1.out
  go_region_held3 (fun w' => w'.cell? ⟨w.heap.size, 0, none⟩ = some (.int .i64 m) ∧ w'.cell? ⟨w.heap.size, 1, none⟩ = some (.slice A l.length c) ∧ w.heap.size < w'.heap.size) (first | exact ⟨x1, x2, x3⟩ | exact box_store (by omega) (by assumption) | exact box_call (by assumption) (by assumption)) (first
    | (go_at_call 44; refine (degree_nat _ _ _ _ d _ HL.out (by have := HD.out; omega)).mono ?_; rintro e1 w1 ⟨rfl, hb1⟩)
    | (go_at_call 99; refine (HS.out _ ((below_drew0 W).trans hb1)).mono ?_; rintro e2 w2 ⟨v, rfl, ho2, hb2⟩; obtain ⟨A2, c2, rfl, _⟩ := ho2.form; have hv := V3.out.keep (((below_drew0 W).trans hb1).trans (hb2.mono ((below_drew0 W).trans hb1).size)); have q0 := hv.c0; have q1 := hv.c1; have q2 := hv.fz 0; have q3 := hv.fz 1))
  all_goals
    have hz := ((below_drew0 W).trans hb1).size
    have hg := x3
    have hw2 : Below w.heap.size w w2 := (HB.out.trans (((below_drew0 W).trans hb1).mono HB.out.size)).trans (hb2.mono (by have := HB.out.size; omega))
    obtain ⟨f0, f1, f2, f3⟩ := fin_var (w := w) hv ho2 (by have := V3.out.lt; omega) (by omega) hw2 (.int .i64 m) (.slice A2 L.length c2)
    have F2 := Lib.hid f2
    have F3 := Lib.hid f3
    clear f2 f3 hw2 ho2 hb2 hb1
    go_wp2
    refine bodyPost_ret (v := .agg #[.int .i64 m, .slice A2 L.length c2]) (by simp [results, Tryz.results109, go_sem, f0, f1]) rfl ⟨_, rfl, F2.out, F3.out⟩

/-! products -/
set_option maxHeartbeats 4000000 in
theorem productAt_any (m : Int) (d n : Nat) (A : Option Addr) (c : Nat) (l : List Int) (m' : Int) (A' : Option Addr) (c' : Nat) (l' : List Int) (w : World) (hs : SerOk m d l) (hs' : SerOk m d l') (hr : RI w A l) (hr' : RI w A' l') (hn : n ≤ d) :
    Calls Tryz.prog 120 #[.agg #[.int .i64 m, .slice A l.length c], .agg #[.int .i64 m', .slice A' l'.length c'], .int .i64 n] w fun e w' => e = .returned (.int .i64 (Ser.cv n (Ser.co l) (Ser.co l'))) ∧ Below w.heap.size w w' := by
  obtain ⟨W, hW⟩ : ∃ W, (w.alloc (.cells #[.int .i64 m, .slice A l.length c] 71)).alloc (.cells #[.int .i64 m', .slice A' l'.length c'] 71) = W := ⟨_, rfl⟩
  obtain ⟨b1, b2, hwb⟩ := box2_new w m m' A A' l.length c l'.length c' W hW
  obtain ⟨x1, x2, _⟩ := b1
  obtain ⟨y1, y2, _⟩ := b2
  have HB := Lib.hid hwb
  have HW := Lib.hid hW
  have R1 := Lib.hid (hr.below hwb)
  have R2 := Lib.hid (hr'.below hwb)
  have HS := Lib.hid hs
  have HS' := Lib.hid hs'
  have HD := hs.d2
  obtain ⟨f, hf⟩ : ∃ f, f = fun i => Ser.co l i * Ser.co l' (n - i) := ⟨_, rfl⟩
  have HE := Lib.hid (show Ser.cv n (Ser.co l) (Ser.co l') = Ser.psum f (n + 1) by rw [hf]; exact Ser.cv_psum _ _ _)
  have HF := Lib.hid hf
  clear hwb hW hr hr' hs hs' hf
  go_enter Tryz.func120, Tryz.ntmps120
  go_wp2
  rw [HW.out]
  go_loopw [7, 8, 11] (fun s _ i wr => ∃ k : Nat, k ≤ n + 1 ∧ i = .int .i64 k ∧ s = .int .i64 (Ser.psum f k) ∧ 0 ≤ Ser.psum f k ∧ Ser.psum f k ≤ k * 100000000 ∧ ∃ q, wr = W.drewN q) (fun _ _ i _ => n + 1 - (intOf i).toNat)
  case atStart => exact ⟨0, Nat.zero_le _, rfl, rfl, Int.le_refl _, Int.le_refl _, 0, rfl⟩
  case round =>
    obtain ⟨k, hk, rfl, rfl, z1, z2, q, rfl⟩ := hrel
    by_cases hlt : k < n + 1
    · obtain ⟨b, off, rfl, hb, hc⟩ := R1.out.at k (by have := HS.out.len; omega)
      obtain ⟨b', off', rfl, hb', hc'⟩ := R2.out.at (n - k) (by have := HS'.out.len; omega)
      have r1 := HS.out.red k
      have r2 := HS'.out.red (n - k)
      have m2 := HS.out.m2
      have hst : Ser.psum f (k + 1) = Ser.psum f k + Ser.co l k * Ser.co l' (n - k) := by rw [Ser.psum, HF.out]
      obtain ⟨X, hX⟩ : ∃ X, Ser.co l k = X := ⟨_, rfl⟩
      obtain ⟨Y, hY⟩ : ∃ Y, Ser.co l' (n - k) = Y := ⟨_, rfl⟩
      obtain ⟨P, hP⟩ : ∃ P, Ser.psum f k = P := ⟨_, rfl⟩
      rw [hX] at hc r1 hst
      rw [hY] at hc' r2 hst
      rw [hP] at z1 z2 hst
      obtain ⟨p1, p2⟩ := mul_bd (x := X) (y := Y) r1.1 (by omega) (by omega) (by omega)
      have p3 : 0 ≤ X * Y := Int.mul_nonneg r1.1 r2.1
      have l1 := HS.out.len
      have l2 := HS'.out.len
      have j0 : (0 : Int) ≤ (k : Int) := by omega
      have j1 : (k : Int) < (l.length : Int) := by omega
      have j3 : (0 : Int) ≤ (n : Int) - (k : Int) := by omega
      have j4 : (n : Int) - (k : Int) < (l'.length : Int) := by omega
      have j5 : ((n : Int) - (k : Int)).toNat = n - k := by omega
      have HST := Lib.hid hst
      have HP := Lib.hid hP
      clear hX hY hP hst l1 l2
      rw [HP.out]
      go_wp2
      go_quiet (fail)
      go_wp2
      go_roundw
      case rel => exact ⟨k + 1, by omega, by go_num, by rw [HST.out], by rw [HST.out]; omega, by rw [HST.out]; omega, _, rfl⟩
      case measure => simp only [intOf]; omega
    · obtain rfl : k = n + 1 := by omega
      go_wp2
      go_ret
      exact ⟨ret_int HE.out.symm, below_drewN HB.out _⟩
end Go.Proofs.YtfhdgcndiljjcaaGreatDoor

/- Contracts of sums and multiples of grids. -/
namespace Go.Proofs.YtfhdgcndiljjcaaGreatDoor
open Go.RowKit Go.WideShapes Go.ChangeShapes Go.ChangeAt

theorem RP.some {w : World} {A : Option Addr} {t : List (List Int)} (h : RP w A t) (ht : 0 < t.length) : ∃ b off, A = some ⟨b, off, none⟩ := by
  obtain ⟨b, off, _, _, e, _⟩ := h.at 0 ht
  exact ⟨b, off, e⟩
/-- one number of a grid: what the walk reads -/
theorem GBox.num {W : World} {g : Nat} {m : Int} {d b off c : Nat} {t : List (List Int)} (hb : GBox W g m d (some ⟨b, off, none⟩) t.length c) (hs : Pl.Ok m d t) (hr : RP W (some ⟨b, off, none⟩) t) (i j : Nat) (hij : i + j ≤ d) :
    ∃ b' off' c' L N, L = d + 1 ∧ N = d - i + 1 ∧ W.cell? ⟨g, 2, none⟩ = some (.slice (some ⟨b, off, none⟩) L c) ∧ W.cell? ⟨b, off + i, none⟩ = some (.slice (some ⟨b', off', none⟩) N c') ∧ W.cell? ⟨b', off' + j, none⟩ = some (.int .i64 (Pl.pc t i j)) := by
  obtain ⟨_, _, x2, _⟩ := hb
  obtain ⟨b0, off0, b', off', c', e, -, k1, -, k2⟩ := hr.num i j (by rw [hs.len]; omega) (by rw [hs.row i (by omega)]; omega)
  injection e with e
  injection e with e1 e2
  subst e1 e2
  exact ⟨b', off', c', t.length, _, hs.len, hs.row i (by omega), x2, k1, k2⟩
end Go.Proofs.YtfhdgcndiljjcaaGreatDoor

/- Contract of the product of grids. -/
namespace Go.Proofs.YtfhdgcndiljjcaaGreatDoor
open Go.RowKit Go.WideShapes Go.ChangeShapes Go.ChangeAt

theorem inner_bd {m : Int} {d : Nat} {t t' : List (List Int)} (hs : Pl.Ok m d t) (hs' : Pl.Ok m d t') (i k j : Nat) (n : Nat) (hn : n ≤ 11) :
    0 ≤ Ser.psum (fun l => Pl.pc t k l * Pl.pc t' (i - k) (j - l)) n ∧ Ser.psum (fun l => Pl.pc t k l * Pl.pc t' (i - k) (j - l)) n ≤ 1100000000 := by
  have := Pl.psum_bd2 (fun l => Pl.pc t k l * Pl.pc t' (i - k) (j - l)) 100000000 (fun l => by
    have h1 := hs.pc k l
    have h2 := hs'.pc (i - k) (j - l)
    have h3 := hs.m2
    exact Pl.prod_bd h1.1 (by omega) h2.1 (by omega)) n
  refine ⟨this.1, ?_⟩
  have h := this.2
  omega
theorem outer_bd {m : Int} {d : Nat} {t t' : List (List Int)} (hs : Pl.Ok m d t) (hs' : Pl.Ok m d t') (i j : Nat) (hj : j ≤ 10) (n : Nat) (hn : n ≤ 11) :
    0 ≤ Ser.psum (fun k => Ser.psum (fun l => Pl.pc t k l * Pl.pc t' (i - k) (j - l)) (j + 1)) n ∧ Ser.psum (fun k => Ser.psum (fun l => Pl.pc t k l * Pl.pc t' (i - k) (j - l)) (j + 1)) n ≤ 12100000000 := by
  have := Pl.psum_bd2 (fun k => Ser.psum (fun l => Pl.pc t k l * Pl.pc t' (i - k) (j - l)) (j + 1)) 1100000000 (fun k => inner_bd hs hs' i k j (j + 1) (by omega)) n
  refine ⟨this.1, ?_⟩
  have h := this.2
  omega
set_option maxHeartbeats 2000000 in
set_option maxRecDepth 100000 in
theorem gtimesC_any (i j g g' : Nat) (m : Int) (d : Nat) (A : Option Addr) (c : Nat) (t : List (List Int)) (A' : Option Addr) (c' : Nat) (t' : List (List Int)) (W : World) (hb : GBox W g m d A t.length c) (hb' : GBox W g' m d A' t'.length c') (hs : Pl.Ok m d t) (hs' : Pl.Ok m d t') (hr : RP W A t) (hr' : RP W A' t') (hij : i + j ≤ d) :
    Calls Tryz.prog 125 #[.int .i64 i, .int .i64 j, .pointer (some ⟨g, 0, none⟩), .pointer (some ⟨g', 0, none⟩)] W fun e w' => e = .returned (.int .i64 (Pl.mul2 (Pl.pc t) (Pl.pc t') i j)) ∧ Below W.heap.size W w' := by
  obtain ⟨b, off, rfl⟩ := hr.some (by rw [hs.len]; omega)
  obtain ⟨b', off', rfl⟩ := hr'.some (by rw [hs'.len]; omega)
  have HB1 := Lib.hid hb
  have HB2 := Lib.hid hb'
  have HS := Lib.hid hs
  have HS' := Lib.hid hs'
  have HR := Lib.hid hr
  have HR' := Lib.hid hr'
  have hd2 := hs.d2
  have HM : Hid (Pl.mul2 (Pl.pc t) (Pl.pc t') i j = Ser.psum (fun k => Ser.psum (fun l => Pl.pc t k l * Pl.pc t' (i - k) (j - l)) (j + 1)) (i + 1)) := Lib.hid rfl
  obtain ⟨R, hR⟩ : ∃ R, Pl.mul2 (Pl.pc t) (Pl.pc t') i j = R := ⟨_, rfl⟩
  rw [hR] at HM ⊢
  obtain ⟨F, hF⟩ : ∃ F, (fun k => Ser.psum (fun l => Pl.pc t k l * Pl.pc t' (i - k) (j - l)) (j + 1)) = F := ⟨_, rfl⟩
  have HFF := Lib.hid hF
  rw [hF] at HM
  have HOB : Hid (∀ n, n ≤ 11 → 0 ≤ Ser.psum F n ∧ Ser.psum F n ≤ 12100000000) := Lib.hid (fun n hn => by rw [← hF]; exact outer_bd hs hs' i j (by omega) n hn)
  clear hb hb' hr hr' hs hs' hR hF
  go_enter Tryz.func125, Tryz.ntmps125
  go_wp2
  go_loopw [7, 12] (fun s q wr => ∃ k : Nat, k ≤ i + 1 ∧ q = .int .i64 k ∧ s = .int .i64 (Ser.psum F k) ∧ Below W.heap.size W wr) (fun _ q _ => i + 1 - (intOf q).toNat)
  case atStart => exact ⟨0, Nat.zero_le _, rfl, rfl, Below.refl _ _⟩
  case round =>
    obtain ⟨k, hk, rfl, rfl, hbel⟩ := hrel
    have HB := Lib.hid hbel
    clear hbel
    by_cases hlt : k < i + 1
    · obtain ⟨O, hO⟩ : ∃ O, Ser.psum F k = O := ⟨_, rfl⟩
      have hob := HOB.out k (by omega)
      rw [hO] at hob ⊢
      have HO := Lib.hid hO
      obtain ⟨hob1, hob2⟩ := hob
      obtain ⟨G, hG⟩ : ∃ G, (fun l => Pl.pc t k l * Pl.pc t' (i - k) (j - l)) = G := ⟨_, rfl⟩
      have HGG := Lib.hid hG
      have HIB : Hid (∀ n, n ≤ 11 → 0 ≤ Ser.psum G n ∧ Ser.psum G n ≤ 1100000000) := Lib.hid (fun n hn => by rw [← hG]; exact inner_bd HS.out HS'.out i k j n hn)
      have HFK : Hid (F k = Ser.psum G (j + 1)) := Lib.hid (by rw [← HFF.out, ← hG])
      have j1 : (k : Int) < (i : Int) + 1 := by omega
      clear hO hG
      go_wp2
      go_loopw [7, 17] (fun s q wr => ∃ l : Nat, l ≤ j + 1 ∧ q = .int .i64 l ∧ s = .int .i64 (O + Ser.psum G l) ∧ Below W.heap.size W wr) (fun _ q _ => j + 1 - (intOf q).toNat)
      case atStart => exact ⟨0, Nat.zero_le _, rfl, by simp [Ser.psum], HB.out⟩
      case round =>
        clear HB
        obtain ⟨l, hl, rfl, rfl, hbel⟩ := hrel
        have HB := Lib.hid hbel
        by_cases hlt2 : l < j + 1
        · obtain ⟨p1, p2, p3, L, N, hL, hN, x1, x2, x3⟩ := (HB1.out.keep hbel).num HS.out (HR.out.below hbel) k l (by omega)
          obtain ⟨r, hr⟩ : ∃ r, i - k = r := ⟨_, rfl⟩
          obtain ⟨s, hs⟩ : ∃ s, j - l = s := ⟨_, rfl⟩
          obtain ⟨q1, q2, q3, L', N', hL', hN', y1, y2, y3⟩ := (HB2.out.keep hbel).num HS'.out (HR'.out.below hbel) r s (by omega)
          have hG1 : G l = Pl.pc t k l * Pl.pc t' r s := by
            rw [← HGG.out]
            show Pl.pc t k l * Pl.pc t' (i - k) (j - l) = _
            rw [hr, hs]
          have hst : Ser.psum G (l + 1) = Ser.psum G l + Pl.pc t k l * Pl.pc t' r s := by rw [Ser.psum, hG1]
          clear hG1
          obtain ⟨P, hP⟩ : ∃ P, Ser.psum G l = P := ⟨_, rfl⟩
          have hib := HIB.out l (by omega)
          have c1 := HS.out.pc k l
          have c2 := HS'.out.pc r s
          have hm := HS.out.m2
          obtain ⟨X, hX⟩ : ∃ X, Pl.pc t k l = X := ⟨_, rfl⟩
          obtain ⟨Y, hY⟩ : ∃ Y, Pl.pc t' r s = Y := ⟨_, rfl⟩
          rw [hX] at x3 c1 hst
          rw [hY] at y3 c2 hst
          rw [hP] at hib hst ⊢
          have hpr := Pl.prod_bd c1.1 (by omega) c2.1 (by omega)
          have HST := Lib.hid hst
          have w1 : IntKind.i64.wrap (X * Y) = X * Y := by rw [IntKind.wrap_i64]; omega
          have w2 : IntKind.i64.wrap (O + P + X * Y) = O + P + X * Y := by rw [IntKind.wrap_i64]; omega
          have j2 : (0 : Int) ≤ (k : Int) := by omega
          have j3 : (k : Int) < (L : Int) := by omega
          have j4 : (0 : Int) ≤ (l : Int) := by omega
          have j5 : (l : Int) < (N : Int) := by omega
          have j6 : (i : Int) - (k : Int) = (r : Int) := by omega
          have j7 : (j : Int) - (l : Int) = (s : Int) := by omega
          have j8 : (r : Int) < (L' : Int) := by omega
          have j9 : (s : Int) < (N' : Int) := by omega
          have j10 : (0 : Int) ≤ (r : Int) := by omega
          have j11 : (0 : Int) ≤ (s : Int) := by omega
          clear hbel hL hN hL' hN' hst hP hib hX hY hr hs c1 c2 hpr
          go_wp2
          go_quiet (fail)
          go_wp2
          go_roundw
          case rel => exact ⟨l + 1, by omega, by go_num, by rw [HST.out, Int.add_assoc], below_drewN HB.out _⟩
          case measure => simp only [intOf]; omega
        · obtain rfl : l = j + 1 := by omega
          have HE : Hid (Ser.psum F (k + 1) = O + Ser.psum G (j + 1)) := Lib.hid (by rw [Ser.psum, HO.out, HFK.out])
          clear hbel
          go_wp2
          go_roundw
          case rel => exact ⟨k + 1, by omega, by go_num, by rw [HE.out], HB.out⟩
          case measure => simp only [intOf]; omega
    · obtain rfl : k = i + 1 := by omega
      go_wp2
      go_ret
      exact ⟨ret_int HM.out.symm, HB.out⟩
set_option maxHeartbeats 2000000 in
set_option maxRecDepth 100000 in
theorem gtimes_any (m : Int) (d : Nat) (A : Option Addr) (c : Nat) (t : List (List Int)) (A' : Option Addr) (c' : Nat) (t' : List (List Int)) (w : World) (hs : Pl.Ok m d t) (hs' : Pl.Ok m d t') (hr : RP w A t) (hr' : RP w A' t') :
    Calls Tryz.prog 116 #[.agg #[.int .i64 m, .int .i64 d, .slice A t.length c], .agg #[.int .i64 m, .int .i64 d, .slice A' t'.length c']] w fun e w' => ∃ v, e = .returned (.agg #[.int .i64 m, .int .i64 d, v]) ∧ OwnR w' w.heap.size w'.heap.size v (Pl.tab m d (Pl.mul2 (Pl.pc t) (Pl.pc t'))) ∧ Below w.heap.size w w' := by
  obtain ⟨W, hW, b1, b2, v3, hwb⟩ := gpro2 w m d A t.length c m d A' t'.length c'
  have HS := Lib.hid (filled_any m d 125 #[.pointer (some ⟨w.heap.size, 0, none⟩), .pointer (some ⟨w.heap.size + 1, 0, none⟩)] (Pl.mul2 (Pl.pc t) (Pl.pc t')) W (by have := hs.m1; omega) hs.m2 (by have := hs.d2; omega)
    (fun i j hij => by have := outer_bd hs hs' i j (by have := hs.d2; omega) (i + 1) (by have := hs.d2; omega); unfold Pl.mul2; omega) (enters_fn Tryz.func125 (of_decide_eq_true (by kernel_rfl)) rfl)
    (fun i j W1 hij hb => gtimesC_any i j _ _ m d A c t A' c' t' W1 (b1.keep hb) (b2.keep hb) hs hs' ((hr.below hwb).below hb) ((hr'.below hwb).below hb) hij))
  have HB := Lib.hid hwb
  have HW := Lib.hid hW
  have V3 := Lib.hid v3
  obtain ⟨T, hT⟩ : ∃ T, Pl.tab m d (Pl.mul2 (Pl.pc t) (Pl.pc t')) = T := ⟨_, rfl⟩
  rw [hT] at HS ⊢
  clear b1 b2 v3 hwb hW hr hr' hs hs' hT
  go_enter Tryz.func116, Tryz.ntmps116
  go_wp2_with fail
  rw [HW.out]
  refine HS.out.mono ?_
  rintro e w2 ⟨v, rfl, ho, hb⟩
  obtain ⟨A2, c2, rfl, -⟩ := ho.len
  have hv := V3.out.keep hb
  obtain ⟨q0, q1, q2, q3, q4, q5⟩ := hv.tells3
  obtain ⟨f0, f1, f2, f3, f4⟩ := fin_grid (w := w) hv ho (by have := V3.out.lt; omega) (by omega) (Nat.le_refl _) (below_step HB.out hb) (.int .i64 m) (.int .i64 d) (.slice A2 T.length c2)
  have F3 := Lib.hid (f3.low (show w.heap.size ≤ W.heap.size from HB.out.size))
  have F4 := Lib.hid f4
  unfold set3 at f0 f1 f2
  clear f3 f4 ho hv hb
  go_wp2
  exact bodyPost_ret (v := .agg #[.int .i64 m, .int .i64 d, .slice A2 T.length c2]) (by simp [results, Tryz.results116, go_sem, f0, f1, f2]) rfl ⟨_, rfl, F3.out, F4.out⟩
end Go.Proofs.YtfhdgcndiljjcaaGreatDoor

/- Contracts of the grids of series. -/
namespace Go.Proofs.YtfhdgcndiljjcaaGreatDoor
open Go.RowKit Go.WideShapes Go.ChangeShapes Go.ChangeAt

set_option maxHeartbeats 2000000 in
set_option maxRecDepth 100000 in
theorem frameOfSeries_any (m : Int) (A : Option Addr) (n c d : Nat) (w : World) (hn : n = d + 1) (hd : d ≤ 1000) :
    Calls Tryz.prog 123 #[.agg #[.int .i64 m, .slice A n c]] w fun e w' => e = .returned (.agg #[.int .i64 m, .int .i64 d]) ∧ Below w.heap.size w w' := by
  obtain ⟨W, hW⟩ : ∃ W, (w.alloc (.cells #[.int .i64 m, .slice A n c] 71)).alloc (.cells #[.int .i64 0, .int .i64 0] 61) = W := ⟨_, rfl⟩
  have hwb : Below w.heap.size w W := by rw [← hW]; exact below_alloc _ (below_one _ _)
  have b1 : Box W w.heap.size m A n c := by rw [← hW]; exact (Box.newT _ _ _ _ _ _).keep (below_one _ _)
  have v2 : VarC 61 W (w.heap.size + 1) #[.int .i64 0, .int .i64 0] := by
    rw [← hW]
    have := VarC.new 61 (w.alloc (.cells #[.int .i64 m, .slice A n c] 71)) #[.int .i64 0, .int .i64 0]
    simpa using this
  have HG := Lib.hid (fun W0 => degree_nat m A n c d W0 hn hd)
  have HB := Lib.hid hwb
  have HW := Lib.hid hW
  have V2 := Lib.hid v2
  obtain ⟨x1, x2, x3⟩ := b1
  clear hwb hW v2 hn
  go_enter Tryz.func123, Tryz.ntmps123
  go_wp2
  rw [HW.out]
  go_region_held3 (fun w' => w'.cell? ⟨w.heap.size, 0, none⟩ = some (.int .i64 m) ∧ w'.cell? ⟨w.heap.size, 1, none⟩ = some (.slice A n c) ∧ w.heap.size < w'.heap.size) (first | exact ⟨x1, x2, x3⟩ | exact box_store (by omega) (by assumption) | exact box_call (by assumption) (by assumption)) (first
    | (go_at_call 44; refine (HG.out _).mono ?_; rintro e1 w1 ⟨rfl, hb1⟩; have hv := V2.out.keep (below_step (below_drew0 _) hb1); obtain ⟨q0, q1, q2, q3⟩ := hv.tells2))
  all_goals
    have h2 := (hv.set 0 (.int .i64 m)).set 1 (.int .i64 d)
    obtain ⟨f0, f1, _⟩ := h2.tells2
    have HF := Lib.hid (((below_step HB.out (below_step (below_drew0 _) hb1)).setCell (p := ⟨w.heap.size + 1, 0, none⟩) (by show w.heap.size ≤ w.heap.size + 1; omega) (.int .i64 m)).setCell (p := ⟨w.heap.size + 1, 1, none⟩) (by show w.heap.size ≤ w.heap.size + 1; omega) (.int .i64 d))
    clear h2 hb1 hv
    go_wp2
    exact bodyPost_ret (v := .agg #[.int .i64 m, .int .i64 d]) (by simp [results, Tryz.results123, go_sem, f0, f1]) rfl ⟨rfl, HF.out⟩

theorem gosC_any (i j g : Nat) (m : Int) (d : Nat) (A : Option Addr) (c : Nat) (l : List Int) (W : World) (hb : Box W g m A l.length c) (hs : SerOk m d l) (hr : RI W A l) (hij : i + j ≤ d) :
    Calls Tryz.prog 124 #[.int .i64 i, .int .i64 j, .pointer (some ⟨g, 0, none⟩)] W fun e w' => e = .returned (.int .i64 (if i = 0 then Ser.co l j else 0)) ∧ Below W.heap.size W w' := by
  obtain ⟨_, x2, _⟩ := hb
  by_cases hi : i = 0
  · rw [if_pos hi]
    subst hi
    obtain ⟨b, off, rfl, hlt, hc⟩ := hr.at j (by rw [hs.len]; omega)
    obtain ⟨X, hX⟩ : ∃ X, Ser.co l j = X := ⟨_, rfl⟩
    rw [hX] at hc ⊢
    have j0 : (0 : Int) ≤ (j : Int) := by omega
    have j1 : (j : Int) < (l.length : Int) := by have := hs.len; omega
    clear hX hr hs
    go_enter Tryz.func124, Tryz.ntmps124
    go_wp2
    go_ret
    exact ⟨rfl, Below.refl _ _⟩
  · rw [if_neg hi]
    have hi2 : ¬ (i : Int) = 0 := by omega
    obtain ⟨n1, n2⟩ := ne_facts hi2
    clear hi hr hs
    go_enter Tryz.func124, Tryz.ntmps124
    go_wp2
    go_ret
    exact ⟨rfl, Below.refl _ _⟩
/-- the table of a(x) for k = 0, of a(y) else -/
def gosF (l : List Int) (k : Int) : Nat → Nat → Int := fun i j => if k = 0 then (if j = 0 then Ser.co l i else 0) else (if i = 0 then Ser.co l j else 0)
theorem gosF_turned (m : Int) (d : Nat) (l : List Int) : (Pl.tab m d fun i j => Pl.pc (Pl.tab m d fun i j => if i = 0 then Ser.co l j else 0) j i) = Pl.tab m d (gosF l 0) :=
  Pl.tab_congr (fun i j h => by
    rw [Pl.pc_tab (by omega), Int.emod_emod]
    unfold gosF
    rw [if_pos rfl])
theorem gosF_plain (m : Int) (d : Nat) (l : List Int) (k : Int) (hk : ¬ k = 0) : (Pl.tab m d fun i j => if i = 0 then Ser.co l j else 0) = Pl.tab m d (gosF l k) :=
  Pl.tab_congr (fun i j h => by unfold gosF; rw [if_neg hk])
set_option maxHeartbeats 2000000 in
set_option maxRecDepth 100000 in
theorem gridOfSeries_any (m : Int) (d : Nat) (A : Option Addr) (c : Nat) (l : List Int) (k : Int) (w : World) (hs : SerOk m d l) (hr : RI w A l) :
    Calls Tryz.prog 115 #[.agg #[.int .i64 m, .slice A l.length c], .int .i64 k] w fun e w' => ∃ v, e = .returned (.agg #[.int .i64 m, .int .i64 d, v]) ∧ OwnR w' w.heap.size w'.heap.size v (Pl.tab m d (gosF l k)) ∧ Below w.heap.size w w' := by
  obtain ⟨W, hW⟩ : ∃ W, (w.alloc (.cells #[.int .i64 m, .slice A l.length c] 71)).alloc (.cells #[.int .i64 0, .int .i64 0, .slice none 0 0] 63) = W := ⟨_, rfl⟩
  have hwb : Below w.heap.size w W := by rw [← hW]; exact below_alloc _ (below_one _ _)
  have b1 : Box W w.heap.size m A l.length c := by rw [← hW]; exact (Box.newT _ _ _ _ _ _).keep (below_one _ _)
  have v2 : VarC 63 W (w.heap.size + 1) #[.int .i64 0, .int .i64 0, .slice none 0 0] := by
    rw [← hW]
    have := VarC.new 63 (w.alloc (.cells #[.int .i64 m, .slice A l.length c] 71)) #[.int .i64 0, .int .i64 0, .slice none 0 0]
    simpa using this
  have HG := Lib.hid (fun W0 => frameOfSeries_any m A l.length c d W0 hs.len (by have := hs.d2; omega))
  have hm1 := hs.m1
  have HS := Lib.hid (fun W0 (h : Below W.heap.size W W0) => filled_any m d 124 #[.pointer (some ⟨w.heap.size, 0, none⟩)] (fun i j => if i = 0 then Ser.co l j else 0) W0 (by omega) hs.m2 (by have := hs.d2; omega)
    (fun i j hij => by have := hs.red j; have := hs.m2; split <;> omega) (enters_fn Tryz.func124 (of_decide_eq_true (by kernel_rfl)) rfl)
    (fun i j W1 hij hb => gosC_any i j _ m d A c l W1 ((b1.keep h).keep hb) hs (((hr.below hwb).below h).below hb) hij))
  have HT := Lib.hid (fun (W0 : World) (A0 : Option Addr) (c0 : Nat) (h : RP W0 A0 (Pl.tab m d fun i j => if i = 0 then Ser.co l j else 0)) => turned_any m d A0 c0 _ W0 (Pl.Ok.of_tab hs.m1 hs.m2 hs.d1 hs.d2 _) h)
  have HB := Lib.hid hwb
  have HW := Lib.hid hW
  have V3 := Lib.hid v2
  obtain ⟨x1, x2, x3⟩ := b1
  by_cases hk : k = 0
  · subst hk
    rw [gosF_turned] at HT
    obtain ⟨T0, hT0⟩ : ∃ T0, (Pl.tab m d fun i j => if i = 0 then Ser.co l j else 0) = T0 := ⟨_, rfl⟩
    obtain ⟨T, hT⟩ : ∃ T, Pl.tab m d (gosF l 0) = T := ⟨_, rfl⟩
    rw [hT0] at HS HT
    rw [hT] at HT ⊢
    clear hwb hW v2 hr hs hT hT0
    go_enter Tryz.func115, Tryz.ntmps115
    go_wp2_with fail
    rw [HW.out]
    refine (HG.out _).mono ?_
    rintro e w1 ⟨rfl, hb1⟩
    go_wp2_with fail
    refine (HS.out _ hb1).mono ?_
    rintro e w2 ⟨v, rfl, ho2, hb2⟩
    obtain ⟨A1, c1, rfl, hp⟩ := ho2.len
    have HP := Lib.hid (hp.below (below_one w2 (.cells #[.int .i64 m, .int .i64 d, .slice A1 T0.length c1] 63)))
    have hb12 := below_alloc (.cells #[.int .i64 m, .int .i64 d, .slice A1 T0.length c1] 63) (below_step hb1 hb2)
    clear ho2 hp
    go_wp2_with fail
    refine (HT.out _ _ _ HP.out).mono ?_
    rintro e w3 ⟨v, rfl, ho, hb3⟩
    obtain ⟨A2, c2, rfl, -⟩ := ho.len
    have hb := below_step hb12 hb3
    have hv := V3.out.keep hb
    obtain ⟨q0, q1, q2, q3, q4, q5⟩ := hv.tells3
    obtain ⟨f0, f1, f2, f3, f4⟩ := fin_grid (w := w) hv ho (by have := V3.out.lt; have := hb12.size; omega) (by omega) (Nat.le_refl _) (below_step HB.out hb) (.int .i64 m) (.int .i64 d) (.slice A2 T.length c2)
    have F3 := Lib.hid (f3.low (lo' := w.heap.size) (by have := V3.out.lt; have := hb12.size; omega))
    have F4 := Lib.hid f4
    unfold set3 at f0 f1 f2
    clear f3 f4 ho hv hb hb12
    go_wp2
    exact bodyPost_ret (v := .agg #[.int .i64 m, .int .i64 d, .slice A2 T.length c2]) (by simp [results, Tryz.results115, go_sem, f0, f1, f2]) rfl ⟨_, rfl, F3.out, F4.out⟩
  · obtain ⟨n1, n2⟩ := ne_facts hk
    rw [← gosF_plain m d l k hk]
    obtain ⟨T, hT⟩ : ∃ T0, (Pl.tab m d fun i j => if i = 0 then Ser.co l j else 0) = T0 := ⟨_, rfl⟩
    rw [hT] at HS ⊢
    clear hwb hW v2 hr hs hT HT
    go_enter Tryz.func115, Tryz.ntmps115
    go_wp2_with fail
    rw [HW.out]
    refine (HG.out _).mono ?_
    rintro e w1 ⟨rfl, hb1⟩
    go_wp2_with fail
    refine (HS.out _ hb1).mono ?_
    rintro e w2 ⟨v, rfl, ho2, hb2⟩
    obtain ⟨A2, c2, rfl, hp⟩ := ho2.len
    have hb := below_alloc (.cells #[.int .i64 m, .int .i64 d, .slice A2 T.length c2] 63) (below_step hb1 hb2)
    have ho := ho2.keep (below_one w2 (.cells #[.int .i64 m, .int .i64 d, .slice A2 T.length c2] 63))
    have hv := V3.out.keep hb
    obtain ⟨q0, q1, q2, q3, q4, q5⟩ := hv.tells3
    obtain ⟨f0, f1, f2, f3, f4⟩ := fin_grid (w := w) hv ho (by have := V3.out.lt; have := hb1.size; omega) (by omega) (below_one w2 _).size (below_step HB.out hb) (.int .i64 m) (.int .i64 d) (.slice A2 T.length c2)
    have F3 := Lib.hid (f3.low (lo' := w.heap.size) (by have := V3.out.lt; have := hb1.size; omega))
    have F4 := Lib.hid f4
    unfold set3 at f0 f1 f2
    clear f3 f4 ho hv hb ho2 hp
    go_wp2
    exact bodyPost_ret (v := .agg #[.int .i64 m, .int .i64 d, .slice A2 T.length c2]) (by simp [results, Tryz.results115, go_sem, f0, f1, f2]) rfl ⟨_, rfl, F3.out, F4.out⟩
end Go.Proofs.YtfhdgcndiljjcaaGreatDoor

/- Contracts of the program's look for faults of symmetry and of brackets. -/
namespace Go.Proofs.YtfhdgcndiljjcaaGreatDoor
open Go.RowKit Go.WideShapes Go.ChangeShapes Go.ChangeAt

namespace Pl
theorem fau1_in {F : Nat → Nat → Int} {d i : Nat} {o : Option (List Int)} (hi : i < d + 1) (h : srch (fau1 d F) (d + 1 - i) i = o) : orE (srch (fau1j F i) (d + 1 - i - (i + 1)) (i + 1)) (srch (fau1 d F) (d + 1 - (i + 1)) (i + 1)) = o := by
  rw [show d + 1 - i = (d + 1 - (i + 1)) + 1 by omega, srch_step] at h
  unfold fau1 at h
  rw [show d + 1 - i - (i + 1) = d - i - i by omega]
  exact h
theorem fau1_go {F : Nat → Nat → Int} {d i j : Nat} {r o : Option (List Int)} (hj : i + j < d + 1) (h : orE (srch (fau1j F i) (d + 1 - i - j) j) r = o) (hx : F i j = F j i) : orE (srch (fau1j F i) (d + 1 - i - (j + 1)) (j + 1)) r = o := by
  rw [show d + 1 - i - j = (d + 1 - i - (j + 1)) + 1 by omega, srch_step] at h
  unfold fau1j at h
  rw [if_pos hx, orE_none] at h
  exact h
theorem fau1_no {F : Nat → Nat → Int} {d i j : Nat} {r o : Option (List Int)} (hj : i + j < d + 1) (h : orE (srch (fau1j F i) (d + 1 - i - j) j) r = o) (hx : ¬ F i j = F j i) : o = some [1, (i : Int), (j : Int)] := by
  rw [show d + 1 - i - j = (d + 1 - i - (j + 1)) + 1 by omega, srch_step] at h
  unfold fau1j at h
  rw [if_neg hx, orE_some, orE_some] at h
  exact h.symm
theorem fau1_out {F : Nat → Nat → Int} {d i j : Nat} {r o : Option (List Int)} (hj : ¬ i + j < d + 1) (h : orE (srch (fau1j F i) (d + 1 - i - j) j) r = o) : r = o := by
  rw [show d + 1 - i - j = 0 by omega] at h
  exact h
end Pl
set_option maxHeartbeats 8000000 in
set_option maxRecDepth 100000 in
theorem wrongPair_any (m : Int) (d : Nat) (A : Option Addr) (c : Nat) (t : List (List Int)) (w : World) (hs : Pl.Ok m d t) (hr : RP w A t) :
    Calls Tryz.prog 84 #[.agg #[.int .i64 m, .int .i64 d, .slice A t.length c]] w fun e w' => ∃ v, e = .returned v ∧ FauV w' w.heap.size v (Pl.fauS d (Pl.pc t)) ∧ Below w.heap.size w w' := by
  obtain ⟨b, off, rfl⟩ := hr.some (by rw [hs.len]; omega)
  have HG1 := Lib.hid (GBox.new 63 w m d (some ⟨b, off, none⟩) t.length c)
  have HWB := Lib.hid (below_one w (.cells #[.int .i64 m, .int .i64 d, .slice (some ⟨b, off, none⟩) t.length c] 63))
  have HS := Lib.hid hs
  have hd2 := hs.d2
  have HLR := Lib.hid (fun (k : Nat) W (hk : k ≤ d) => lenRow_any m d k W (by have := hs.d2; omega) hk)
  obtain ⟨o, ho⟩ : ∃ o, Pl.fauS d (Pl.pc t) = o := ⟨_, rfl⟩
  have HO := Lib.hid (show Pl.srch (Pl.fau1 d (Pl.pc t)) (d + 1 - 0) 0 = o from ho)
  rw [ho]
  obtain ⟨L, hL⟩ : ∃ L, t.length = L := ⟨_, rfl⟩
  have HL := Lib.hid hL
  have HLd := Lib.hid (hL.symm.trans hs.len)
  rw [hL] at HG1 HWB ⊢
  obtain ⟨W, hW⟩ : ∃ W, w.alloc (.cells #[.int .i64 m, .int .i64 d, .slice (some ⟨b, off, none⟩) L c] 63) = W := ⟨_, rfl⟩
  rw [hW] at HG1 HWB
  have HR := Lib.hid (hr.below HWB.out)
  have HW := Lib.hid hW
  have HB := HWB
  clear hs hr hL hW ho
  obtain ⟨x0, x1, x2, x3⟩ := HG1.out
  go_enter Tryz.func84, Tryz.ntmps84
  go_wp2
  rw [HW.out]
  go_wp2
  clear x0 x1 x2 x3
  go_loopw [3, 4, 9] (fun _ _ q wr => ∃ i : Nat, i ≤ d + 1 ∧ q = .int .i64 i ∧ Pl.srch (Pl.fau1 d (Pl.pc t)) (d + 1 - i) i = o ∧ Below W.heap.size W wr) (fun _ _ q _ => d + 1 - (intOf q).toNat)
  case atStart => exact ⟨0, Nat.zero_le _, rfl, HO.out, Below.refl _ _⟩
  case round =>
    clear HO
    obtain ⟨i, hi, rfl, hso, hbel⟩ := hrel
    have HBE := Lib.hid hbel
    clear hbel
    by_cases hlt : i < d + 1
    · have HIN := Lib.hid (Pl.fau1_in hlt hso)
      have HLK := Lib.hid (fun W => HLR.out i W (by omega))
      obtain ⟨N, hN⟩ : ∃ N, d - i + 1 = N := ⟨_, rfl⟩
      rw [hN] at HLK
      have HNN := Lib.hid hN
      have hN1 : N ≤ 11 := by omega
      have j1 : (i : Int) < (d : Int) + 1 := by omega
      obtain ⟨r, hr⟩ : ∃ r, Pl.srch (Pl.fau1 d (Pl.pc t)) (d + 1 - (i + 1)) (i + 1) = r := ⟨_, rfl⟩
      rw [hr] at HIN
      have HRR := Lib.hid hr
      clear hN hso hr
      go_wp2
      go_loopw [4] (fun q wr => ∃ j : Nat, j ≤ d + 2 ∧ q = .int .i64 j ∧ Pl.orE (Pl.srch (Pl.fau1j (Pl.pc t) i) (d + 1 - i - j) j) r = o ∧ Below W.heap.size W wr) (fun q _ => d + 3 - (intOf q).toNat)
      case atStart => exact ⟨i + 1, by omega, by first | rfl | go_num, HIN.out, HBE.out⟩
      case round =>
        clear HIN HBE
        obtain ⟨j, hj, rfl, hso, hbel⟩ := hrel
        have HBE := Lib.hid hbel
        obtain ⟨x0, x1, x2, x3⟩ := HG1.out.keep hbel
        go_wp2_with fail
        refine (HLK.out _).mono ?_
        rintro e w2 ⟨rfl, hb2⟩
        have HB2 := Lib.hid (below_step HBE.out hb2)
        clear hb2 x0 x1 x2 x3 hbel
        have hNN := HNN.out
        by_cases hjN : j < N
        · obtain ⟨p1, p2, p3, M, hM, x1, x2, x3⟩ := (HG1.out.keep HB2.out).num' HL.out HS.out (HR.out.below HB2.out) i j (by omega)
          obtain ⟨q1, q2, q3, M', hM', y1, y2, y3⟩ := (HG1.out.keep HB2.out).num' HL.out HS.out (HR.out.below HB2.out) j i (by omega)
          clear y1
          have hgo := Pl.fau1_go (F := Pl.pc t) (d := d) (i := i) (j := j) (by omega) hso
          have hno := Pl.fau1_no (F := Pl.pc t) (d := d) (i := i) (j := j) (by omega) hso
          obtain ⟨X, hX⟩ : ∃ X, Pl.pc t i j = X := ⟨_, rfl⟩
          obtain ⟨Y, hY⟩ : ∃ Y, Pl.pc t j i = Y := ⟨_, rfl⟩
          rw [hX, hY] at hgo hno
          rw [hX] at x3
          rw [hY] at y3
          have hLd := HLd.out
          have j2 : (0 : Int) ≤ (i : Int) := by omega
          have j3 : (i : Int) < (L : Int) := by omega
          have j4 : (0 : Int) ≤ (j : Int) := by omega
          have j5 : (j : Int) < (M : Int) := by omega
          have j8 : (j : Int) < (L : Int) := by omega
          have j9 : (i : Int) < (M' : Int) := by omega
          clear hso hX hY hM hM' hNN hLd
          by_cases hxy : X = Y
          · have HNX := Lib.hid (hgo hxy)
            subst hxy
            clear hgo hno
            go_wp2
            go_quiet (fail)
            go_wp2
            go_roundw
            case rel => exact ⟨j + 1, by have := HNN.out; omega, by go_num, HNX.out, below_drewN HB2.out _⟩
            case measure => simp only [intOf]; omega
          · have HNX := Lib.hid (hno hxy)
            obtain ⟨n1, n2⟩ : (X == Y) = false ∧ (X != Y) = true := ⟨by simpa using hxy, by simpa using hxy⟩
            clear hgo hno
            go_wp2
            go_quiet (fail)
            go_wp2
            go_ret
            exact ⟨_, rfl, by rw [HNX.out]; exact ⟨_, _, rfl, (OwnI.lit3 _ 1 (i : Int) (j : Int)).more (by first | exact (below_step HB.out HB2.out).size | exact (below_drewN (below_step HB.out HB2.out) _).size)⟩, below_step HB.out (below_alloc _ (by first | exact HB2.out | exact below_drewN HB2.out _))⟩
        · have HNX := Lib.hid (HRR.out.trans (Pl.fau1_out (by omega) hso))
          have j1 : ¬ (j : Int) < (N : Int) := by omega
          clear hso hNN
          go_wp2
          go_roundw
          case rel => exact ⟨i + 1, by omega, by go_num, HNX.out, HB2.out⟩
          case measure => simp only [intOf]; omega
    · obtain rfl : i = d + 1 := by omega
      rw [Nat.sub_self] at hso
      have HNO := Lib.hid (show o = none from hso.symm)
      clear hso
      go_wp2
      go_ret
      exact ⟨_, rfl, by rw [HNO.out]; exact rfl, below_step HB.out HBE.out⟩

/-! the powers of a grid -/
def pwTs (m : Int) (d : Nat) (F : Nat → Nat → Int) (n : Nat) : List (List (List Int)) := (List.range n).map (Pl.pwT m d F)
theorem pwTs_length (m : Int) (d : Nat) (F : Nat → Nat → Int) (n : Nat) : (pwTs m d F n).length = n := by simp [pwTs]
theorem pwTs_succ (m : Int) (d : Nat) (F : Nat → Nat → Int) (n : Nat) : pwTs m d F (n + 1) = pwTs m d F n ++ [Pl.pwT m d F n] := by simp [pwTs, List.range_succ]
theorem pwTs_get (m : Int) (d : Nat) (F : Nat → Nat → Int) (n i : Nat) (h : i < n) : (pwTs m d F n)[i]?.getD [] = Pl.pwT m d F i := by
  unfold pwTs
  rw [List.getElem?_map, List.getElem?_range h]; rfl
theorem pwT_ok {m : Int} {d : Nat} (m1 : 2 ≤ m) (m2 : m ≤ 10000) (d1 : 1 ≤ d) (d2 : d ≤ 10) (F : Nat → Nat → Int) (k : Nat) : Pl.Ok m d (Pl.pwT m d F k) := by
  cases k <;> exact Pl.Ok.of_tab m1 m2 d1 d2 _
theorem infoGrid : (Tryz.prog.info? 63).map (fun i => (i.zero, i.size, i.bytes)) = some (some (.agg #[.int .i64 0, .int .i64 0, .slice none 0 0]), 3, 40) := by kernel_rfl
theorem g_ne1 : (63 : TypeId) ≠ 2 := by decide
theorem g_ne2 : (63 : TypeId) ≠ 32 := by decide
/-- element i of a list of grids, in the walk's form -/
theorem OwnT.grid {m d : Value} {w : World} {lo : Nat} {v : Value} {ts : List (List (List Int))} (h : OwnT [m, d] 63 w lo v ts) (i : Nat) (hi : i < ts.length) :
    ∃ g c A' c', v = .slice (some ⟨g, 0, none⟩) ts.length c ∧ g < w.heap.size ∧ lo ≤ g ∧ w.cell? ⟨g, i * 3, none⟩ = some m ∧ w.cell? ⟨g, i * 3 + 1, none⟩ = some d ∧ w.cell? ⟨g, i * 3 + 2, none⟩ = some (.slice A' (ts[i]?.getD []).length c') ∧ RP w A' (ts[i]?.getD []) := by
  obtain ⟨g, c, A', c', h1, h2, h3, h4, h5, h6⟩ := h.at i hi
  exact ⟨g, c, A', c', h1, h2, h3, h6 0 m rfl, h6 1 d rfl, h4, h5⟩
theorem one_grid {m : Int} {d : Nat} (F : Nat → Nat → Int) (m1 : 2 ≤ m) : Pl.tab m d (gosF (Ser.cut m d (Ser.mon 0 1)) 0) = Pl.pwT m d F 0 := by
  show _ = Pl.tab m d (Pl.one2 1)
  refine Pl.tab_congr (Pl.Eq.of m d (fun p q hpq => ?_))
  unfold gosF Pl.one2
  rw [if_pos rfl]
  by_cases hq : q = 0
  · rw [if_pos hq, Ser.co_cut (by omega)]
    unfold Ser.mon
    by_cases hp : p = 0
    · rw [if_pos hp, if_pos ⟨hp, hq⟩, Int.emod_eq_of_lt (by omega) (by omega)]
    · rw [if_neg hp, if_neg (fun h => hp h.1), Int.zero_emod]
  · rw [if_neg hq, if_neg (fun h => hq h.2)]
/-- in the walk's form: a list's element and a grid's box are kept by a call, and by an append to the list -/
theorem el_keep {w w' : World} {g k g1 : Nat} {x y z x1 y1 z1 : Value} (hb : Below w.heap.size w w')
    (h : (w.cell? ⟨g, k * 3, none⟩ = some x ∧ w.cell? ⟨g, k * 3 + 1, none⟩ = some y ∧ w.cell? ⟨g, k * 3 + 2, none⟩ = some z ∧ g < w.heap.size) ∧ (w.cell? ⟨g1, 0, none⟩ = some x1 ∧ w.cell? ⟨g1, 1, none⟩ = some y1 ∧ w.cell? ⟨g1, 2, none⟩ = some z1 ∧ g1 < w.heap.size)) :
    (w'.cell? ⟨g, k * 3, none⟩ = some x ∧ w'.cell? ⟨g, k * 3 + 1, none⟩ = some y ∧ w'.cell? ⟨g, k * 3 + 2, none⟩ = some z ∧ g < w'.heap.size) ∧ (w'.cell? ⟨g1, 0, none⟩ = some x1 ∧ w'.cell? ⟨g1, 1, none⟩ = some y1 ∧ w'.cell? ⟨g1, 2, none⟩ = some z1 ∧ g1 < w'.heap.size) :=
  ⟨⟨(hb.cell (p := ⟨g, k * 3, none⟩) h.1.2.2.2).trans h.1.1, (hb.cell (p := ⟨g, k * 3 + 1, none⟩) h.1.2.2.2).trans h.1.2.1, (hb.cell (p := ⟨g, k * 3 + 2, none⟩) h.1.2.2.2).trans h.1.2.2.1, Nat.lt_of_lt_of_le h.1.2.2.2 hb.size⟩,
   ⟨(hb.cell (p := ⟨g1, 0, none⟩) h.2.2.2.2).trans h.2.1, (hb.cell (p := ⟨g1, 1, none⟩) h.2.2.2.2).trans h.2.2.1, (hb.cell (p := ⟨g1, 2, none⟩) h.2.2.2.2).trans h.2.2.2.1, Nat.lt_of_lt_of_le h.2.2.2.2 hb.size⟩⟩
theorem el_push {w w' : World} {lo g k n g1 : Nat} {x y z x1 y1 z1 : Value} (hk : ∀ j, j < n * 3 → w'.cell? ⟨g, j, none⟩ = w.cell? ⟨g, j, none⟩) (hkn : k < n) (hg1 : g1 < lo) (hb : Below lo w w')
    (h : (w.cell? ⟨g, k * 3, none⟩ = some x ∧ w.cell? ⟨g, k * 3 + 1, none⟩ = some y ∧ w.cell? ⟨g, k * 3 + 2, none⟩ = some z ∧ g < w.heap.size) ∧ (w.cell? ⟨g1, 0, none⟩ = some x1 ∧ w.cell? ⟨g1, 1, none⟩ = some y1 ∧ w.cell? ⟨g1, 2, none⟩ = some z1 ∧ g1 < w.heap.size)) :
    (w'.cell? ⟨g, k * 3, none⟩ = some x ∧ w'.cell? ⟨g, k * 3 + 1, none⟩ = some y ∧ w'.cell? ⟨g, k * 3 + 2, none⟩ = some z ∧ g < w'.heap.size) ∧ (w'.cell? ⟨g1, 0, none⟩ = some x1 ∧ w'.cell? ⟨g1, 1, none⟩ = some y1 ∧ w'.cell? ⟨g1, 2, none⟩ = some z1 ∧ g1 < w'.heap.size) :=
  ⟨⟨(hk (k * 3) (by omega)).trans h.1.1, (hk (k * 3 + 1) (by omega)).trans h.1.2.1, (hk (k * 3 + 2) (by omega)).trans h.1.2.2.1, Nat.lt_of_lt_of_le h.1.2.2.2 hb.size⟩,
   ⟨(hb.cell (p := ⟨g1, 0, none⟩) hg1).trans h.2.1, (hb.cell (p := ⟨g1, 1, none⟩) hg1).trans h.2.2.1, (hb.cell (p := ⟨g1, 2, none⟩) hg1).trans h.2.2.2.1, Nat.lt_of_lt_of_le h.2.2.2.2 hb.size⟩⟩
theorem pre_one (m d : Int) : ∀ y, y ∈ [Value.int .i64 m, Value.int .i64 d] → y.oneCell' = true := by
  intro y hy
  simp at hy
  rcases hy with rfl | rfl <;> rfl
set_option maxHeartbeats 8000000 in
set_option maxRecDepth 100000 in
theorem powers_any (m : Int) (d : Nat) (A : Option Addr) (c : Nat) (t : List (List Int)) (w : World) (hs : Pl.Ok m d t) (hr : RP w A t) :
    Calls Tryz.prog 106 #[.agg #[.int .i64 m, .int .i64 d, .slice A t.length c]] w fun e w' => ∃ v, e = .returned v ∧ OwnT [.int .i64 m, .int .i64 d] 63 w' w.heap.size v (pwTs m d (Pl.pc t) (d + 1)) ∧ Below w.heap.size w w' := by
  have HG1 := Lib.hid (GBox.new 63 w m d A t.length c)
  have HWB := Lib.hid (below_one w (.cells #[.int .i64 m, .int .i64 d, .slice A t.length c] 63))
  obtain ⟨W, hW⟩ : ∃ W, w.alloc (.cells #[.int .i64 m, .int .i64 d, .slice A t.length c] 63) = W := ⟨_, rfl⟩
  rw [hW] at HG1 HWB
  have HW := Lib.hid hW
  have HB := HWB
  have m1 := hs.m1
  have m2 := hs.m2
  have hd1 := hs.d1
  have hd2 := hs.d2
  have HR := Lib.hid (hr.below HWB.out)
  have HMO := Lib.hid (fun W0 => monomial_any m d 0 1 W0 (by omega) m2 (by omega) (by omega) (by omega))
  have HGS := Lib.hid (fun (W0 : World) (A0 : Option Addr) (c0 : Nat) (h : RI W0 A0 (Ser.cut m d (Ser.mon 0 1))) => gridOfSeries_any m d A0 c0 _ 0 W0 ⟨m1, m2, by omega, by omega, Ser.cut_length _ _ _, Ser.cut_red (by omega) _ _⟩ h)
  have HTM := Lib.hid (fun (k : Nat) (A1 : Option Addr) (c1 : Nat) (W0 : World) (h : RP W0 A1 (Pl.pwT m d (Pl.pc t) k)) (h' : RP W0 A t) => by
    have := gtimes_any m d A1 c1 (Pl.pwT m d (Pl.pc t) k) A c t W0 (pwT_ok m1 m2 hd1 hd2 _ k) hs h h'
    rw [Pl.pwT_length] at this
    exact this)
  obtain ⟨L0, hL0⟩ : ∃ L0, Ser.cut m d (Ser.mon 0 1) = L0 := ⟨_, rfl⟩
  have hone : Pl.tab m d (gosF L0 0) = Pl.pwT m d (Pl.pc t) 0 := by rw [← hL0]; exact one_grid _ m1
  rw [hL0] at HMO HGS
  rw [hone] at HGS
  obtain ⟨L, hL⟩ : ∃ L, t.length = L := ⟨_, rfl⟩
  rw [hL] at HG1 HW HTM ⊢
  obtain ⟨x1, x2, x3, x4⟩ := HG1.out
  clear hW hr hs hL hL0 hone
  go_enter Tryz.func106, Tryz.ntmps106
  go_wp2_with fail
  rw [HW.out]
  refine (HMO.out _).mono ?_
  rintro e wa ⟨sa, rfl, oa, ba⟩
  obtain ⟨Aa, ca, rfl, ra⟩ := oa.form
  go_wp2_with fail
  refine (HGS.out _ _ _ ra).mono ?_
  rintro e wb ⟨sb, rfl, ob, bb⟩
  obtain ⟨Ab, cb, rfl, -⟩ := ob.len
  rw [Pl.pwT_length] at ob ⊢
  have hsz := ba.size
  have hsz2 := (below_step ba bb).size
  have HO := Lib.hid (OwnT.one [.int .i64 m, .int .i64 d] 63 (lo := W.heap.size) hsz2 (ob.low hsz) (Nat.le_refl _))
  have HBB := Lib.hid (below_alloc (.cells #[.int .i64 m, .int .i64 d, .slice Ab (d + 1) cb] 63) (below_step ba bb))
  obtain ⟨X, hX⟩ : ∃ X, wb.alloc (.cells #[.int .i64 m, .int .i64 d, .slice Ab (d + 1) cb] 63) = X := ⟨_, rfl⟩
  rw [hX] at HBB
  have HX := Lib.hid hX
  have HO' : Hid (OwnT [.int .i64 m, .int .i64 d] 63 X W.heap.size (.slice (some ⟨wb.heap.size, 0, none⟩) 1 1) (pwTs m d (Pl.pc t) (0 + 1))) := Lib.hid (by rw [← hX]; exact HO.out)
  clear oa ba ob bb ra hsz hsz2 hX HO x1 x2 x3 x4
  obtain ⟨x1, x2, x3, x4⟩ := HG1.out.keep HBB.out
  rw [← HX.out] at x1 x2 x3
  go_wp2
  clear x1 x2 x3 x4
  rw [HX.out]
  clear HX
  go_loopw [3, 4, 17] (fun s3 _ q wr => ∃ k : Nat, k ≤ d ∧ q = .int .i64 k ∧ OwnT [.int .i64 m, .int .i64 d] 63 wr W.heap.size s3 (pwTs m d (Pl.pc t) (k + 1)) ∧ Below W.heap.size W wr) (fun _ _ q _ => d - (intOf q).toNat)
  case atStart => exact ⟨0, Nat.zero_le _, rfl, HO'.out, HBB.out⟩
  case round =>
    clear HO' HBB
    obtain ⟨k, hk, rfl, hown, hbel⟩ := hrel
    have HBE := Lib.hid hbel
    have HO := Lib.hid hown
    by_cases hkd : k < d
    · obtain ⟨g, cg, Ak, ck, rfl, k0, klo, k1, k2, k3, k4⟩ := hown.grid k (by rw [pwTs_length]; omega)
      rw [pwTs_get _ _ _ _ _ (by omega), Pl.pwT_length] at k3
      rw [pwTs_get _ _ _ _ _ (by omega)] at k4
      rw [pwTs_length] at HO ⊢
      obtain ⟨y1, y2, y3, y4⟩ := HG1.out.keep hbel
      have HTK := Lib.hid (HTM.out k Ak ck wr.drew (k4.below (below_drew0 wr)) (HR.out.below (below_step hbel (below_drew0 wr))))
      have hmul : Pl.tab m d (Pl.mul2 (Pl.pc (Pl.pwT m d (Pl.pc t) k)) (Pl.pc t)) = Pl.pwT m d (Pl.pc t) (k + 1) := rfl
      rw [hmul] at HTK
      have hst := pwTs_succ m d (Pl.pc t) (k + 1)
      obtain ⟨R, hR⟩ : ∃ R, Pl.pwT m d (Pl.pc t) (k + 1) = R := ⟨_, rfl⟩
      have hRl : R.length = d + 1 := by rw [← hR]; exact Pl.pwT_length _ _ _ _
      rw [hR] at HTK hst
      have HST := Lib.hid hst
      have j0 : (0 : Int) ≤ (k : Int) := by omega
      have j1 : (k : Int) < (d : Int) := by omega
      obtain ⟨n, hn⟩ : ∃ n, k + 1 = n := ⟨_, rfl⟩
      have j2 : (k : Int) < (n : Int) := by omega
      have j5 : k < n := by omega
      have HLEN := Lib.hid (show (pwTs m d (Pl.pc t) (k + 1)).length ≤ 1000000 by rw [pwTs_length]; omega)
      obtain ⟨P, hP⟩ : ∃ P, pwTs m d (Pl.pc t) (k + 1) = P := ⟨_, rfl⟩
      have hPn : P.length = k + 1 := by rw [← hP, pwTs_length]
      rw [hP] at HO HST HLEN
      rw [hn] at HO hPn ⊢
      have HPN := Lib.hid hPn
      have HSZ := Lib.hid HBE.out.size
      clear hst hmul hR hown hbel k4 hP hn hPn
      have X0 := Lib.hid (el_keep (below_drew0 wr) ⟨⟨k1, k2, k3, k0⟩, ⟨y1, y2, y3, y4⟩⟩)
      have HWL := Lib.hid (show w.heap.size < W.heap.size from HG1.out.2.2.2)
      clear y1 y2 y3 y4 k1 k2 k3
      go_wp2
      go_region_held3 (fun w' => (w'.cell? ⟨g, k * 3, none⟩ = some (.int .i64 m) ∧ w'.cell? ⟨g, k * 3 + 1, none⟩ = some (.int .i64 d) ∧ w'.cell? ⟨g, k * 3 + 2, none⟩ = some (.slice Ak (d + 1) ck) ∧ g < w'.heap.size) ∧ (w'.cell? ⟨w.heap.size, 0, none⟩ = some (.int .i64 m) ∧ w'.cell? ⟨w.heap.size, 1, none⟩ = some (.int .i64 d) ∧ w'.cell? ⟨w.heap.size, 2, none⟩ = some (.slice A L c) ∧ w.heap.size < w'.heap.size)) (first | exact X0.out | exact el_push hkp j5 HWL.out hpb (by assumption) | exact el_keep hb3 (by assumption) | exact el_keep (below_one _ _) (by assumption)) (first
        | (go_at_call 116; with_reducible refine Calls.mono HTK.out ?_; rintro e w3 ⟨v3, rfl, ho3, hb3⟩; obtain ⟨A3, c3, rfl, -⟩ := ho3.len; rw [hRl] at ho3 ⊢)
        | (refine step_pushK (pre := [.int .i64 m, .int .i64 d]) (e := 63) _ _ _ (by rfl) (by rfl) Tryz.underlying144 g_ne1 g_ne2 (.agg #[.int .i64 0, .int .i64 0, .slice none 0 0]) 40 infoGrid rfl (by decide) (pre_one m d) W.heap.size w3.heap.size g n cg P (by rfl) HPN.out ((HO.out.keep (below_step (below_drew0 wr) hb3)).keep (below_one _ _)) (.slice A3 (d + 1) c3) R ((ho3.low (Nat.le_trans HSZ.out (below_drew0 wr).size)).keep (below_one _ _)) (by simp) w3.heap.size (by rfl) (laid w3 [.int .i64 m, .int .i64 d, .slice A3 (d + 1) c3] _) HLEN.out (Nat.le_trans HSZ.out (below_step (below_step (below_drew0 wr) hb3) (below_one _ _)).size) ?_; intro v' w4 ho4 hpb hkp))
      all_goals
        have HO4 := Lib.hid ho4
        have HB4 := Lib.hid (show Below W.heap.size W w4 from (below_step HBE.out (below_step (below_step (below_drew0 wr) hb3) (below_one w3 (.cells #[.int .i64 m, .int .i64 d, .slice A3 (d + 1) c3] 63)))).trans hpb)
        clear ho4 hpb ho3 hb3
        go_wp2
        go_roundw
        case rel => exact ⟨k + 1, by omega, by go_num, by rw [HST.out]; exact HO4.out, HB4.out⟩
        case measure => simp only [intOf]; omega
    · obtain rfl : k = d := by omega
      clear hown hbel
      go_wp2
      go_ret
      exact ⟨_, rfl, HO.out.more HB.out.size, below_step HB.out HBE.out⟩
end Go.Proofs.YtfhdgcndiljjcaaGreatDoor

/- Contracts of the program's look for faults of brackets, and of all faults. -/
namespace Go.Proofs.YtfhdgcndiljjcaaGreatDoor
open Go.RowKit Go.WideShapes Go.ChangeShapes Go.ChangeAt

theorem br_bd {m : Int} {d : Nat} {t : List (List Int)} (hs : Pl.Ok m d t) (c a b : Nat) : ∀ k, 0 ≤ Ser.psum (fun i => Pl.pc t i c * Pl.pc (Pl.pwT m d (Pl.pc t) i) a b) k ∧ Ser.psum (fun i => Pl.pc t i c * Pl.pc (Pl.pwT m d (Pl.pc t) i) a b) k ≤ k * 100000000 := by
  intro k
  induction k with
  | zero => exact ⟨Int.le_refl _, Int.le_refl _⟩
  | succ k ih =>
    rw [Ser.psum]
    have h1 := hs.pc k c
    have h2 := (pwT_ok hs.m1 hs.m2 hs.d1 hs.d2 (Pl.pc t) k).pc a b
    have hm := hs.m2
    have h3 := mul_bd (x := Pl.pc t k c) (y := Pl.pc (Pl.pwT m d (Pl.pc t) k) a b) h1.1 (by omega) (by omega) (by omega)
    have h4 : 0 ≤ Pl.pc t k c * Pl.pc (Pl.pwT m d (Pl.pc t) k) a b := Int.mul_nonneg h1.1 h2.1
    omega
set_option maxHeartbeats 8000000 in
set_option maxRecDepth 100000 in
theorem bracketedAt_any (m : Int) (d : Nat) (A : Option Addr) (c : Nat) (t : List (List Int)) (v : Value) (lo : Nat) (a b z : Nat) (w : World) (hs : Pl.Ok m d t) (hr : RP w A t) (hp : OwnT [.int .i64 m, .int .i64 d] 63 w lo v (pwTs m d (Pl.pc t) (d + 1))) (hab : a + b ≤ d) (hz : z ≤ d) :
    Calls Tryz.prog 107 #[.agg #[.int .i64 m, .int .i64 d, .slice A t.length c], v, .int .i64 a, .int .i64 b, .int .i64 z] w fun e w' => e = .returned (.int .i64 (Pl.br m d (Pl.pc t) a b z)) ∧ Below w.heap.size w w' := by
  obtain ⟨b0, off, rfl⟩ := hr.some (by rw [hs.len]; omega)
  have HG1 := Lib.hid (GBox.new 63 w m d (some ⟨b0, off, none⟩) t.length c)
  have HWB := Lib.hid (below_one w (.cells #[.int .i64 m, .int .i64 d, .slice (some ⟨b0, off, none⟩) t.length c] 63))
  have HS := Lib.hid hs
  have hd2 := hs.d2
  have m1 := hs.m1
  have m2 := hs.m2
  have HLR := Lib.hid (fun W => lenRow_any m d z W (by have := hs.d2; omega) hz)
  have HBD := Lib.hid (br_bd hs z a b)
  obtain ⟨f, hf⟩ : ∃ f, (fun i => Pl.pc t i z * Pl.pc (Pl.pwT m d (Pl.pc t) i) a b) = f := ⟨_, rfl⟩
  rw [hf] at HBD
  have HF := Lib.hid (fun i => (congrFun hf i).symm)
  obtain ⟨N, hN⟩ : ∃ N, d - z + 1 = N := ⟨_, rfl⟩
  rw [hN] at HLR
  have HE : Hid (Ser.psum f N % m = Pl.br m d (Pl.pc t) a b z) := Lib.hid (by unfold Pl.br Pl.brS; rw [hf, show d + 1 - z = N by omega])
  have HNN := Lib.hid hN
  have hN1 : N ≤ 11 := by omega
  obtain ⟨L, hL⟩ : ∃ L, t.length = L := ⟨_, rfl⟩
  have HL := Lib.hid hL
  have HLd := Lib.hid (hL.symm.trans hs.len)
  rw [hL] at HG1 HWB ⊢
  obtain ⟨W, hW⟩ : ∃ W, w.alloc (.cells #[.int .i64 m, .int .i64 d, .slice (some ⟨b0, off, none⟩) L c] 63) = W := ⟨_, rfl⟩
  rw [hW] at HG1 HWB
  have HR := Lib.hid (hr.below HWB.out)
  have HP := Lib.hid (hp.keep HWB.out)
  have HW := Lib.hid hW
  have HB := HWB
  have j6 : (0 : Int) ≤ (z : Int) := by omega
  have j7 : (0 : Int) ≤ (a : Int) := by omega
  have j8 : (0 : Int) ≤ (b : Int) := by omega
  obtain ⟨B, hBe⟩ : ∃ B, Pl.br m d (Pl.pc t) a b z = B := ⟨_, rfl⟩
  rw [hBe] at HE ⊢
  clear hs hr hp hL hW hf hN hBe
  obtain ⟨x0, x1, x2, x3⟩ := HG1.out
  go_enter Tryz.func107, Tryz.ntmps107
  go_wp2_with fail
  rw [HW.out]
  refine (HLR.out _).mono ?_
  rintro e w1 ⟨rfl, hb1⟩
  have HB1 := Lib.hid hb1
  clear hb1 x0 x1 x2 x3
  go_wp2
  go_loopw [11, 12, 17] (fun s11 _ q wr => ∃ k : Nat, k ≤ N ∧ q = .int .i64 k ∧ s11 = .int .i64 (Ser.psum f k) ∧ Below W.heap.size W wr) (fun _ _ q _ => N - (intOf q).toNat)
  case atStart => exact ⟨0, Nat.zero_le _, rfl, rfl, HB1.out⟩
  case round =>
    clear HB1
    obtain ⟨k, hk, rfl, rfl, hbel⟩ := hrel
    have HBE := Lib.hid hbel
    by_cases hlt : k < N
    · have hNN := HNN.out
      obtain ⟨p1, p2, p3, M, hM, x1, x2, x3⟩ := (HG1.out.keep hbel).num' HL.out HS.out (HR.out.below hbel) k z (by omega)
      obtain ⟨g, cg, Ak, ck, hv, k0, klo, -, -, k3, k4⟩ := (HP.out.keep hbel).grid k (by rw [pwTs_length]; omega)
      rw [pwTs_get _ _ _ _ _ (by omega), Pl.pwT_length] at k3
      rw [pwTs_get _ _ _ _ _ (by omega)] at k4
      rw [pwTs_length] at hv
      have hpk := pwT_ok m1 m2 HS.out.d1 hd2 (Pl.pc t) k
      obtain ⟨b4, off4, b5, off5, c5, e4, -, k5, -, k6⟩ := k4.num a b (by rw [Pl.pwT_length]; omega) (by rw [hpk.row a (by omega)]; omega)
      subst e4
      rw [hpk.row a (by omega)] at k5
      have h0 := HBD.out k
      have h1 := HBD.out (k + 1)
      rw [Ser.psum] at h1
      have hfk := HF.out k
      have r1 := HS.out.pc k z
      have r2 := hpk.pc a b
      obtain ⟨X, hX⟩ : ∃ X, Pl.pc t k z = X := ⟨_, rfl⟩
      obtain ⟨Y, hY⟩ : ∃ Y, Pl.pc (Pl.pwT m d (Pl.pc t) k) a b = Y := ⟨_, rfl⟩
      rw [hX] at x3 hfk r1
      rw [hY] at k6 hfk r2
      have hst : Ser.psum f (k + 1) = Ser.psum f k + X * Y := by rw [Ser.psum, hfk]
      rw [hfk] at h1
      obtain ⟨P, hP⟩ : ∃ P, Ser.psum f k = P := ⟨_, rfl⟩
      rw [hP] at h0 h1 hst
      obtain ⟨q1, q2⟩ := mul_bd (x := X) (y := Y) r1.1 (by omega) (by omega) (by omega)
      have q3 : 0 ≤ X * Y := Int.mul_nonneg r1.1 r2.1
      obtain ⟨M5, hM5⟩ : ∃ M, d - a + 1 = M := ⟨_, rfl⟩
      rw [hM5] at k5
      obtain ⟨D, hD⟩ : ∃ D, d + 1 = D := ⟨_, rfl⟩
      rw [hD] at k3 hv
      have hLd := HLd.out
      have j0 : (0 : Int) ≤ (k : Int) := by omega
      have j1 : (k : Int) < (L : Int) := by omega
      have j2 : (z : Int) < (M : Int) := by omega
      have j3 : (k : Int) < (D : Int) := by omega
      have j4 : (a : Int) < (D : Int) := by omega
      have j5 : (b : Int) < (M5 : Int) := by omega
      have w1' : IntKind.i64.wrap (X * Y) = X * Y := by rw [IntKind.wrap_i64]; omega
      have w2' : IntKind.i64.wrap (P + X * Y) = P + X * Y := by rw [IntKind.wrap_i64]; omega
      have HST := Lib.hid hst
      have HPP := Lib.hid hP
      subst hv
      clear hst hX hY hfk hpk k4 hbel hM hM5 hD hNN hLd r1 r2 h0 h1 q1 q2 q3 hP
      rw [HPP.out]
      go_wp2
      go_quiet (fail)
      go_wp2
      go_roundw
      case rel => exact ⟨k + 1, by omega, by go_num, by rw [HST.out], below_drewN HBE.out _⟩
      case measure => simp only [intOf]; omega
    · obtain rfl : k = N := by omega
      obtain ⟨x0, x1, x2, x3⟩ := HG1.out.keep hbel
      have h0 := HBD.out k
      have he := HE.out
      obtain ⟨P, hP⟩ : ∃ P, Ser.psum f k = P := ⟨_, rfl⟩
      rw [hP] at h0 he ⊢
      have HEE := Lib.hid he
      clear hbel hP he HE
      go_wp2_with (first | (go_at_call 114; refine (remainder_any _ _ _ (by omega) m2 (by omega) (by omega)).mono ?_; rintro e w' ⟨rfl, rfl⟩))
      go_ret
      exact ⟨ret_int HEE.out, below_step HB.out HBE.out⟩

/-! the triples -/
namespace Pl
theorem fau2_in {m : Int} {d : Nat} {F : Nat → Nat → Int} {a : Nat} {o : Option (List Int)} (ha : a < d + 1) (h : srch (fau2 m d F) (d + 1 - a) a = o) :
    orE (srch (fau2b m d F a) (d + 1 - a) 0) (srch (fau2 m d F) (d + 1 - (a + 1)) (a + 1)) = o := by
  rw [show d + 1 - a = (d + 1 - (a + 1)) + 1 by omega, srch_step] at h
  unfold fau2 at h
  exact h
theorem fau2b_in {m : Int} {d : Nat} {F : Nat → Nat → Int} {a b : Nat} {r o : Option (List Int)} (hb : a + b < d + 1) (h : orE (srch (fau2b m d F a) (d + 1 - a - b) b) r = o) :
    orE (srch (fau2c m d F a b) (d + 1 - (a + b)) 0) (orE (srch (fau2b m d F a) (d + 1 - a - (b + 1)) (b + 1)) r) = o := by
  rw [show d + 1 - a - b = (d + 1 - a - (b + 1)) + 1 by omega, srch_step] at h
  unfold fau2b at h ⊢
  rw [← h]
  generalize srch (fau2c m d F a b) (d + 1 - (a + b)) 0 = p
  cases p <;> rfl
theorem fau2b_out {m : Int} {d : Nat} {F : Nat → Nat → Int} {a b : Nat} {r o : Option (List Int)} (hb : ¬ a + b < d + 1) (h : orE (srch (fau2b m d F a) (d + 1 - a - b) b) r = o) : r = o := by
  rw [show d + 1 - a - b = 0 by omega] at h
  exact h
theorem fau2c_go {m : Int} {d : Nat} {F : Nat → Nat → Int} {a b c : Nat} {r o : Option (List Int)} (hc : a + b + c < d + 1) (h : orE (srch (fau2c m d F a b) (d + 1 - (a + b) - c) c) r = o) (hx : br m d F a b c = br m d F c b a) : orE (srch (fau2c m d F a b) (d + 1 - (a + b) - (c + 1)) (c + 1)) r = o := by
  rw [show d + 1 - (a + b) - c = (d + 1 - (a + b) - (c + 1)) + 1 by omega, srch_step] at h
  unfold fau2c at h
  rw [if_pos hx, orE_none] at h
  exact h
theorem fau2c_no {m : Int} {d : Nat} {F : Nat → Nat → Int} {a b c : Nat} {r o : Option (List Int)} (hc : a + b + c < d + 1) (h : orE (srch (fau2c m d F a b) (d + 1 - (a + b) - c) c) r = o) (hx : ¬ br m d F a b c = br m d F c b a) : o = some [2, (a : Int), (b : Int), (c : Int)] := by
  rw [show d + 1 - (a + b) - c = (d + 1 - (a + b) - (c + 1)) + 1 by omega, srch_step] at h
  unfold fau2c at h
  rw [if_neg hx, orE_some, orE_some] at h
  exact h.symm
theorem fau2c_out {m : Int} {d : Nat} {F : Nat → Nat → Int} {a b c : Nat} {r o : Option (List Int)} (hc : ¬ a + b + c < d + 1) (h : orE (srch (fau2c m d F a b) (d + 1 - (a + b) - c) c) r = o) : r = o := by
  rw [show d + 1 - (a + b) - c = 0 by omega] at h
  exact h
end Pl
/-- a grid's box in the walk's form is kept -/
theorem gb_keep {w w' : World} {g : Nat} {x y z : Value} (hb : Below w.heap.size w w') (h : w.cell? ⟨g, 0, none⟩ = some x ∧ w.cell? ⟨g, 1, none⟩ = some y ∧ w.cell? ⟨g, 2, none⟩ = some z ∧ g < w.heap.size) :
    w'.cell? ⟨g, 0, none⟩ = some x ∧ w'.cell? ⟨g, 1, none⟩ = some y ∧ w'.cell? ⟨g, 2, none⟩ = some z ∧ g < w'.heap.size :=
  ⟨(hb.cell (p := ⟨g, 0, none⟩) h.2.2.2).trans h.1, (hb.cell (p := ⟨g, 1, none⟩) h.2.2.2).trans h.2.1, (hb.cell (p := ⟨g, 2, none⟩) h.2.2.2).trans h.2.2.1, Nat.lt_of_lt_of_le h.2.2.2 hb.size⟩
theorem gbb_keep {w0 w w' : World} {g : Nat} {x y z : Value} (hb : Below w.heap.size w w') (h : (w.cell? ⟨g, 0, none⟩ = some x ∧ w.cell? ⟨g, 1, none⟩ = some y ∧ w.cell? ⟨g, 2, none⟩ = some z ∧ g < w.heap.size) ∧ Below w0.heap.size w0 w) :
    (w'.cell? ⟨g, 0, none⟩ = some x ∧ w'.cell? ⟨g, 1, none⟩ = some y ∧ w'.cell? ⟨g, 2, none⟩ = some z ∧ g < w'.heap.size) ∧ Below w0.heap.size w0 w' := ⟨gb_keep hb h.1, below_step h.2 hb⟩
theorem snd2 {p q : Prop} (h : p ∧ q) : q := h.2
set_option maxHeartbeats 8000000 in
set_option maxRecDepth 100000 in
theorem wrongTriple_any (m : Int) (d : Nat) (A : Option Addr) (c : Nat) (t : List (List Int)) (w : World) (hs : Pl.Ok m d t) (hr : RP w A t) :
    Calls Tryz.prog 85 #[.agg #[.int .i64 m, .int .i64 d, .slice A t.length c]] w fun e w' => ∃ v, e = .returned v ∧ FauV w' w.heap.size v (Pl.fauT m d (Pl.pc t)) ∧ Below w.heap.size w w' := by
  have HG1 := Lib.hid (GBox.new 63 w m d A t.length c)
  have HWB := Lib.hid (below_one w (.cells #[.int .i64 m, .int .i64 d, .slice A t.length c] 63))
  have hd2 := hs.d2
  have HLR := Lib.hid (fun (k : Nat) W (hk : k ≤ d) => lenRow_any m d k W (by have := hs.d2; omega) hk)
  have HBR := Lib.hid (fun (v : Value) (lo a b z : Nat) (W0 : World) (h : RP W0 A t) (h' : OwnT [.int .i64 m, .int .i64 d] 63 W0 lo v (pwTs m d (Pl.pc t) (d + 1))) (hab : a + b ≤ d) (hz : z ≤ d) => bracketedAt_any m d A c t v lo a b z W0 hs h h' hab hz)
  obtain ⟨o, ho⟩ : ∃ o, Pl.fauT m d (Pl.pc t) = o := ⟨_, rfl⟩
  have HO := Lib.hid (show Pl.srch (Pl.fau2 m d (Pl.pc t)) (d + 1 - 0) 0 = o from ho)
  rw [ho]
  have HPW := Lib.hid (fun W0 (h : RP W0 A t) => powers_any m d A c t W0 hs h)
  obtain ⟨L, hL⟩ : ∃ L, t.length = L := ⟨_, rfl⟩
  rw [hL] at HG1 HWB HBR HPW ⊢
  obtain ⟨W, hW⟩ : ∃ W, w.alloc (.cells #[.int .i64 m, .int .i64 d, .slice A L c] 63) = W := ⟨_, rfl⟩
  rw [hW] at HG1 HWB
  have HR := Lib.hid (hr.below HWB.out)
  have HW := Lib.hid hW
  have HB := HWB
  clear hs hr hL hW ho
  obtain ⟨x0, x1, x2, x3⟩ := HG1.out
  go_enter Tryz.func85, Tryz.ntmps85
  go_wp2_with fail
  rw [HW.out]
  refine (HPW.out _ HR.out).mono ?_
  rintro e w1 ⟨v, rfl, hp, hb1⟩
  obtain ⟨Av, cv, rfl⟩ := hp.form
  have HP := Lib.hid hp
  obtain ⟨V, hV⟩ : ∃ V, Value.slice Av (pwTs m d (Pl.pc t) (d + 1)).length cv = V := ⟨_, rfl⟩
  rw [hV] at HP
  have HV := Lib.hid hV
  have HB1 := Lib.hid hb1
  clear x0 x1 x2 x3 hp hV
  obtain ⟨x0, x1, x2, x3⟩ := HG1.out.keep hb1
  rw [HV.out]
  go_wp2
  clear x0 x1 x2 x3 hb1
  go_loopw [4, 5, 6, 13] (fun _ _ _ q wr => ∃ a : Nat, a ≤ d + 1 ∧ q = .int .i64 a ∧ Pl.srch (Pl.fau2 m d (Pl.pc t)) (d + 1 - a) a = o ∧ Below w1.heap.size w1 wr) (fun _ _ _ q _ => d + 1 - (intOf q).toNat)
  case atStart => exact ⟨0, Nat.zero_le _, rfl, HO.out, Below.refl _ _⟩
  case round =>
    clear HO
    obtain ⟨a, ha, rfl, hso, hbel⟩ := hrel
    have HBE := Lib.hid hbel
    by_cases hlt : a < d + 1
    · have HIN := Lib.hid (Pl.fau2_in hlt hso)
      have HLK := Lib.hid (fun W => HLR.out a W (by omega))
      obtain ⟨N, hN⟩ : ∃ N, d - a + 1 = N := ⟨_, rfl⟩
      rw [hN] at HLK
      have HNN := Lib.hid hN
      have hN1 : N ≤ 11 := by omega
      have j1 : (a : Int) < (d : Int) + 1 := by omega
      obtain ⟨r, hr⟩ : ∃ r, Pl.srch (Pl.fau2 m d (Pl.pc t)) (d + 1 - (a + 1)) (a + 1) = r := ⟨_, rfl⟩
      rw [hr] at HIN
      have HRR := Lib.hid hr
      obtain ⟨x0, x1, x2, x3⟩ := HG1.out.keep (below_step HB1.out HBE.out)
      clear hN hso hr hbel
      go_wp2_with fail
      refine (HLK.out _).mono ?_
      rintro e w2 ⟨rfl, hb2⟩
      have HB2 := Lib.hid (below_step HBE.out hb2)
      clear hb2 x0 x1 x2 x3
      go_wp2
      go_loopw [5, 6, 20] (fun _ _ q wr => ∃ b : Nat, b ≤ N ∧ q = .int .i64 b ∧ Pl.orE (Pl.srch (Pl.fau2b m d (Pl.pc t) a) (d + 1 - a - b) b) r = o ∧ Below w1.heap.size w1 wr) (fun _ _ q _ => N - (intOf q).toNat)
      case atStart => exact ⟨0, Nat.zero_le _, rfl, HIN.out, HB2.out⟩
      case round =>
        clear HIN HBE HB2
        obtain ⟨b, hb, rfl, hso, hbel⟩ := hrel
        have HBE := Lib.hid hbel
        have hNN := HNN.out
        by_cases hltb : b < N
        · have HIN := Lib.hid (Pl.fau2b_in (show a + b < d + 1 by omega) hso)
          have HLB := Lib.hid (fun W => HLR.out (a + b) W (by omega))
          have hcast : ((a + b : Nat) : Int) = (a : Int) + (b : Int) := by omega
          rw [hcast] at HLB
          obtain ⟨M, hM⟩ : ∃ M, d - (a + b) + 1 = M := ⟨_, rfl⟩
          rw [hM] at HLB
          have HMM := Lib.hid hM
          have hM1 : M ≤ 11 := by omega
          have j2 : (b : Int) < (N : Int) := by omega
          obtain ⟨r2, hr2⟩ : ∃ r2, Pl.orE (Pl.srch (Pl.fau2b m d (Pl.pc t) a) (d + 1 - a - (b + 1)) (b + 1)) r = r2 := ⟨_, rfl⟩
          rw [hr2] at HIN
          have HRR2 := Lib.hid hr2
          obtain ⟨x0, x1, x2, x3⟩ := HG1.out.keep (below_step HB1.out HBE.out)
          clear hM hso hr2 hbel hNN hcast
          go_wp2_with fail
          refine (HLB.out _).mono ?_
          rintro e w2 ⟨rfl, hb2⟩
          have HB2 := Lib.hid (below_step HBE.out hb2)
          clear hb2 x0 x1 x2 x3
          go_wp2
          go_loopw [6, 29] (fun _ q wr => ∃ z : Nat, z ≤ M ∧ q = .int .i64 z ∧ Pl.orE (Pl.srch (Pl.fau2c m d (Pl.pc t) a b) (d + 1 - (a + b) - z) z) r2 = o ∧ Below w1.heap.size w1 wr) (fun _ q _ => M - (intOf q).toNat)
          case atStart => exact ⟨0, Nat.zero_le _, rfl, HIN.out, HB2.out⟩
          case round =>
            clear HIN HBE HB2
            obtain ⟨z, hz, rfl, hso, hbel⟩ := hrel
            have HBE := Lib.hid hbel
            have hNN := HNN.out
            have hMM := HMM.out
            by_cases hltz : z < M
            · have hgo := Pl.fau2c_go (show a + b + z < d + 1 by omega) hso
              have hno := Pl.fau2c_no (show a + b + z < d + 1 by omega) hso
              have H1 := Lib.hid (fun W0 (h : Below w1.heap.size w1 W0) => HBR.out V W.heap.size a b z W0 ((HR.out.below HB1.out).below h) (HP.out.keep h) (by omega) (by omega))
              have H2 := Lib.hid (fun W0 (h : Below w1.heap.size w1 W0) => HBR.out V W.heap.size z b a W0 ((HR.out.below HB1.out).below h) (HP.out.keep h) (by omega) (by omega))
              obtain ⟨X, hX⟩ : ∃ X, Pl.br m d (Pl.pc t) a b z = X := ⟨_, rfl⟩
              obtain ⟨Y, hY⟩ : ∃ Y, Pl.br m d (Pl.pc t) z b a = Y := ⟨_, rfl⟩
              rw [hX] at H1
              rw [hY] at H2
              rw [hX, hY] at hgo hno
              have X0 := Lib.hid (gbb_keep (below_drew0 wr) ⟨HG1.out.keep (below_step HB1.out hbel), hbel⟩)
              have hz1 : z ≤ 11 := by omega
              clear hX hY hso hbel hNN hMM
              by_cases hxy : X = Y
              · have HNX := Lib.hid (hgo hxy)
                subst hxy
                clear hgo hno
                go_wp2
                go_region_held3 (fun w' => (w'.cell? ⟨w.heap.size, 0, none⟩ = some (.int .i64 m) ∧ w'.cell? ⟨w.heap.size, 1, none⟩ = some (.int .i64 d) ∧ w'.cell? ⟨w.heap.size, 2, none⟩ = some (.slice A L c) ∧ w.heap.size < w'.heap.size) ∧ Below w1.heap.size w1 w') (first | exact X0.out | exact gbb_keep hb5 (by assumption) | exact gbb_keep hb4 (by assumption)) (first
                  | (go_at_call 107; with_reducible refine Calls.mono (H1.out _ (snd2 (by assumption))) ?_; rintro e w4 ⟨rfl, hb4⟩)
                  | (go_at_call 107; with_reducible refine Calls.mono (H2.out _ (snd2 (by assumption))) ?_; rintro e w5 ⟨rfl, hb5⟩))
                all_goals
                  have HB9 := Lib.hid (show Below w1.heap.size w1 _ from snd2 (by assumption))
                  clear hb4 hb5
                  go_wp2
                  go_roundw
                  case rel => exact ⟨z + 1, by omega, by go_num, HNX.out, HB9.out⟩
                  case measure => simp only [intOf]; omega
              · have HNX := Lib.hid (hno hxy)
                obtain ⟨n1, n2⟩ : (X == Y) = false ∧ (X != Y) = true := ⟨by simpa using hxy, by simpa using hxy⟩
                clear hgo hno
                go_wp2
                go_region_held3 (fun w' => (w'.cell? ⟨w.heap.size, 0, none⟩ = some (.int .i64 m) ∧ w'.cell? ⟨w.heap.size, 1, none⟩ = some (.int .i64 d) ∧ w'.cell? ⟨w.heap.size, 2, none⟩ = some (.slice A L c) ∧ w.heap.size < w'.heap.size) ∧ Below w1.heap.size w1 w') (first | exact X0.out | exact gbb_keep hb5 (by assumption) | exact gbb_keep hb4 (by assumption)) (first
                  | (go_at_call 107; with_reducible refine Calls.mono (H1.out _ (snd2 (by assumption))) ?_; rintro e w4 ⟨rfl, hb4⟩)
                  | (go_at_call 107; with_reducible refine Calls.mono (H2.out _ (snd2 (by assumption))) ?_; rintro e w5 ⟨rfl, hb5⟩))
                all_goals
                  have HB9 := Lib.hid (show Below w1.heap.size w1 _ from snd2 (by assumption))
                  clear hb4 hb5
                  go_wp2
                  go_ret
                  exact ⟨_, rfl, by rw [HNX.out]; exact ⟨_, _, rfl, (OwnI.lit4 _ 2 (a : Int) (b : Int) (z : Int)).more (below_step (below_step HB.out HB1.out) HB9.out).size⟩, below_step (below_step HB.out HB1.out) (below_alloc _ HB9.out)⟩
            · have HNX := Lib.hid (HRR2.out.trans (Pl.fau2c_out (show ¬ a + b + z < d + 1 by omega) hso))
              have j3 : ¬ (z : Int) < (M : Int) := by omega
              clear hso hbel hNN hMM
              go_wp2
              go_roundw
              case rel => exact ⟨b + 1, by omega, by go_num, HNX.out, HBE.out⟩
              case measure => simp only [intOf]; omega
        · have HNX := Lib.hid (HRR.out.trans (Pl.fau2b_out (show ¬ a + b < d + 1 by omega) hso))
          have j3 : ¬ (b : Int) < (N : Int) := by omega
          clear hso hbel hNN
          go_wp2
          go_roundw
          case rel => exact ⟨a + 1, by omega, by go_num, HNX.out, HBE.out⟩
          case measure => simp only [intOf]; omega
    · obtain rfl : a = d + 1 := by omega
      rw [Nat.sub_self] at hso
      have HNO := Lib.hid (show o = none from hso.symm)
      clear hso hbel
      go_wp2
      go_ret
      exact ⟨_, rfl, by rw [HNO.out]; exact rfl, below_step (below_step HB.out HB1.out) HBE.out⟩
set_option maxHeartbeats 4000000 in
set_option maxRecDepth 100000 in
theorem fault_any (m : Int) (d : Nat) (A : Option Addr) (c : Nat) (t : List (List Int)) (w : World) (hs : Pl.Ok m d t) (hr : RP w A t) :
    Calls Tryz.prog 64 #[.agg #[.int .i64 m, .int .i64 d, .slice A t.length c]] w fun e w' => ∃ v, e = .returned v ∧ FauV w' w.heap.size v (Pl.fau m d (Pl.pc t)) ∧ Below w.heap.size w w' := by
  have HG1 := Lib.hid (GBox.new 63 w m d A t.length c)
  have HWB := Lib.hid (below_one w (.cells #[.int .i64 m, .int .i64 d, .slice A t.length c] 63))
  have H1 := Lib.hid (fun W0 (h : RP W0 A t) => wrongPower_any m d A c t W0 hs h)
  have H2 := Lib.hid (fun W0 (h : RP W0 A t) => wrongPair_any m d A c t W0 hs h)
  have H3 := Lib.hid (fun W0 (h : RP W0 A t) => wrongTriple_any m d A c t W0 hs h)
  unfold Pl.fau
  obtain ⟨o1, ho1⟩ : ∃ o, Pl.fauP d (Pl.pc t) = o := ⟨_, rfl⟩
  obtain ⟨o2, ho2⟩ : ∃ o, Pl.fauS d (Pl.pc t) = o := ⟨_, rfl⟩
  obtain ⟨o3, ho3⟩ : ∃ o, Pl.fauT m d (Pl.pc t) = o := ⟨_, rfl⟩
  rw [ho1] at H1 ⊢
  rw [ho2] at H2 ⊢
  rw [ho3] at H3 ⊢
  obtain ⟨L, hL⟩ : ∃ L, t.length = L := ⟨_, rfl⟩
  rw [hL] at HG1 HWB H1 H2 H3 ⊢
  obtain ⟨W, hW⟩ : ∃ W, w.alloc (.cells #[.int .i64 m, .int .i64 d, .slice A L c] 63) = W := ⟨_, rfl⟩
  rw [hW] at HG1 HWB
  have HR := Lib.hid (hr.below HWB.out)
  have HW := Lib.hid hW
  have HB := HWB
  clear hs hr hL hW ho1 ho2 ho3
  obtain ⟨x0, x1, x2, x3⟩ := HG1.out
  go_enter Tryz.func64, Tryz.ntmps64
  go_wp2_with fail
  rw [HW.out]
  refine (H1.out _ HR.out).mono ?_
  rintro e w1 ⟨v1, rfl, hf1, hb1⟩
  cases o1 with
  | some x =>
    obtain ⟨b, cb, rfl, hown⟩ := hf1
    have HO := Lib.hid (hown.more HB.out.size)
    have HB1 := Lib.hid (below_step HB.out hb1)
    clear hown hb1 x0 x1 x2 x3
    go_wp2
    go_ret
    exact ⟨_, rfl, ⟨_, _, rfl, HO.out⟩, HB1.out⟩
  | none =>
    subst hf1
    have HB1 := Lib.hid hb1
    clear x0 x1 x2 x3 hb1
    obtain ⟨x0, x1, x2, x3⟩ := HG1.out.keep HB1.out
    go_wp2_with fail
    refine (H2.out _ (HR.out.below HB1.out)).mono ?_
    rintro e w2 ⟨v2, rfl, hf2, hb2⟩
    have HB2 := Lib.hid (below_step HB1.out hb2)
    clear x0 x1 x2 x3 hb2
    cases o2 with
    | some x =>
      obtain ⟨b, cb, rfl, hown⟩ := hf2
      have HO := Lib.hid (hown.more (below_step HB.out HB1.out).size)
      clear hown
      go_wp2
      go_ret
      exact ⟨_, rfl, ⟨_, _, rfl, HO.out⟩, below_step HB.out HB2.out⟩
    | none =>
      subst hf2
      obtain ⟨x0, x1, x2, x3⟩ := HG1.out.keep HB2.out
      go_wp2_with fail
      refine (H3.out _ (HR.out.below HB2.out)).mono ?_
      rintro e w3 ⟨v3, rfl, hf3, hb3⟩
      have HB3 := Lib.hid (below_step (below_step HB.out HB2.out) hb3)
      have HF : Hid (FauV w3 w.heap.size v3 o3) := Lib.hid (by
        cases o3 with
        | none => exact hf3
        | some x =>
          obtain ⟨b, cb, rfl, hown⟩ := hf3
          exact ⟨b, cb, rfl, hown.more (below_step HB.out HB2.out).size⟩)
      clear hf3 hb3 x0 x1 x2 x3
      go_wp2
      go_ret
      exact ⟨_, rfl, HF.out, HB3.out⟩
end Go.Proofs.YtfhdgcndiljjcaaGreatDoor

/- Contracts of IsLaw and LawFault, of the program. -/
namespace Go.Proofs.YtfhdgcndiljjcaaGreatDoor
open Go.RowKit Go.WideShapes Go.ChangeShapes Go.ChangeAt

/-- a table is a law's -/
def isL (m : Int) (t : List (List Int)) : Bool := isP m t && (Pl.fau m (t.length - 1) (Pl.pc t)).isNone
theorem isL_no {m : Int} {t : List (List Int)} (h : isP m t = false) : isL m t = false := by unfold isL; rw [h]; rfl
theorem isL_fau {m : Int} {t : List (List Int)} {d : Nat} (h : isP m t = true) (e : t.length = d + 1) : isL m t = (Pl.fau m d (Pl.pc t)).isNone := by
  unfold isL; rw [h, e]; rfl
theorem isL_of {m : Int} {t : List (List Int)} (h : isL m t = true) : isP m t = true ∧ ∃ d, t.length = d + 1 ∧ Pl.Ok m d t ∧ Pl.fau m d (Pl.pc t) = none := by
  unfold isL at h
  rw [Bool.and_eq_true] at h
  obtain ⟨h1, h2⟩ := h
  obtain ⟨d, e, ok⟩ := plOk_of h1
  refine ⟨h1, d, e, ok, ?_⟩
  rw [e] at h2
  simpa using h2
/-- the model of LawFault -/
def faultL (m : Int) (t : List (List Int)) : List Int × Int := if isP m t = true then (match Pl.fau m (t.length - 1) (Pl.pc t) with | none => ([], 4) | some x => (x, 0)) else ([], 1)
theorem fau_len {m : Int} {d : Nat} {F : Nat → Nat → Int} {x : List Int} (h : Pl.fau m d F = some x) : 0 < x.length ∧ x.length ≤ 4 := by
  have key : ∀ (p : Nat → Option (List Int)) (q : List Int → Prop), (∀ i y, p i = some y → q y) → ∀ n k y, Pl.srch p n k = some y → q y := by
    intro p q hp n
    induction n with
    | zero => intro k y hy; exact absurd hy (by simp [Pl.srch])
    | succ n ih =>
      intro k y hy
      rw [Pl.srch_step] at hy
      cases hc : p k with
      | none => rw [hc] at hy; exact ih (k + 1) y hy
      | some z => rw [hc] at hy; injection hy with hy; subst hy; exact hp k z hc
  unfold Pl.fau at h
  cases h1 : Pl.fauP d F with
  | some y =>
    rw [h1] at h; injection h with h; subst h
    exact key _ (fun y => 0 < y.length ∧ y.length ≤ 4) (fun i y hy => by
      unfold Pl.fau0 at hy
      split at hy
      · cases hy
      · injection hy with hy; subst hy; simp) _ _ _ h1
  | none =>
    rw [h1, Pl.orE_none] at h
    cases h2 : Pl.fauS d F with
    | some y =>
      rw [h2] at h; injection h with h; subst h
      exact key _ (fun y => 0 < y.length ∧ y.length ≤ 4) (fun i y hy => key _ (fun y => 0 < y.length ∧ y.length ≤ 4) (fun j z hz => by
        unfold Pl.fau1j at hz
        split at hz
        · cases hz
        · injection hz with hz; subst hz; simp) _ _ _ hy) _ _ _ h2
    | none =>
      rw [h2, Pl.orE_none] at h
      exact key _ (fun y => 0 < y.length ∧ y.length ≤ 4) (fun i y hy => key _ (fun y => 0 < y.length ∧ y.length ≤ 4) (fun j z hz => key _ (fun y => 0 < y.length ∧ y.length ≤ 4) (fun l u hu => by
        unfold Pl.fau2c at hu
        split at hu
        · cases hu
        · injection hu with hu; subst hu; simp) _ _ _ hz) _ _ _ hy) _ _ _ h
theorem faultL_len (m : Int) (t : List (List Int)) : (faultL m t).1.length ≤ 1048576 := by
  unfold faultL
  split
  · split
    · simp
    · rename_i x h
      have := (fau_len h).2
      dsimp only
      omega
  · simp
set_option maxHeartbeats 4000000 in
set_option maxRecDepth 100000 in
theorem IsLaw_any (m : Int) (A : Option Addr) (c : Nat) (t : List (List Int)) (w : World) (hz : szT t ≤ 1048576) (hr : RP w A t) :
    Calls Tryz.prog 51 #[.agg #[.int .i64 m, .slice A t.length c]] w fun e w' => e = .returned (.bool (isL m t)) ∧ Below w.heap.size w w' := by
  obtain ⟨W, hW, b1, hwb⟩ := start1 28 w m A t.length c
  have B1 := Lib.hid b1
  have HB := Lib.hid hwb
  have HW := Lib.hid hW
  have HI := Lib.hid (fun W0 (h : Below W.heap.size W W0) => IsPlane_any m A c t W0 hz ((hr.below hwb).below h))
  by_cases h0 : isP m t = true
  · obtain ⟨d, e1, ok⟩ := plOk_of h0
    have HG := Lib.hid (fun W0 => gridOf_nat m A t.length c d W0 e1 (by have := ok.d2; omega))
    have HF := Lib.hid (fun W0 (h : Below W.heap.size W W0) => fault_any m d A c t W0 ok ((hr.below hwb).below h))
    rw [isL_fau h0 e1]
    rw [h0] at HI
    obtain ⟨o, ho⟩ : ∃ o, Pl.fau m d (Pl.pc t) = o := ⟨_, rfl⟩
    rw [ho] at HF ⊢
    obtain ⟨L, hL⟩ : ∃ L, t.length = L := ⟨_, rfl⟩
    rw [hL] at HG HF HI HW B1 ⊢
    clear b1 hwb hW hr h0 ok e1 hz hL ho
    have heq : ∀ (a : Option Addr) (n c : Nat) (W0 : World), (binOp .eql 32 (.slice a n c) (.slice none 0 0)).run Tryz.prog W0 = .ok (.bool a.isNone) W0 := fun a n c W0 => Lib.run_eql_slice_nil _ _ _ _ _ _ _ _ Tryz.underlying32
    go_enter Tryz.func51, Tryz.ntmps51
    go_wp2_with fail
    rw [HW.out]
    refine (HI.out _ (Below.refl _ _)).mono ?_
    rintro e w1 ⟨rfl, hb1⟩
    obtain ⟨x1, x2, x3⟩ := B1.out.keep hb1
    go_wp2_with fail
    refine (HG.out _).mono ?_
    rintro e w2 ⟨rfl, hb2⟩
    go_wp2_with fail
    refine (HF.out _ (below_step hb1 hb2)).mono ?_
    rintro e w3 ⟨v, rfl, hf, hb3⟩
    have HB3 := Lib.hid (below_step HB.out (below_step (below_step hb1 hb2) hb3))
    clear hb1 hb2 hb3 x1 x2 x3
    cases o with
    | none =>
      subst hf
      go_wp2
      go_ret
      exact ⟨rfl, HB3.out⟩
    | some x =>
      obtain ⟨b, cb, rfl, -⟩ := hf
      go_wp2
      go_ret
      exact ⟨rfl, HB3.out⟩
  · have h0' : isP m t = false := by simpa using h0
    rw [isL_no h0']
    rw [h0'] at HI
    obtain ⟨L, hL⟩ : ∃ L, t.length = L := ⟨_, rfl⟩
    rw [hL] at HI HW B1 ⊢
    clear b1 hwb hW hr h0 h0' hz hL
    go_enter Tryz.func51, Tryz.ntmps51
    go_wp2_with fail
    rw [HW.out]
    refine (HI.out _ (Below.refl _ _)).mono ?_
    rintro e w1 ⟨rfl, hb1⟩
    go_wp2
    go_ret
    exact ⟨rfl, below_step HB.out hb1⟩
end Go.Proofs.YtfhdgcndiljjcaaGreatDoor

/- Contracts of the codes of a plane and one series, of the program and of the model. -/
namespace Go.Proofs.YtfhdgcndiljjcaaGreatDoor
open Go.RowKit Go.WideShapes Go.ChangeShapes Go.ChangeAt

/-- the code of a plane and one series -/
def codePS (m : Int) (t : List (List Int)) (m' : Int) (l : List Int) : Int := if isP m t = true ∧ isS m' l = true then (if m' = m ∧ l.length = t.length then 0 else 2) else 1
theorem codePS_ok {m : Int} {t : List (List Int)} {m' : Int} {l : List Int} (h : codePS m t m' l = 0) : m' = m ∧ ∃ d, t.length = d + 1 ∧ l.length = d + 1 ∧ Pl.Ok m d t ∧ SerOk m d l := by
  unfold codePS at h
  by_cases h1 : isP m t = true ∧ isS m' l = true
  · rw [if_pos h1] at h
    by_cases h2 : m' = m ∧ l.length = t.length
    · obtain ⟨rfl, h2⟩ := h2
      obtain ⟨d, e, s⟩ := plOk_of h1.1
      obtain ⟨d', e', s'⟩ := serOk_of h1.2
      obtain rfl : d' = d := by omega
      exact ⟨rfl, d', e, e', s, s'⟩
    · rw [if_neg h2] at h; exact absurd h (by decide)
  · rw [if_neg h1] at h; exact absurd h (by decide)
end Go.Proofs.YtfhdgcndiljjcaaGreatDoor

/- Lists of series that a call takes: where they lie; contracts of the codes of a plane and such a list, of the program and of the model. -/
namespace Go.Proofs.YtfhdgcndiljjcaaGreatDoor
open Go.RowKit Go.WideShapes Go.ChangeShapes Go.ChangeAt

/-- block g holds series, one after the other: modulus, address, capacity, numbers -/
def SL (w : World) (g : Nat) (xs : List (Int × Option Addr × Nat × List Int)) : Prop :=
  g < w.heap.size ∧ ∀ k m A c l, xs[k]? = some (m, A, c, l) → w.cell? ⟨g, k * 2, none⟩ = some (.int .i64 m) ∧ w.cell? ⟨g, k * 2 + 1, none⟩ = some (.slice A l.length c) ∧ RI w A l ∧ l.length ≤ 1048576
theorem SL.keep {w w' : World} {g : Nat} {xs : List (Int × Option Addr × Nat × List Int)} (h : SL w g xs) (hb : Below w.heap.size w w') : SL w' g xs :=
  ⟨Nat.lt_of_lt_of_le h.1 hb.size, fun k m A c l hx => by
    obtain ⟨a, b, r, z⟩ := h.2 k m A c l hx
    exact ⟨(hb.cell (p := ⟨g, k * 2, none⟩) h.1).trans a, (hb.cell (p := ⟨g, k * 2 + 1, none⟩) h.1).trans b, r.below hb, z⟩⟩
theorem SL.one {w : World} {g : Nat} {m : Int} {A : Option Addr} {c : Nat} {l : List Int} (hx : Box w g m A l.length c) (hr : RI w A l) (hl : l.length ≤ 1048576) : SL w g [(m, A, c, l)] :=
  ⟨hx.2.2, fun k m' A' c' l' h => by
    match k, h with
    | 0, h =>
      simp at h
      obtain ⟨rfl, rfl, rfl, rfl⟩ := h
      exact ⟨hx.1, hx.2.1, hr, hl⟩⟩
theorem SL.two {w : World} {g : Nat} {m : Int} {A : Option Addr} {c : Nat} {l : List Int} {m' : Int} {A' : Option Addr} {c' : Nat} {l' : List Int} (hx : Box4 w g m A l.length c m' A' l'.length c') (hr : RI w A l) (hr' : RI w A' l') (hl : l.length ≤ 1048576) (hl' : l'.length ≤ 1048576) :
    SL w g [(m, A, c, l), (m', A', c', l')] :=
  ⟨hx.1.2.2, fun k m0 A0 c0 l0 h => by
    match k, h with
    | 0, h =>
      simp at h
      obtain ⟨rfl, rfl, rfl, rfl⟩ := h
      exact ⟨hx.1.1, hx.1.2.1, hr, hl⟩
    | 1, h =>
      simp at h
      obtain ⟨rfl, rfl, rfl, rfl⟩ := h
      exact ⟨hx.2.1, hx.2.2, hr', hl'⟩⟩
def allS (xs : List (Int × Option Addr × Nat × List Int)) : Bool := xs.all fun x => isS x.1 x.2.2.2
def alkS (m : Int) (n : Nat) (xs : List (Int × Option Addr × Nat × List Int)) : Bool := xs.all fun x => decide (x.1 = m ∧ x.2.2.2.length = n)
def curS (xs : List (Int × Option Addr × Nat × List Int)) : Bool := xs.all fun x => isC x.1 x.2.2.2
/-- the code of something (ok: it is what it should be) and a list of series -/
def codeL (ok : Bool) (m : Int) (n : Nat) (xs : List (Int × Option Addr × Nat × List Int)) : Int := if ok = true ∧ allS xs = true then (if alkS m n xs = true then 0 else 2) else 1
theorem and_t {a b : Bool} (h : a = true) (k : b = true) : (a && b) = true := by rw [h, k]; rfl
theorem all_take {α : Type} (f : α → Bool) (xs : List α) (k : Nat) (x : α) (h : xs[k]? = some x) : (xs.take (k + 1)).all f = ((xs.take k).all f && f x) := by
  have hk := (List.getElem?_eq_some_iff.1 h).1
  rw [List.take_add_one, h, List.all_append]; simp
theorem all_bad {α : Type} (f : α → Bool) (xs : List α) (k : Nat) (x : α) (h : xs[k]? = some x) (hf : f x = false) : xs.all f = false := by
  rw [List.all_eq_false]
  exact ⟨x, List.mem_of_getElem? h, by simp [hf]⟩
theorem all_whole {α : Type} (f : α → Bool) (xs : List α) (k : Nat) (h : xs.length ≤ k) : (xs.take k).all f = xs.all f := by rw [List.take_of_length_le h]
theorem all_isS {xs : List (Int × Option Addr × Nat × List Int)} (h : allS xs = true) {k : Nat} {m : Int} {A : Option Addr} {c : Nat} {l : List Int} (hx : xs[k]? = some (m, A, c, l)) : isS m l = true :=
  (List.all_eq_true.1 h) _ (List.mem_of_getElem? hx)
/-- with the look at curves behind it -/
def codeLC (ok : Bool) (m : Int) (n : Nat) (xs : List (Int × Option Addr × Nat × List Int)) : Int := if codeL ok m n xs = 0 then (if curS xs = true then 0 else 5) else codeL ok m n xs
end Go.Proofs.YtfhdgcndiljjcaaGreatDoor

/- Contracts of the model's sums, multiples and remainders of rows, which may have one number alone. -/
namespace Go.Proofs.YtfhdgcndiljjcaaGreatDoor
open Go.RowKit Go.WideShapes Go.ChangeShapes Go.ChangeAt

/-- a row of d + 1 numbers modulo m -/
structure RowOk (m : Int) (d : Nat) (l : List Int) : Prop where
  m1 : 2 ≤ m
  m2 : m ≤ 10000
  d2 : d ≤ 10
  len : l.length = d + 1
  red : Ser.Red m l
theorem Pl.Ok.rowOk {m : Int} {d : Nat} {t : List (List Int)} (h : Pl.Ok m d t) (i : Nat) (hi : i ≤ d) : RowOk m (d - i) (Pl.rw' t i) := ⟨h.m1, h.m2, by have := h.d2; omega, h.row i hi, h.red i⟩
def addR (m : Int) (d : Nat) (l l' : List Int) : List Int := Ser.cut m d fun n => Ser.co l n + Ser.co l' n
def scaR (m : Int) (d : Nat) (l : List Int) (k : Int) : List Int := Ser.cut m d fun n => Ser.co l n * k
theorem mul_bdR {x y : Int} (h1 : 0 ≤ x) (h2 : x ≤ 10000) (h3 : -10000 ≤ y) (h4 : y ≤ 10000) : -100000000 ≤ x * y ∧ x * y ≤ 100000000 := by
  constructor
  · have := Int.mul_le_mul_of_nonneg_left (c := x) h3 h1
    have e : x * -10000 = -(x * 10000) := Int.mul_neg _ _
    omega
  · have := Int.mul_le_mul_of_nonneg_left (c := x) h4 h1
    omega
theorem wrap_remR {x m : Int} (h1 : 0 ≤ x) (h2 : x ≤ 1000000000000000) : (IntKind.i64.wrap x).tmod m = x % m := by
  have : IntKind.i64.wrap x = x := by rw [IntKind.wrap_i64]; omega
  rw [this, Int.tmod_eq_emod_of_nonneg h1]

set_option maxHeartbeats 2000000 in
set_option maxRecDepth 100000 in
theorem l02AddR_any (m : Int) (d : Nat) (A : Option Addr) (c : Nat) (l : List Int) (A' : Option Addr) (c' : Nat) (l' : List Int) (w : World) (hs : RowOk m d l) (hs' : RowOk m d l') (hr : RI w A l) (hr' : RI w A' l') :
    Calls Tryz.prog 92 #[.int .i64 m, .slice A l.length c, .slice A' l'.length c'] w fun e w' => ∃ v, e = .returned v ∧ OwnI w' w.heap.size v (addR m d l l') ∧ Below w.heap.size w w' := by
  have HS := Lib.hid hs
  have HS' := Lib.hid hs'
  have HR := Lib.hid hr
  have HR' := Lib.hid hr'
  have hm1 := hs.m1
  have hm2 := hs.m2
  have hd := hs.d2
  have hm0 : ¬ m = 0 := by omega
  have hll : l.length ≤ 11 := by have := hs.len; omega
  have hll' : l'.length ≤ 11 := by have := hs'.len; omega
  have E1 := Lib.hid hs.len
  have E2 := Lib.hid hs'.len
  clear hs hs' hr hr'
  go_enter Tryz.func92, Tryz.ntmps92
  go_wp2
  go_loopw [7, 8] (fun r i wr => ∃ k : Nat, k ≤ l.length ∧ i = .int .i64 k ∧ OwnI wr w.heap.size r ((addR m d l l').take k) ∧ Below w.heap.size w wr) (fun _ i _ => l.length - (intOf i).toNat)
  case atStart => exact ⟨0, Nat.zero_le _, rfl, OwnI.empty _, below_one _ _⟩
  case round =>
    obtain ⟨k, hk, rfl, hown, hbel⟩ := hrel
    have HB := Lib.hid hbel
    have HO := Lib.hid hown
    have hsz := hbel.size
    clear hown hbel
    by_cases hlt : k < l.length
    · obtain ⟨b, off, rfl, hb, hc⟩ := HR.out.at k hlt
      obtain ⟨b', off', rfl, hb', hc'⟩ := HR'.out.at k (by rw [E2.out, ← E1.out]; exact hlt)
      have c1 := (HB.out.cell (p := ⟨b, off + k, none⟩) hb).trans hc
      have c2 := (HB.out.cell (p := ⟨b', off' + k, none⟩) hb').trans hc'
      have r1 := HS.out.red k
      have r2 := HS'.out.red k
      have hst : (addR m d l l').take (k + 1) = (addR m d l l').take k ++ [(Ser.co l k + Ser.co l' k) % m] := Ser.cut_take_succ _ _ _ _ (by have := E1.out; omega)
      obtain ⟨X, hX⟩ : ∃ X, Ser.co l k = X := ⟨_, rfl⟩
      obtain ⟨Y, hY⟩ : ∃ Y, Ser.co l' k = Y := ⟨_, rfl⟩
      rw [hX] at hc c1 r1
      rw [hY] at hc' c2 r2
      rw [hX, hY] at hst
      have HST := Lib.hid hst
      have C1 := Lib.hid hc
      have C2 := Lib.hid hc'
      have j0 : (0 : Int) ≤ (k : Int) := by omega
      have j1 : (k : Int) < (l.length : Int) := by omega
      have j2 : (k : Int) < (l'.length : Int) := by have := E1.out; have := E2.out; omega
      obtain ⟨r1, r3⟩ := r1
      obtain ⟨r2, r4⟩ := r2
      have HQ := Lib.hid (wrap_remR (x := X + Y) (m := m) (by omega) (by omega))
      clear hX hY hst hc hc'
      go_wp2
      go_region_held3 (fun w' => w'.cell? ⟨b, off + k, none⟩ = some (.int .i64 X) ∧ w'.cell? ⟨b', off' + k, none⟩ = some (.int .i64 Y) ∧ ¬ m = 0) (first | exact ⟨((((HB.out.alloc hsz _).drew).trans hpb).cell hb).trans C1.out, ((((HB.out.alloc hsz _).drew).trans hpb).cell hb').trans C2.out, hm0⟩ | exact ⟨c1, c2, hm0⟩ | go_keep) ((refine step_push _ _ _ (by rfl) (by rfl) Tryz.underlying32 w.heap.size _ _ (by rfl) ((HO.out.alloc _).drew) wr.heap.size ((X + Y) % m) (by rfl) (by simp; exact HQ.out) (by have := take_cut_len m d (fun n => Ser.co l n + Ser.co l' n) k; unfold addR; omega) (by simp; omega) ?_; intro v' w1 ho1 hpb))
      all_goals
        have hb1 := (((HB.out.alloc hsz _).drew).trans hpb)
        have HB1 := Lib.hid hb1
        have HO1 := Lib.hid ho1
        clear hb1 ho1 hpb
        go_wp2
        go_roundw
        case rel => exact ⟨k + 1, by omega, by go_num, by rw [HST.out]; exact HO1.out, HB1.out⟩
        case measure => simp only [intOf]; omega
    · obtain rfl : k = l.length := by omega
      have ho := HO.out
      rw [List.take_of_length_le (by unfold addR; rw [Ser.cut_length, E1.out]; exact Nat.le_refl _)] at ho
      have HF := Lib.hid ho
      clear ho
      go_wp2
      go_ret
      exact ⟨_, rfl, HF.out, HB.out⟩

set_option maxHeartbeats 2000000 in
theorem l02ScaleR_any (m : Int) (d : Nat) (k : Int) (A : Option Addr) (c : Nat) (l : List Int) (w : World) (hs : RowOk m d l) (hr : RI w A l) (k1 : 0 ≤ k) (k2 : k < m) :
    Calls Tryz.prog 93 #[.int .i64 m, .int .i64 k, .slice A l.length c] w fun e w' => ∃ v, e = .returned v ∧ OwnI w' w.heap.size v (scaR m d l k) ∧ Below w.heap.size w w' := by
  have HS := Lib.hid hs
  have HR := Lib.hid hr
  have hm1 := hs.m1
  have hm2 := hs.m2
  have hd := hs.d2
  have hm0 : ¬ m = 0 := by omega
  have hll : l.length ≤ 11 := by have := hs.len; omega
  have E1 := Lib.hid hs.len
  clear hs hr
  go_enter Tryz.func93, Tryz.ntmps93
  go_wp2
  go_loopw [7, 8] (fun r i wr => ∃ j : Nat, j ≤ l.length ∧ i = .int .i64 j ∧ OwnI wr w.heap.size r ((scaR m d l k).take j) ∧ Below w.heap.size w wr) (fun _ i _ => l.length - (intOf i).toNat)
  case atStart => exact ⟨0, Nat.zero_le _, rfl, OwnI.empty _, below_one _ _⟩
  case round =>
    obtain ⟨j, hj, rfl, hown, hbel⟩ := hrel
    have HB := Lib.hid hbel
    have HO := Lib.hid hown
    have hsz := hbel.size
    have hlk := take_cut_len m d (fun n => Ser.co l n * k) j
    clear hown hbel
    by_cases hlt : j < l.length
    · obtain ⟨b, off, rfl, hb, hc⟩ := HR.out.at j hlt
      have c1 := (HB.out.cell (p := ⟨b, off + j, none⟩) hb).trans hc
      obtain ⟨r1, r2⟩ := HS.out.red j
      have hst : (scaR m d l k).take (j + 1) = (scaR m d l k).take j ++ [Ser.co l j * k % m] := Ser.cut_take_succ _ _ _ _ (by have := E1.out; omega)
      obtain ⟨X, hX⟩ : ∃ X, Ser.co l j = X := ⟨_, rfl⟩
      rw [hX] at c1 r1 r2 hst
      have p1 := Int.mul_nonneg k1 r1
      have p2 := (mul_bdR (x := k) (y := X) k1 (by omega) (by omega) (by omega)).2
      have he : X * k = k * X := Int.mul_comm _ _
      rw [he] at hst
      have j0 : (0 : Int) ≤ (j : Int) := by omega
      have j1 : (j : Int) < (l.length : Int) := by omega
      have HST := Lib.hid hst
      clear hX hst hc he
      go_wp2_with (at_builtin; refine wp_push _ _ _ (by rfl) (by rfl) Tryz.underlying32 w.heap.size _ _ (by rfl) HO.out (k * X % m) (by rfl) (by unfold scaR; omega) hsz ?_; intro v' w1 ho1 hpb)
      have HP := Lib.hid (HB.out.trans hpb)
      have HQ := Lib.hid ho1
      clear hpb ho1
      go_wp2
      go_roundw
      case rel => exact ⟨j + 1, by omega, by go_num, by rw [HST.out]; exact HQ.out, HP.out⟩
      case measure => simp only [intOf]; omega
    · obtain rfl : j = l.length := by omega
      have ho := HO.out
      rw [List.take_of_length_le (by unfold scaR; rw [Ser.cut_length, E1.out]; exact Nat.le_refl _)] at ho
      have HF := Lib.hid ho
      clear ho
      go_wp2
      go_ret
      exact ⟨_, rfl, HF.out, HB.out⟩

end Go.Proofs.YtfhdgcndiljjcaaGreatDoor

