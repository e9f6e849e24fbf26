/- Contracts of monomials, multiples and products of series, of the program. -/
import Derived.Test.YtjgpdgoclianlaaSad
import Derived.Test.YtjgpdgoclianlaaSeR
namespace Go.Proofs.Ytjgpdgoclianlaa
open Go.RowKit Go.WideShapes Go.ChangeShapes Go.ChangeAt

/-- a block of one number -/
def Cel (w : World) (g : Nat) (x : Int) : Prop := w.cell? ⟨g, 0, none⟩ = some (.int .i64 x) ∧ g < w.heap.size
theorem Cel.new (w : World) (x : Int) : Cel (w.alloc (.cells #[.int .i64 x] 2)) w.heap.size x := by
  refine ⟨?_, by simp⟩
  rw [World.cell?_alloc_at _ _ _ _ rfl]; rfl
theorem Cel.keep {w w' : World} {g : Nat} {x : Int} (h : Cel w g x) (hb : Below w.heap.size w w') : Cel w' g x :=
  ⟨(hb.cell (p := ⟨g, 0, none⟩) h.2).trans h.1, Nat.lt_of_lt_of_le h.2 hb.size⟩

theorem monoC_any (n k : Nat) (g g' : Nat) (c : Int) (W : World) (h1 : Cel W g k) (h2 : Cel W g' c) :
    Calls Try.prog 116 #[.int .i64 n, .pointer (some ⟨g, 0, none⟩), .pointer (some ⟨g', 0, none⟩)] W fun e w' => e = .returned (.int .i64 (Ser.mon k c n)) ∧ Below W.heap.size W w' := by
  obtain ⟨x1, _⟩ := h1
  obtain ⟨x2, _⟩ := h2
  by_cases h : n = k
  · subst h
    have HE := Lib.hid (show Ser.mon n c n = c by unfold Ser.mon; rw [if_pos rfl])
    go_enter Try.func116, Try.ntmps116
    go_wp2
    go_ret
    exact ⟨ret_int HE.out.symm, Below.refl _ _⟩
  · have HE := Lib.hid (show Ser.mon k c n = 0 by unfold Ser.mon; rw [if_neg h])
    have hn : ¬ (n : Int) = (k : Int) := by omega
    obtain ⟨n1, n2⟩ : ((n : Int) == (k : Int)) = false ∧ ((n : Int) != (k : Int)) = true := ⟨by simpa using hn, by simpa using hn⟩
    clear h
    go_enter Try.func116, Try.ntmps116
    go_wp2
    go_ret
    exact ⟨ret_int HE.out.symm, Below.refl _ _⟩

theorem mon_bd (k : Nat) (c lo hi : Int) (h1 : lo ≤ 0) (h2 : 0 ≤ hi) (h3 : lo ≤ c) (h4 : c ≤ hi) (n : Nat) : lo ≤ Ser.mon k c n ∧ Ser.mon k c n ≤ hi := by
  unfold Ser.mon; split <;> omega

set_option maxHeartbeats 2000000 in
theorem monomial_any (m : Int) (d k : Nat) (c : Int) (w : World) (h1 : 1 ≤ m) (h2 : m ≤ 10000) (hd : d ≤ 1000) (h3 : -1000000 ≤ c) (h4 : c ≤ 1000000) :
    Calls Try.prog 82 #[.int .i64 m, .int .i64 d, .int .i64 k, .int .i64 c] w fun e w' => ∃ v, e = .returned (.agg #[.int .i64 m, v]) ∧ OwnI w' w.heap.size v (Ser.cut m d (Ser.mon k c)) ∧ Below w.heap.size w w' := by
  obtain ⟨W, hW⟩ : ∃ W, ((w.alloc (.cells #[.int .i64 k] 2)).alloc (.cells #[.int .i64 c] 2)).alloc (.cells #[.int .i64 0, .slice none 0 0] 49) = W := ⟨_, rfl⟩
  have hwb : Below w.heap.size w W := by rw [← hW]; exact below_alloc _ (below_alloc _ (below_one _ _))
  have b1 : Cel W w.heap.size k := by rw [← hW]; exact ((Cel.new w k).keep (below_one _ _)).keep (below_one _ _)
  have b2 : Cel W (w.heap.size + 1) c := by
    rw [← hW]
    have := (Cel.new (w.alloc (.cells #[.int .i64 k] 2)) c).keep (below_one _ (.cells #[.int .i64 0, .slice none 0 0] 49))
    simpa using this
  have v3 : Var2 W (w.heap.size + 1 + 1) (.int .i64 0) (.slice none 0 0) := by
    rw [← hW]
    have := Var2.new ((w.alloc (.cells #[.int .i64 k] 2)).alloc (.cells #[.int .i64 c] 2)) (.int .i64 0) (.slice none 0 0)
    simpa using this
  have V3 := Lib.hid v3
  have HB := Lib.hid hwb
  have HW := Lib.hid hW
  have HS := Lib.hid (seriesOf_any m d 116 #[.pointer (some ⟨w.heap.size, 0, none⟩), .pointer (some ⟨w.heap.size + 1, 0, none⟩)] (Ser.mon k c) W h1 h2 hd
    (fun n _ => mon_bd k c _ _ (by omega) (by omega) (by omega) (by omega) n)
    (enters_fn Try.func116 (of_decide_eq_true (by kernel_rfl)) rfl)
    (fun n W1 hn hb => monoC_any n k _ _ c W1 (b1.keep hb) (b2.keep hb)))
  obtain ⟨L, hL⟩ : ∃ L, Ser.cut m d (Ser.mon k c) = L := ⟨_, rfl⟩
  rw [hL] at HS ⊢
  clear b1 b2 v3 hwb hW hL
  go_enter Try.func82, Try.ntmps82
  go_wp2_with fail
  rw [HW.out]
  refine HS.out.mono ?_
  rintro e w2 ⟨v, rfl, ho, hb⟩
  obtain ⟨A2, c2, rfl, _⟩ := ho.form
  have hv := V3.out.keep hb
  have q0 := hv.c0
  have q1 := hv.c1
  have q2 := hv.fz 0
  have q3 := hv.fz 1
  obtain ⟨f0, f1, f2, f3⟩ := fin_var (w := w) hv ho (by have := V3.out.lt; omega) (by omega) (below_step HB.out hb) (.int .i64 m) (.slice A2 L.length c2)
  have F2 := Lib.hid f2
  have F3 := Lib.hid f3
  clear f2 f3 hv ho hb
  go_wp2
  exact bodyPost_ret (v := .agg #[.int .i64 m, .slice A2 L.length c2]) (by simp [results, Try.results82, go_sem, f0, f1]) rfl ⟨_, rfl, F2.out, F3.out⟩

theorem mul_bd {x y : Int} (h1 : 0 ≤ x) (h2 : x ≤ 10000) (h3 : -10000 ≤ y) (h4 : y ≤ 10000) : -100000000 ≤ x * y ∧ x * y ≤ 100000000 := by
  constructor
  · have := Int.mul_le_mul_of_nonneg_left (c := x) h3 h1
    have e : x * -10000 = -(x * 10000) := Int.mul_neg _ _
    omega
  · have := Int.mul_le_mul_of_nonneg_left (c := x) h4 h1
    omega

/-! products -/
set_option maxHeartbeats 4000000 in
theorem productAt_any (m : Int) (d n : Nat) (A : Option Addr) (c : Nat) (l : List Int) (m' : Int) (A' : Option Addr) (c' : Nat) (l' : List Int) (w : World) (hs : SerOk m d l) (hs' : SerOk m d l') (hr : RI w A l) (hr' : RI w A' l') (hn : n ≤ d) :
    Calls Try.prog 131 #[.agg #[.int .i64 m, .slice A l.length c], .agg #[.int .i64 m', .slice A' l'.length c'], .int .i64 n] w fun e w' => e = .returned (.int .i64 (Ser.cv n (Ser.co l) (Ser.co l'))) ∧ Below w.heap.size w w' := by
  obtain ⟨W, hW⟩ : ∃ W, (w.alloc (.cells #[.int .i64 m, .slice A l.length c] 49)).alloc (.cells #[.int .i64 m', .slice A' l'.length c'] 49) = W := ⟨_, rfl⟩
  obtain ⟨b1, b2, hwb⟩ := box2_new w m m' A A' l.length c l'.length c' W hW
  obtain ⟨x1, x2, _⟩ := b1
  obtain ⟨y1, y2, _⟩ := b2
  have HB := Lib.hid hwb
  have HW := Lib.hid hW
  have R1 := Lib.hid (hr.below hwb)
  have R2 := Lib.hid (hr'.below hwb)
  have HS := Lib.hid hs
  have HS' := Lib.hid hs'
  have HD := hs.d2
  obtain ⟨f, hf⟩ : ∃ f, f = fun i => Ser.co l i * Ser.co l' (n - i) := ⟨_, rfl⟩
  have HE := Lib.hid (show Ser.cv n (Ser.co l) (Ser.co l') = Ser.psum f (n + 1) by rw [hf]; exact Ser.cv_psum _ _ _)
  have HF := Lib.hid hf
  clear hwb hW hr hr' hs hs' hf
  go_enter Try.func131, Try.ntmps131
  go_wp2
  rw [HW.out]
  go_loopw [7, 8, 11] (fun s _ i wr => ∃ k : Nat, k ≤ n + 1 ∧ i = .int .i64 k ∧ s = .int .i64 (Ser.psum f k) ∧ 0 ≤ Ser.psum f k ∧ Ser.psum f k ≤ k * 100000000 ∧ ∃ q, wr = W.drewN q) (fun _ _ i _ => n + 1 - (intOf i).toNat)
  case atStart => exact ⟨0, Nat.zero_le _, rfl, rfl, Int.le_refl _, Int.le_refl _, 0, rfl⟩
  case round =>
    obtain ⟨k, hk, rfl, rfl, z1, z2, q, rfl⟩ := hrel
    by_cases hlt : k < n + 1
    · obtain ⟨b, off, rfl, hb, hc⟩ := R1.out.at k (by have := HS.out.len; omega)
      obtain ⟨b', off', rfl, hb', hc'⟩ := R2.out.at (n - k) (by have := HS'.out.len; omega)
      have r1 := HS.out.red k
      have r2 := HS'.out.red (n - k)
      have m2 := HS.out.m2
      have hst : Ser.psum f (k + 1) = Ser.psum f k + Ser.co l k * Ser.co l' (n - k) := by rw [Ser.psum, HF.out]
      obtain ⟨X, hX⟩ : ∃ X, Ser.co l k = X := ⟨_, rfl⟩
      obtain ⟨Y, hY⟩ : ∃ Y, Ser.co l' (n - k) = Y := ⟨_, rfl⟩
      obtain ⟨P, hP⟩ : ∃ P, Ser.psum f k = P := ⟨_, rfl⟩
      rw [hX] at hc r1 hst
      rw [hY] at hc' r2 hst
      rw [hP] at z1 z2 hst
      obtain ⟨p1, p2⟩ := mul_bd (x := X) (y := Y) r1.1 (by omega) (by omega) (by omega)
      have p3 : 0 ≤ X * Y := Int.mul_nonneg r1.1 r2.1
      have l1 := HS.out.len
      have l2 := HS'.out.len
      have j0 : (0 : Int) ≤ (k : Int) := by omega
      have j1 : (k : Int) < (l.length : Int) := by omega
      have j3 : (0 : Int) ≤ (n : Int) - (k : Int) := by omega
      have j4 : (n : Int) - (k : Int) < (l'.length : Int) := by omega
      have j5 : ((n : Int) - (k : Int)).toNat = n - k := by omega
      have HST := Lib.hid hst
      have HP := Lib.hid hP
      clear hX hY hP hst l1 l2
      rw [HP.out]
      go_wp2
      go_quiet (fail)
      go_wp2
      go_roundw
      case rel => exact ⟨k + 1, by omega, by go_num, by rw [HST.out], by rw [HST.out]; omega, by rw [HST.out]; omega, _, rfl⟩
      case measure => simp only [intOf]; omega
    · obtain rfl : k = n + 1 := by omega
      go_wp2
      go_ret
      exact ⟨ret_int HE.out.symm, below_drewN HB.out _⟩
end Go.Proofs.Ytjgpdgoclianlaa
