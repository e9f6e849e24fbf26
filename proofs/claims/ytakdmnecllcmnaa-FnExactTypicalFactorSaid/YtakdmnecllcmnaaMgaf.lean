/- Texts of contracts, joined. -/
import Derived.Test.YtakdmnecllcmnaaMgae
import Derived.Test.YtakdmnecllcmnaaMgac
import Derived.Test.YtakdmnecllcmnaaProg
import Derived.Test.YtakdmnecllcmnaaMgaa
import Derived.Test.YtakdmnecllcmnaaMgab
import Derived.RegionTactic
import Derived.Deep.QuietTactic
import Derived.BigQuiet
/- Contract of typicalSeries: the sum of all A(k) x^(p^k), each times a weight that a function value tells. -/
namespace Go.Proofs.Ytakdmnecllcmnaa
open Go.RowKit Go.WideShapes Go.ChangeShapes Go.ChangeAt

/-- the sum of the first k terms, where f i stands at x^(p^i) -/
def tyF (p : Nat) (f : Nat → Int) (k n : Nat) : Int := Ser.psum (fun i => Ser.mon (p ^ i) (f i) n) k
def tyL (m : Int) (d p : Nat) (f : Nat → Int) (k : Nat) : List Int := Ser.cut m d (tyF p f k)
theorem tyL_step (m : Int) (d p : Nat) (f : Nat → Int) (k : Nat) :
    (Ser.cut m d fun n => Ser.co (tyL m d p f k) n + Ser.co (scaL m d (Ser.cut m d (Ser.mon (p ^ k) 1)) (f k)) n) = tyL m d p f (k + 1) := by
  unfold tyL scaL
  refine Ser.cut_congr (fun i hi => ?_)
  rw [Ser.co_cut hi, Ser.co_cut hi, Ser.co_cut hi]
  show _ = (tyF p f k i + Ser.mon (p ^ k) (f k) i) % m
  refine Ser.add_cong (Int.emod_emod _ _) ((Int.emod_emod _ _).trans ?_)
  refine (Ser.mul_cong (Int.emod_emod _ _) rfl).trans ?_
  congr 1
  unfold Ser.mon
  split <;> simp
theorem tyL_zero (m : Int) (d p : Nat) (f : Nat → Int) (l : List Int) : scaL m d l 0 = tyL m d p f 0 := by
  unfold scaL tyL tyF
  refine Ser.cut_congr (Ser.Eq.of m d (fun i _ => ?_))
  rw [Int.mul_zero]; rfl
theorem VarC.of2 {w : World} {g : Nat} {x y : Value} (h : VarC 30 w g #[x, y]) : Var2 w g x y := h
theorem numR_ndL (m : Int) (p : Nat) (l : List Int) (c : Nat) : Nmr.numR m p (Ser.co (ndL c l)) (c + 1) = Nmr.numR m p (Ser.co l) (c + 1) := by
  unfold Nmr.numR
  refine List.map_congr_left (fun i hi => ?_)
  rw [Nmr.num_ext c (fun j hj => by rw [ndL_co, if_pos hj]) i (by have := List.mem_range.1 hi; omega)]

set_option maxHeartbeats 16000000 in
set_option maxRecDepth 100000 in
theorem typicalSeries_any (m : Int) (d p fn : Nat) (cap : Array Value) (wt : Nat → Int) (A : Option Addr) (c : Nat) (l : List Int) (w : World) (m1 : 2 ≤ m) (m2 : m ≤ 100000000) (d1 : 1 ≤ d) (d2 : d ≤ 10) (hp : p = 2 ∨ p = 3 ∨ p = 5 ∨ p = 7)
    (hx : ∀ i, -1000000000 ≤ Ser.co l i ∧ Ser.co l i ≤ 1000000000) (hr : RI w A l)
    (hwt : ∀ k, k ≤ needN p d → 0 ≤ Nmr.num p (Ser.co l) k % m * wt k ∧ Nmr.num p (Ser.co l) k % m * wt k ≤ 100000000)
    (hen : ∀ (args : Array Value) (W : World), (callFunc fn args).run Try.prog W = .ok (.enter fn args) W)
    (hf : ∀ (k : Nat) (W : World), k ≤ needN p d → Below w.heap.size w W → Calls Try.prog fn (#[.int .i64 (p ^ k : Nat)] ++ cap) W fun e w' => e = .returned (.int .i64 (wt k)) ∧ Below W.heap.size W w') :
    Calls Try.prog 39 #[.agg #[.int .i64 m, .int .i64 d], .int .i64 p, .slice A l.length c, .func (.func fn) #[] cap] w fun e w' =>
      ∃ v, e = .returned (.agg #[.int .i64 m, v]) ∧ OwnI w' w.heap.size v (tyL m d p (fun k => Nmr.num p (Ser.co l) k % m * wt k) (needN p d + 1)) ∧ Below w.heap.size w w' := by
  obtain ⟨N, hN⟩ : ∃ N, needN p d = N := ⟨_, rfl⟩
  have hN3 : N ≤ 3 := by rw [← hN]; exact needN_le3 p (in4 hp) d (List.mem_range.2 (by omega))
  have HLN := Lib.hid (show (Ser.cut m d (Ser.mon 1 1)).length = d + 1 from Ser.cut_length _ _ _)
  have okl : SerOkG m d (Ser.cut m d (Ser.mon 1 1)) := SerOkG.of m1 m2 d1 d2 _
  have HMO := Lib.hid (fun W0 => monomial_anyG m d 1 1 W0 (by omega) m2 (by omega) (by omega) (by omega))
  have HSC0 := Lib.hid (fun (A1 : Option Addr) (c1 : Nat) (W0 : World) (h : RI W0 A1 (Ser.cut m d (Ser.mon 1 1))) => by
    have := scaled_anyG m d A1 c1 _ 0 W0 okl h (by omega) (by omega)
    rw [Ser.cut_length, tyL_zero m d p (fun k => Nmr.num p (Ser.co l) k % m * wt k)] at this
    exact this)
  have HND := Lib.hid (fun W0 (h : RI W0 A l) => by
    have := neededOf_any p d A c l W0 hp d2 h
    rw [hN] at this
    exact this)
  have HNM := Lib.hid (fun (A1 : Option Addr) (c1 : Nat) (W0 : World) (h : RI W0 A1 (ndL N l)) => by
    have := numeratorsModulo_any p m A1 c1 (ndL N l) W0 m1 m2 (by omega) (by omega) (by rw [ndL_length]; exact hN3) (fun i => by
      rw [ndL_co]; split
      · exact hx i
      · omega) h
    rw [ndL_length, numR_ndL] at this
    exact this)
  have HPW := Lib.hid (fun k (hk : k ≤ N) (A1 : Option Addr) (c1 : Nat) (W0 : World) (h : RI W0 A1 (Ser.cut m d (Ser.mon 1 1))) => by
    obtain ⟨j, hj⟩ : ∃ j, p ^ k = j + 1 := ⟨p ^ k - 1, by have := Nat.pow_pos (n := k) (show 0 < p by omega); omega⟩
    have hj2 : j + 1 ≤ 343 := by rw [← hj]; exact (pow_bd7 (p := p) (by omega) (i := k) (by omega) (by omega)).2
    have := powerS_any m d A1 c1 _ j W0 okl (by omega) h
    rw [Ser.cut_length, powG_line, ← hj, show ((j : Int) + 1) = ((p ^ k : Nat) : Int) by rw [hj]; omega] at this
    exact this)
  have HSC := Lib.hid (fun k (hk : k ≤ N) (A1 : Option Addr) (c1 : Nat) (W0 : World) (h : RI W0 A1 (Ser.cut m d (Ser.mon (p ^ k) 1))) => by
    have hb := hwt k (by omega)
    have := scaled_anyG m d A1 c1 _ (Nmr.num p (Ser.co l) k % m * wt k) W0 (SerOkG.of m1 m2 d1 d2 _) h (by omega) (by omega)
    rw [Ser.cut_length] at this
    exact this)
  have HPL := Lib.hid (fun k (A1 : Option Addr) (c1 : Nat) (A2 : Option Addr) (c2 : Nat) (W0 : World) (h1 : RI W0 A1 (tyL m d p (fun k => Nmr.num p (Ser.co l) k % m * wt k) k)) (h2 : RI W0 A2 (scaL m d (Ser.cut m d (Ser.mon (p ^ k) 1)) (Nmr.num p (Ser.co l) k % m * wt k))) => by
    have := plus_anyG m d A1 c1 (tyL m d p (fun k => Nmr.num p (Ser.co l) k % m * wt k) k) m A2 c2 (scaL m d (Ser.cut m d (Ser.mon (p ^ k) 1)) (Nmr.num p (Ser.co l) k % m * wt k)) W0 (SerOkG.of m1 m2 d1 d2 _) (SerOkG.of m1 m2 d1 d2 _) h1 h2
    rw [show (tyL m d p (fun k => Nmr.num p (Ser.co l) k % m * wt k) k).length = d + 1 from Ser.cut_length _ _ _, show (scaL m d (Ser.cut m d (Ser.mon (p ^ k) 1)) (Nmr.num p (Ser.co l) k % m * wt k)).length = d + 1 from Ser.cut_length _ _ _, tyL_step] at this
    exact this)
  have HTL := Lib.hid (fun k => (show (tyL m d p (fun k => Nmr.num p (Ser.co l) k % m * wt k) k).length = d + 1 from Ser.cut_length _ _ _))
  have HSL := Lib.hid (fun k => (show (scaL m d (Ser.cut m d (Ser.mon (p ^ k) 1)) (Nmr.num p (Ser.co l) k % m * wt k)).length = d + 1 from Ser.cut_length _ _ _))
  have HNL := Lib.hid (Nmr.numR_length m p (Ser.co l) (N + 1))
  have HNC := Lib.hid (fun k (hk : k < N + 1) => Nmr.numR_co (m := m) (p := p) (v := Ser.co l) hk)
  have HWT := Lib.hid (fun k (hk : k ≤ N) => hwt k (by omega))
  have HFN := Lib.hid (fun k W0 (hk : k ≤ N) (h : Below w.heap.size w W0) => hf k W0 (by omega) h)
  have HPB := Lib.hid (fun k (hk : k ≤ 3) => pow_bd7 (p := p) (by omega) (i := k) hk (by omega))
  have HR := Lib.hid hr
  have hp7 : p ≤ 7 ∧ 2 ≤ p := by omega
  obtain ⟨ll, hll⟩ : ∃ ll, l.length = ll := ⟨_, rfl⟩
  rw [hN]
  rw [hll] at HND ⊢
  obtain ⟨W, hW⟩ : ∃ W, (w.alloc (.cells #[.int .i64 m, .int .i64 d] 58)).alloc (.cells #[.int .i64 0, .slice none 0 0] 30) = W := ⟨_, rfl⟩
  have hwb : Below w.heap.size w W := by rw [← hW]; exact below_alloc _ (below_one _ _)
  have v4 : VarC 58 W w.heap.size #[.int .i64 m, .int .i64 d] := by rw [← hW]; exact (VarC.new _ _ _).keep (below_one _ _)
  have v8 : Var2 W (w.heap.size + 1) (.int .i64 0) (.slice none 0 0) := by
    rw [← hW]
    have := Var2.new (w.alloc (.cells #[.int .i64 m, .int .i64 d] 58)) (.int .i64 0) (.slice none 0 0)
    simpa using this
  have hwz : w.heap.size + 1 < W.heap.size := v8.lt
  have HW := Lib.hid hW
  have HB := Lib.hid hwb
  have V4 := Lib.hid v4
  have V8 := Lib.hid v8
  obtain ⟨a4, b4, -, -⟩ := v4.tells2
  clear hwb hW v4 v8 hr hx hwt hf hN okl hp hll
  go_enter Try.func39, Try.ntmps39
  go_wp2_with fail
  rw [HW.out]
  refine (HMO.out _).mono ?_
  rintro e w1 ⟨v, rfl, ho1, hb1⟩
  obtain ⟨A9, c9, hv9, -⟩ := ho1.form
  subst hv9
  rw [HLN.out] at ho1 ⊢
  obtain ⟨w2, hw2⟩ : ∃ w2, w1.alloc (.cells #[.int .i64 m, .slice A9 (d + 1) c9] 30) = w2 := ⟨_, rfl⟩
  have v9 : Var2 w2 w1.heap.size (.int .i64 m) (.slice A9 (d + 1) c9) := by rw [← hw2]; exact Var2.new _ _ _
  have hb2 : Below W.heap.size W w2 := by rw [← hw2]; exact below_alloc _ hb1
  have ho2 : OwnI w2 W.heap.size (.slice A9 (d + 1) c9) (Ser.cut m d (Ser.mon 1 1)) := by rw [← hw2]; exact ho1.keep (below_one _ _)
  obtain ⟨g9, hg9⟩ : ∃ g9, w1.heap.size = g9 := ⟨_, rfl⟩
  have hgw9 : W.heap.size ≤ g9 := by rw [← hg9]; exact hb1.size
  rw [hg9] at v9
  have a9 := v9.c0
  have b9 := v9.c1
  have HW2 := Lib.hid hw2
  have V9 := Lib.hid v9
  have HB2 := Lib.hid hb2
  have HO2 := Lib.hid ho2
  clear hw2 v9 hb2 ho2 ho1 hb1 a4 b4
  go_upto_region 2 with fail
  rw [HW2.out]
  clear HW2 hg9
  go_wp2_with fail
  refine (HSC0.out _ _ _ HO2.out.ri).mono ?_
  rintro e w3 ⟨v, rfl, ho3, hb3⟩
  obtain ⟨A0, c0, hv0, -⟩ := ho3.form
  subst hv0
  rw [HTL.out] at ho3 ⊢
  obtain ⟨w4, hw4⟩ : ∃ w4, w3.alloc (.cells #[.int .i64 m, .slice A0 (d + 1) c0] 30) = w4 := ⟨_, rfl⟩
  have v10 : Var2 w4 w3.heap.size (.int .i64 m) (.slice A0 (d + 1) c0) := by rw [← hw4]; exact Var2.new _ _ _
  have hb4 : Below w2.heap.size w2 w4 := by rw [← hw4]; exact below_alloc _ hb3
  have ho4 := (OwnI.more ho3 HB2.out.size).keep (below_one w3 (.cells #[.int .i64 m, .slice A0 (d + 1) c0] 30))
  rw [hw4] at ho4
  obtain ⟨g10, hg10⟩ : ∃ g10, w3.heap.size = g10 := ⟨_, rfl⟩
  have hgw10 : w2.heap.size ≤ g10 := by rw [← hg10]; exact hb3.size
  rw [hg10] at v10
  have HW4 := Lib.hid hw4
  have V10 := Lib.hid v10
  have HB4 := Lib.hid hb4
  have HO4 := Lib.hid ho4
  have HBW4 := Lib.hid (below_step HB.out (below_step HB2.out hb4))
  have V4' := V4.out.keep (below_step HB2.out hb4)
  obtain ⟨a4, b4, -, -⟩ := V4'.tells2
  clear hw4 v10 hb4 ho4 ho3 hb3 a9 b9
  go_upto_region 4 with fail
  rw [HW4.out]
  clear HW4 hg10
  have HK : Hid (∀ W0, Below w4.heap.size w4 W0 → W0.cell? ⟨w.heap.size, 0, none⟩ = some (.int .i64 m) ∧ W0.cell? ⟨w.heap.size, 1, none⟩ = some (.int .i64 d)) :=
    Lib.hid (fun W0 h => by obtain ⟨x, y, -, -⟩ := (V4'.keep h).tells2; exact ⟨x, y⟩)
  have HSK0 := Lib.hid (HK.out _ (below_drew0 w4))
  clear a4 b4 V4'
  refine region_tilN (fun w' => w'.cell? ⟨w.heap.size, 0, none⟩ = some (.int .i64 m) ∧ w'.cell? ⟨w.heap.size, 1, none⟩ = some (.int .i64 d)) 11 (by kernel_rfl) ?_
  refine tilN_take (i := 0) (dst := some 21) (.int .i64 p) rfl rfl (by kernel_rfl) (by kernel_rfl) (by kernel_rfl) (by kernel_rfl) (fun _ _ _ h => h) (Or.inl ⟨by rfl, ?_⟩) HSK0.out ?_
  · rintro w' ⟨z1, z2⟩
    go_simp
  simp only [Act.put, List.setIfInBounds_toArray, List.set_cons_zero, List.set_cons_succ]
  refine tilN_take (i := 1) (dst := some 22) (.pointer (some ⟨w.heap.size, 0, none⟩)) rfl rfl (by kernel_rfl) (by kernel_rfl) (by kernel_rfl) (by kernel_rfl) (fun _ _ _ h => h) (Or.inl ⟨by rfl, ?_⟩) HSK0.out ?_
  · rintro w' ⟨z1, z2⟩
    go_simp
  simp only [Act.put, List.setIfInBounds_toArray, List.set_cons_zero, List.set_cons_succ]
  refine tilN_take (i := 2) (dst := some 23) (.int .i64 m) rfl rfl (by kernel_rfl) (by kernel_rfl) (by kernel_rfl) (by kernel_rfl) (fun _ _ _ h => h) (Or.inl ⟨by rfl, ?_⟩) HSK0.out ?_
  · rintro w' ⟨z1, z2⟩
    go_simp
  simp only [Act.put, List.setIfInBounds_toArray, List.set_cons_zero, List.set_cons_succ]
  refine tilN_take (i := 3) (dst := some 24) (.int .i64 p) rfl rfl (by kernel_rfl) (by kernel_rfl) (by kernel_rfl) (by kernel_rfl) (fun _ _ _ h => h) (Or.inl ⟨by rfl, ?_⟩) HSK0.out ?_
  · rintro w' ⟨z1, z2⟩
    go_simp
  simp only [Act.put, List.setIfInBounds_toArray, List.set_cons_zero, List.set_cons_succ]
  refine tilN_take (i := 4) (dst := some 25) (.pointer (some ⟨w.heap.size, 1, none⟩)) rfl rfl (by kernel_rfl) (by kernel_rfl) (by kernel_rfl) (by kernel_rfl) (fun _ _ _ h => h) (Or.inl ⟨by rfl, ?_⟩) HSK0.out ?_
  · rintro w' ⟨z1, z2⟩
    go_simp
  simp only [Act.put, List.setIfInBounds_toArray, List.set_cons_zero, List.set_cons_succ]
  refine tilN_take (i := 5) (dst := some 26) (.int .i64 d) rfl rfl (by kernel_rfl) (by kernel_rfl) (by kernel_rfl) (by kernel_rfl) (fun _ _ _ h => h) (Or.inl ⟨by rfl, ?_⟩) HSK0.out ?_
  · rintro w' ⟨z1, z2⟩
    go_simp
  simp only [Act.put, List.setIfInBounds_toArray, List.set_cons_zero, List.set_cons_succ]
  refine tilN_take (i := 6) (dst := some 27) (.slice A ll c) rfl rfl (by kernel_rfl) (by kernel_rfl) (by kernel_rfl) (by kernel_rfl) (fun _ _ _ h => h) (Or.inl ⟨by rfl, ?_⟩) HSK0.out ?_
  · rintro w' ⟨z1, z2⟩
    go_simp
  simp only [Act.put, List.setIfInBounds_toArray, List.set_cons_zero, List.set_cons_succ]
  refine tilN_take (i := 10) (dst := some 31) (.int .i64 0) rfl rfl (by kernel_rfl) (by kernel_rfl) (by kernel_rfl) (by kernel_rfl) (fun _ _ _ h => h) (Or.inl ⟨by rfl, ?_⟩) HSK0.out ?_
  · rintro w' ⟨z1, z2⟩
    go_simp
  simp only [Act.put, List.setIfInBounds_toArray, List.set_cons_zero, List.set_cons_succ]
  refine tilN_one (i := 7) (by kernel_rfl) rfl (fun K hK => ?_)
  go_simp
  (go_at_call 69; with_reducible refine Calls.mono (HND.out _ (HR.out.below (below_step HBW4.out (below_drew0 w4)))) ?_; rintro e w5 ⟨v5, rfl, ho5, hb5⟩; have b5 := below_step (below_drew0 w4) hb5; obtain ⟨A5, c5, hv5, -⟩ := ho5.form; subst hv5; rw [ndL_length] at ho5 ⊢)
  dsimp only
  refine hK.out _ _ (fun _ => HK.out _ b5) ?_
  clear hK K
  try simp only [Act.put, List.setIfInBounds_toArray, List.set_cons_zero, List.set_cons_succ]
  refine tilN_one (i := 8) (by kernel_rfl) rfl (fun K hK => ?_)
  go_simp
  (go_at_call 28; with_reducible refine Calls.mono (HNM.out _ _ _ ho5.ri) ?_; rintro e w6 ⟨v6, rfl, ho6, hb6⟩; have b6 := below_step b5 hb6; obtain ⟨A6, c6, hv6, -⟩ := ho6.form; subst hv6; rw [HNL.out] at ho6 ⊢)
  dsimp only
  refine hK.out _ _ (fun _ => HK.out _ b6) ?_
  clear hK K
  try simp only [Act.put, List.setIfInBounds_toArray, List.set_cons_zero, List.set_cons_succ]
  refine tilN_one (i := 9) (by kernel_rfl) rfl (fun K hK => ?_)
  go_simp
  try dsimp only
  refine hK.out _ _ (fun _ => (HK.out _ b6)) ?_
  clear hK K
  try simp only [Act.put, List.setIfInBounds_toArray, List.set_cons_zero, List.set_cons_succ]
  refine tilN_done (by kernel_rfl) ?_
  have V10' := Lib.hid (V10.out.keep b6)
  have HO10 := Lib.hid (HO4.out.keep b6)
  have HON := Lib.hid ho6
  have HB6 := Lib.hid (HB4.out.trans (b6.mono HB4.out.size))
  have HL6 : g10 < w6.heap.size := V10'.out.lt
  clear b6 hb6 b5 hb5 ho5 ho6 HK HSK0 V10 HO4 HB4 HNM HND HSC0 HMO HNL
  go_wp2
  go_loopw [11, 13, 31] (fun s11 _ s31 wr => ∃ (k : Nat) (A1 : Option Addr) (c1 : Nat), k ≤ N + 1 ∧ s31 = .int .i64 k ∧ s11 = .int .i64 (p ^ k : Nat) ∧ Var2 wr g10 (.int .i64 m) (.slice A1 (d + 1) c1) ∧ OwnI wr W.heap.size (.slice A1 (d + 1) c1) (tyL m d p (fun k => Nmr.num p (Ser.co l) k % m * wt k) k) ∧ OwnI wr w5.heap.size (.slice A6 (N + 1) c6) (Nmr.numR m p (Ser.co l) (N + 1)) ∧ Below w2.heap.size w2 wr) (fun _ _ s31 _ => N + 2 - (intOf s31).toNat)
  case atStart => exact ⟨0, A0, c0, Nat.zero_le _, rfl, rfl, V10'.out, HO10.out, HON.out, HB6.out⟩
  case round =>
    clear V10' HO10 HON HB6
    obtain ⟨k, A1, c1, hk, rfl, rfl, v10, ho, hon, hb⟩ := hrel
    have V10 := Lib.hid v10
    have HO := Lib.hid ho
    have HON := Lib.hid hon
    have HB6 := Lib.hid hb
    by_cases hlt : k < N + 1
    · have i1 : (k : Int) < (N : Int) + 1 := by omega
      have i2 : (0 : Int) ≤ (k : Int) := by omega
      obtain ⟨gn, on, hgn, -, hcn⟩ := hon.ri.at k (by rw [Nmr.numR_length]; exact hlt)
      subst hgn
      rw [HNC.out k hlt] at hcn
      have hpk := HPB.out k (by omega)
      have hw := HWT.out k (by omega)
      have HFK := Lib.hid (fun W0 h => HFN.out k W0 (by omega) h)
      have HPK := Lib.hid (HPW.out k (by omega))
      have HSK := Lib.hid (HSC.out k (by omega))
      have HPLK := Lib.hid (HPL.out k)
      have HTK := Lib.hid (HTL.out (k + 1))
      have HSLK := Lib.hid (HSL.out k)
      obtain ⟨Q, hQ⟩ : ∃ Q, Nmr.num p (Ser.co l) k % m = Q := ⟨_, rfl⟩
      obtain ⟨T, hT⟩ : ∃ T, wt k = T := ⟨_, rfl⟩
      obtain ⟨K, hK9⟩ : ∃ K, p ^ k = K := ⟨_, rfl⟩
      obtain ⟨f, hf⟩ : ∃ f : Nat → Int, (fun k => Nmr.num p (Ser.co l) k % m * wt k) = f := ⟨_, rfl⟩
      rw [hQ, hT] at hw HSK HPLK HSLK
      rw [hQ] at hcn
      rw [hT] at HFK
      rw [hK9] at hpk HFK HPK HSK HPLK HSLK
      rw [hf] at HO HPLK HTK
      rw [hK9]
      have HK9 := Lib.hid hK9
      have HF9 := Lib.hid hf
      have hkp : 0 ≤ (K : Int) * (p : Int) ∧ (K : Int) * (p : Int) ≤ 2401 := by
        refine ⟨Int.mul_nonneg (by omega) (by omega), ?_⟩
        have := Int.mul_le_mul (show (K : Int) ≤ 343 by omega) (show (p : Int) ≤ 7 by omega) (by omega) (by omega)
        omega
      have HKP := Lib.hid (show (K : Int) * (p : Int) = ((p ^ (k + 1) : Nat) : Int) by rw [Nat.pow_succ, HK9.out, Int.natCast_mul])
      have HQT := Lib.hid (show IntKind.i64.wrap (Q * T) = Q * T by rw [IntKind.wrap_i64]; omega)
      have HKS : Hid (∀ W0, Below wr.heap.size wr W0 → (W0.cell? ⟨g10, 0, none⟩ = some (.int .i64 m) ∧ W0.cell? ⟨g10, 1, none⟩ = some (.slice A1 (d + 1) c1)) ∧ (W0.cell? ⟨g9, 0, none⟩ = some (.int .i64 m) ∧ W0.cell? ⟨g9, 1, none⟩ = some (.slice A9 (d + 1) c9))) :=
        Lib.hid (fun W0 h => by
          have x := v10.keep h
          have y := (V9.out.keep hb).keep h
          exact ⟨⟨x.c0, x.c1⟩, ⟨y.c0, y.c1⟩⟩)
      have HSK0 := Lib.hid (HKS.out _ (below_drew0 wr))
      have HRL := Lib.hid (HO2.out.ri.below hb)
      have HBW := Lib.hid (below_step HB.out (below_step HB2.out hb))
      clear v10 ho hon hb hQ hT hK9 hf HNC HPB HWT HFN HPW HSC HPL HTL HSL HLN
      go_upto_region 7 with fail
      clear hcn
      refine region_tilN (fun w' => (w'.cell? ⟨g10, 0, none⟩ = some (.int .i64 m) ∧ w'.cell? ⟨g10, 1, none⟩ = some (.slice A1 (d + 1) c1)) ∧ (w'.cell? ⟨g9, 0, none⟩ = some (.int .i64 m) ∧ w'.cell? ⟨g9, 1, none⟩ = some (.slice A9 (d + 1) c9))) 11 (by kernel_rfl) ?_
      refine tilN_take (i := 0) (dst := some 35) (.agg #[.int .i64 m, .slice A1 (d + 1) c1]) rfl rfl (by kernel_rfl) (by kernel_rfl) (by kernel_rfl) (by kernel_rfl) (fun _ _ _ h => h) (Or.inl ⟨by rfl, ?_⟩) HSK0.out ?_
      · rintro w' ⟨⟨z1, z2⟩, z3, z4⟩
        go_simp
      simp only [Act.put, List.setIfInBounds_toArray, List.set_cons_zero, List.set_cons_succ]
      refine tilN_take (i := 1) (dst := some 36) (.agg #[.int .i64 m, .slice A9 (d + 1) c9]) rfl rfl (by kernel_rfl) (by kernel_rfl) (by kernel_rfl) (by kernel_rfl) (fun _ _ _ h => h) (Or.inl ⟨by rfl, ?_⟩) HSK0.out ?_
      · rintro w' ⟨⟨z1, z2⟩, z3, z4⟩
        go_simp
      simp only [Act.put, List.setIfInBounds_toArray, List.set_cons_zero, List.set_cons_succ]
      refine tilN_take (i := 2) (dst := some 37) (.int .i64 K) rfl rfl (by kernel_rfl) (by kernel_rfl) (by kernel_rfl) (by kernel_rfl) (fun _ _ _ h => h) (Or.inl ⟨by rfl, ?_⟩) HSK0.out ?_
      · rintro w' ⟨⟨z1, z2⟩, z3, z4⟩
        go_simp
      simp only [Act.put, List.setIfInBounds_toArray, List.set_cons_zero, List.set_cons_succ]
      refine tilN_take (i := 4) (dst := some 39) (.int .i64 Q) rfl rfl (by kernel_rfl) (by kernel_rfl) (by kernel_rfl) (by kernel_rfl) (fun _ _ _ h => h) (Or.inl ⟨by rfl, ?_⟩) HSK0.out ?_
      · rintro w' ⟨⟨z1, z2⟩, z3, z4⟩
        go_simp
      simp only [Act.put, List.setIfInBounds_toArray, List.set_cons_zero, List.set_cons_succ]
      refine tilN_take (i := 5) (dst := some 40) (.func (.func fn) #[] cap) rfl rfl (by kernel_rfl) (by kernel_rfl) (by kernel_rfl) (by kernel_rfl) (fun _ _ _ h => h) (Or.inl ⟨by rfl, ?_⟩) HSK0.out ?_
      · rintro w' ⟨⟨z1, z2⟩, z3, z4⟩
        go_simp
      simp only [Act.put, List.setIfInBounds_toArray, List.set_cons_zero, List.set_cons_succ]
      refine tilN_take (i := 6) (dst := some 41) (.int .i64 K) rfl rfl (by kernel_rfl) (by kernel_rfl) (by kernel_rfl) (by kernel_rfl) (fun _ _ _ h => h) (Or.inl ⟨by rfl, ?_⟩) HSK0.out ?_
      · rintro w' ⟨⟨z1, z2⟩, z3, z4⟩
        go_simp
      simp only [Act.put, List.setIfInBounds_toArray, List.set_cons_zero, List.set_cons_succ]
      refine tilN_one (i := 3) (by kernel_rfl) rfl (fun K hK => ?_)
      go_simp
      (go_at_call 71; with_reducible refine Calls.mono (HPK.out _ _ _ (HRL.out.below (below_drew0 wr))) ?_; rintro e w7 ⟨A7, c7, rfl, hr7, hb7⟩; have b7 := below_step (below_drew0 wr) hb7)
      dsimp only
      refine hK.out _ _ (fun _ => HKS.out _ b7) ?_
      clear hK K
      try simp only [Act.put, List.setIfInBounds_toArray, List.set_cons_zero, List.set_cons_succ]
      refine tilN_one (i := 7) (by kernel_rfl) rfl (fun K hK => ?_)
      go_simp
      (with_reducible refine Calls.mono (HFK.out _ (below_step HBW.out b7)) ?_; rintro e w8 ⟨rfl, hb8⟩; have b8 := below_step b7 hb8)
      dsimp only
      refine hK.out _ _ (fun _ => HKS.out _ b8) ?_
      clear hK K
      try simp only [Act.put, List.setIfInBounds_toArray, List.set_cons_zero, List.set_cons_succ]
      refine tilN_one (i := 8) (by kernel_rfl) rfl (fun K hK => ?_)
      go_simp
      try dsimp only
      refine hK.out _ _ (fun _ => (HKS.out _ b8)) ?_
      clear hK K
      try simp only [Act.put, List.setIfInBounds_toArray, List.set_cons_zero, List.set_cons_succ]
      rw [HQT.out]
      refine tilN_one (i := 9) (by kernel_rfl) rfl (fun K hK => ?_)
      go_simp
      (go_at_call 68; with_reducible refine Calls.mono (HSK.out _ _ _ (hr7.below hb8)) ?_; rintro e w9 ⟨v9, rfl, ho9, hb9⟩; have b9 := below_step b8 hb9; obtain ⟨A11, c11, hv9, -⟩ := ho9.form; subst hv9; rw [HSLK.out] at ho9 ⊢)
      dsimp only
      refine hK.out _ _ (fun _ => HKS.out _ b9) ?_
      clear hK K
      try simp only [Act.put, List.setIfInBounds_toArray, List.set_cons_zero, List.set_cons_succ]
      refine tilN_one (i := 10) (by kernel_rfl) rfl (fun K hK => ?_)
      go_simp
      (go_at_call 70; with_reducible refine Calls.mono (HPLK.out _ _ _ _ _ (HO.out.ri.below b9) ho9.ri) ?_; rintro e w10 ⟨v10, rfl, ho10, hb10⟩; have b10 := below_step b9 hb10; obtain ⟨A12, c12, hv10, -⟩ := ho10.form; subst hv10; rw [HTK.out] at ho10 ⊢; have hv12 := V10.out.keep b10; have q0 := hv12.c0; have q1 := hv12.c1; have q2 := hv12.fz 0; have q3 := hv12.fz 1)
      dsimp only
      refine hK.out _ _ (fun _ => HKS.out _ b10) ?_
      clear hK K
      try simp only [Act.put, List.setIfInBounds_toArray, List.set_cons_zero, List.set_cons_succ]
      refine tilN_one (i := 11) (by kernel_rfl) rfl (fun K hK => ?_)
      go_simp
      refine hK.out _ _ (fun hlt => absurd hlt (by decide)) ?_
      clear hK K
      refine tilN_done (by kernel_rfl) ?_
      obtain ⟨Y, hY⟩ : ∃ Y, set2 w10 g10 (.int .i64 m) (.slice A12 (d + 1) c12) = Y := ⟨_, rfl⟩
      have nb : Below w2.heap.size w2 Y := by rw [← hY]; exact below_set2 (HB6.out.trans (b10.mono HB6.out.size)) hgw10 _ _
      have n10 : Var2 Y g10 (.int .i64 m) (.slice A12 (d + 1) c12) := by rw [← hY]; exact hv12.set2 _ _
      have no : OwnI Y W.heap.size (.slice A12 (d + 1) c12) (tyL m d p f (k + 1)) := by
        rw [← hY]
        refine OwnI.more (ho10.set2 hv12 _ _) ?_
        have h1 := HB2.out.size
        have h2 := HB6.out.size
        have h3 := b9.size
        omega
      have nn : OwnI Y w5.heap.size (.slice (some ⟨gn, on, none⟩) (N + 1) c6) (Nmr.numR m p (Ser.co l) (N + 1)) := by rw [← hY]; exact (HON.out.keep b10).set2 hv12 _ _
      have HY := Lib.hid hY
      have NB := Lib.hid nb
      have N10 := Lib.hid n10
      have NO := Lib.hid no
      have NN := Lib.hid nn
      unfold set2 at HY
      clear hY nb n10 no nn hv12 q0 q1 q2 q3 hb10 b10 ho10 hb9 b9 ho9 hb8 b8 hb7 b7 hr7 HKS HSK0 HFK HPK HSK HPLK HQT HBW HRL
      rw [HY.out]
      go_wp2
      go_roundw
      case rel => exact ⟨k + 1, A12, c12, by omega, by go_num, by rw [HKP.out], N10.out, by rw [HF9.out]; exact NO.out, NN.out, NB.out⟩
      case measure => simp only [intOf]; omega
    · obtain rfl : k = N + 1 := by omega
      have i1 : ¬ (((N + 1 : Nat) : Int) < (N : Int) + 1) := by omega
      have v8 := (V8.out.keep HB2.out).keep hb
      have e0 := v8.c0
      have e1 := v8.c1
      have e2 := v8.fz 0
      have e3 := v8.fz 1
      have a2 := v10.c0
      have b2 := v10.c1
      have n1 := v8.set2 (.int .i64 m) (.slice A1 (d + 1) c1)
      have f0 := n1.c0
      have f1 := n1.c1
      have HR := Lib.hid ((ho.set2 v8 (.int .i64 m) (.slice A1 (d + 1) c1)).more (show w.heap.size ≤ W.heap.size by omega))
      have HF := Lib.hid (below_set2 (below_step HB.out (below_step HB2.out hb)) (show w.heap.size ≤ w.heap.size + 1 by omega) (.int .i64 m) (.slice A1 (d + 1) c1))
      unfold set2 at f0 f1 HR HF
      clear v8 v10 ho hon hb n1
      go_wp2
      exact bodyPost_ret (v := .agg #[.int .i64 m, .slice A1 (d + 1) c1]) (by simp [results, Try.results39, go_sem, f0, f1]) rfl ⟨_, rfl, HR.out, HF.out⟩

end Go.Proofs.Ytakdmnecllcmnaa

/- Contract of the model's greatest common divisor. -/
namespace Go.Proofs.Ytakdmnecllcmnaa
open Go.RowKit Go.WideShapes Go.ChangeShapes Go.ChangeAt

/-- the greatest common divisor, at integers of any sign -/
def gcdI (a b : Int) : Int := (Nat.gcd a.natAbs b.natAbs : Nat)
theorem emod_nat (G H : Nat) : (G : Int) % (H : Int) = ((G % H : Nat) : Int) := (Int.natCast_emod G H).symm
set_option maxHeartbeats 1000000 in
theorem l01Gcd_any (a b : Int) (w : World) (h1 : -4000000000000000000 ≤ a) (h2 : a ≤ 4000000000000000000) (h3 : -4000000000000000000 ≤ b) (h4 : b ≤ 4000000000000000000) :
    Calls Try.prog 64 #[.int .i64 a, .int .i64 b] w fun e w' => e = .returned (.int .i64 (gcdI a b)) ∧ w = w' := by
  have hA : (∃ A : Nat, a = -(A : Int) ∧ 0 < A ∧ A ≤ 4000000000000000000) ∨ (∃ A : Nat, a = (A : Int) ∧ A ≤ 4000000000000000000) := by
    by_cases h : a < 0
    · exact .inl ⟨a.natAbs, by omega, by omega, by omega⟩
    · exact .inr ⟨a.natAbs, by omega, by omega⟩
  have hB : (∃ B : Nat, b = -(B : Int) ∧ 0 < B ∧ B ≤ 4000000000000000000) ∨ (∃ B : Nat, b = (B : Int) ∧ B ≤ 4000000000000000000) := by
    by_cases h : b < 0
    · exact .inl ⟨b.natAbs, by omega, by omega, by omega⟩
    · exact .inr ⟨b.natAbs, by omega, by omega⟩
  clear h1 h2 h3 h4
  rcases hA with ⟨A, rfl, hA1, hA2⟩ | ⟨A, rfl, hA2⟩ <;> rcases hB with ⟨B, rfl, hB1, hB2⟩ | ⟨B, rfl, hB2⟩
  all_goals
    go_enter Try.func64, Try.ntmps64
    go_wp2
    go_loop [0, 1] (fun g ng => ∃ (G H : Nat), g = .int .i64 G ∧ ng = .int .i64 H ∧ G ≤ 4000000000000000000 ∧ H ≤ 4000000000000000000 ∧ Nat.gcd G H = Nat.gcd A B) (fun _ ng => (intOf ng).toNat)
    case atStart => exact ⟨A, B, by go_num, by go_num, by omega, by omega, rfl⟩
    case round =>
      obtain ⟨G, H, rfl, rfl, b1, b2, heq⟩ := hrel
      have HE := Lib.hid heq
      clear heq
      by_cases hH : H = 0
      · subst hH
        go_wp2
        go_ret
        have := HE.out
        rw [Nat.gcd_zero_right] at this
        exact ⟨ret_int (by rw [this]; simp [gcdI]), rfl⟩
      · have hpos : 0 < H := by omega
        have hlt := Nat.mod_lt G hpos
        have hm1 : 0 ≤ (G : Int) % H := by rw [emod_nat]; exact Int.natCast_nonneg _
        have hg : Nat.gcd H (G % H) = Nat.gcd G H := by rw [Nat.gcd_comm H (G % H), ← Nat.gcd_rec, Nat.gcd_comm]
        have HG := Lib.hid hg
        clear hg hH
        go_wp2
        go_round
        case rel => exact ⟨H, G % H, rfl, by rw [emod_nat], b2, by omega, HG.out.trans HE.out⟩
        case measure => simp only [intOf]; rw [emod_nat]; omega

end Go.Proofs.Ytakdmnecllcmnaa

/- Contracts of the two Euclids with a factor, of the greatest common divisor, and of what looks at units. -/
namespace Go.Proofs.Ytakdmnecllcmnaa
open Go.RowKit Go.WideShapes Go.ChangeShapes Go.ChangeAt

/-- the divisor and the factor of a number -/
def egI (m a : Int) : Int × Int := (((Num.eg m.toNat a.toNat 0 1).1 : Int), (Num.eg m.toNat a.toNat 0 1).2 % m)

theorem div_cast (G H : Nat) : (G : Int) / (H : Int) = ((G / H : Nat) : Int) := (Int.natCast_ediv G H).symm
theorem sub_mod_cast (G H : Nat) : (G : Int) - (G : Int) / (H : Int) * (H : Int) = ((G % H : Nat) : Int) := by
  have h := Nat.div_add_mod G H
  have h2 : ((G / H : Nat) : Int) * (H : Int) = ((H * (G / H) : Nat) : Int) := by rw [Int.natCast_mul, Int.mul_comm]
  rw [div_cast, h2]; omega

set_option maxHeartbeats 1000000 in
theorem divisorAndFactor_any (m a : Int) (w : World) (h0 : 0 ≤ a) (h1 : a < m) (h2 : m ≤ 10000) :
    Calls Try.prog 66 #[.int .i64 m, .int .i64 a] w fun e w' => e = .returned (.tuple #[.int .i64 (egI m a).1, .int .i64 (egI m a).2]) ∧ w = w' := by
  obtain ⟨A, rfl⟩ := Int.eq_ofNat_of_zero_le h0
  obtain ⟨M, rfl⟩ := Int.eq_ofNat_of_zero_le (show 0 ≤ m by omega)
  go_enter Try.func66, Try.ntmps66
  go_wp2
  go_loop [6, 7, 8, 9] (fun g ng x nx => ∃ (G H : Nat) (X Y : Int), g = .int .i64 G ∧ ng = .int .i64 H ∧ x = .int .i64 X ∧ nx = .int .i64 Y ∧ Num.EInv M A G H X Y ∧ Num.eg G H X Y = Num.eg M A 0 1) (fun _ ng _ _ => (intOf ng).toNat)
  case atStart => exact ⟨M, A, 0, 1, rfl, rfl, rfl, rfl, Num.EInv.start (by omega), rfl⟩
  case round =>
    obtain ⟨G, H, X, Y, rfl, rfl, rfl, rfl, hinv, heq⟩ := hrel
    have HI := Lib.hid hinv
    have HE := Lib.hid heq
    have hle := hinv.le
    have hY := hinv.bn
    obtain ⟨hY1, hY2⟩ := hY
    clear heq
    by_cases hH : H = 0
    · subst hH
      have hst := Num.eg_zero G X Y
      have HS := Lib.hid hst
      clear hst
      obtain ⟨hb1, hb2⟩ := hinv.sm
      clear hinv
      go_wp2_with (go_at_call 57; refine (remainder_any _ _ _ (by omega) (by omega) (by omega) (by omega)).mono ?_; rintro e w' ⟨rfl, rfl⟩)
      go_ret2
      have := HE.out
      rw [HS.out] at this
      exact ⟨ret_ii (by rw [egI]; simp only [Int.toNat_natCast]; rw [← this]) (by rw [egI]; simp only [Int.toNat_natCast]; rw [← this]), rfl⟩
    · obtain ⟨hX1, hX2⟩ := hinv.sm
      have hq := hinv.bq hH
      rw [← div_cast] at hq
      obtain ⟨hq1, hq2⟩ := hq
      have hG : 0 ≤ (G : Int) / H * H ∧ (G : Int) / H * H ≤ G := by
        have h := sub_mod_cast G H
        have h3 : G % H < H := Nat.mod_lt _ (by omega)
        have h4 : ((G / H : Nat) : Int) * (H : Int) = ((G / H * H : Nat) : Int) := by rw [Int.natCast_mul]
        rw [div_cast] at h ⊢
        omega
      obtain ⟨hG1, hG2⟩ := hG
      have hQ : 0 ≤ (G : Int) / H ∧ (G : Int) / H ≤ 10000 := by
        rw [div_cast]
        have := Nat.div_le_self G H
        exact ⟨Int.natCast_nonneg _, by omega⟩
      obtain ⟨hQ1, hQ2⟩ := hQ
      have hstep := hinv.step hH
      have HP := Lib.hid hstep
      have hes := Num.eg_step G H X Y hH
      have HS := Lib.hid hes
      clear hinv hstep hes
      have hpos : 0 < H := by omega
      clear hH
      go_wp2
      go_round
      case rel =>
        refine ⟨H, G % H, Y, X - (G : Int) / H * Y, rfl, ?_, rfl, rfl, ?_, ?_⟩
        · rw [sub_mod_cast]
        · rw [div_cast]; exact HP.out
        · rw [div_cast, ← HS.out]; exact HE.out
      case measure =>
        simp only [intOf]
        rw [sub_mod_cast]
        have := Nat.mod_lt G hpos
        omega

set_option maxHeartbeats 1000000 in
theorem l01Inv_any (m a : Int) (w : World) (h0 : 0 ≤ a) (h1 : a < m) (h2 : m ≤ 10000) :
    Calls Try.prog 33 #[.int .i64 m, .int .i64 a] w fun e w' => e = .returned (.int .i64 (egI m a).2) ∧ w = w' := by
  obtain ⟨A, rfl⟩ := Int.eq_ofNat_of_zero_le h0
  obtain ⟨M, rfl⟩ := Int.eq_ofNat_of_zero_le (show 0 ≤ m by omega)
  have HA := Lib.hid (Int.emod_eq_of_lt h0 h1)
  go_enter Try.func33, Try.ntmps33
  go_wp2_with (go_at_call 65; refine (l01Mod_any _ _ _ (by omega) (by omega) (by omega) (by omega)).mono ?_; rintro e w' ⟨rfl, rfl⟩; rw [HA.out])
  go_loop [5, 6, 7, 8] (fun g ng x nx => ∃ (G H : Nat) (X Y : Int), g = .int .i64 G ∧ ng = .int .i64 H ∧ x = .int .i64 X ∧ nx = .int .i64 Y ∧ Num.EInv M A G H X Y ∧ Num.eg G H X Y = Num.eg M A 0 1) (fun _ ng _ _ => (intOf ng).toNat)
  case atStart => exact ⟨M, A, 0, 1, rfl, rfl, rfl, rfl, Num.EInv.start (by omega), rfl⟩
  case round =>
    obtain ⟨G, H, X, Y, rfl, rfl, rfl, rfl, hinv, heq⟩ := hrel
    have HI := Lib.hid hinv
    have HE := Lib.hid heq
    have hle := hinv.le
    have hY := hinv.bn
    obtain ⟨hY1, hY2⟩ := hY
    clear heq
    by_cases hH : H = 0
    · subst hH
      have hst := Num.eg_zero G X Y
      have HS := Lib.hid hst
      clear hst
      obtain ⟨hb1, hb2⟩ := hinv.sm
      clear hinv
      go_wp2_with (go_at_call 65; refine (l01Mod_any _ _ _ (by omega) (by omega) (by omega) (by omega)).mono ?_; rintro e w' ⟨rfl, rfl⟩)
      go_ret
      have := HE.out
      rw [HS.out] at this
      exact ⟨ret_int (by rw [egI]; simp only [Int.toNat_natCast]; rw [← this]), rfl⟩
    · obtain ⟨hX1, hX2⟩ := hinv.sm
      have hq := hinv.bq hH
      rw [← div_cast] at hq
      obtain ⟨hq1, hq2⟩ := hq
      have hG : 0 ≤ (G : Int) / H * H ∧ (G : Int) / H * H ≤ G := by
        have h := sub_mod_cast G H
        have h3 : G % H < H := Nat.mod_lt _ (by omega)
        have h4 : ((G / H : Nat) : Int) * (H : Int) = ((G / H * H : Nat) : Int) := by rw [Int.natCast_mul]
        rw [div_cast] at h ⊢
        omega
      obtain ⟨hG1, hG2⟩ := hG
      have hQ : 0 ≤ (G : Int) / H ∧ (G : Int) / H ≤ 10000 := by
        rw [div_cast]
        have := Nat.div_le_self G H
        exact ⟨Int.natCast_nonneg _, by omega⟩
      obtain ⟨hQ1, hQ2⟩ := hQ
      have hstep := hinv.step hH
      have HP := Lib.hid hstep
      have hes := Num.eg_step G H X Y hH
      have HS := Lib.hid hes
      clear hinv hstep hes
      have hpos : 0 < H := by omega
      clear hH
      go_wp2
      go_round
      case rel =>
        refine ⟨H, G % H, Y, X - (G : Int) / H * Y, rfl, ?_, rfl, rfl, ?_, ?_⟩
        · rw [sub_mod_cast]
        · rw [div_cast]; exact HP.out
        · rw [div_cast, ← HS.out]; exact HE.out
      case measure =>
        simp only [intOf]
        rw [sub_mod_cast]
        have := Nat.mod_lt G hpos
        omega


end Go.Proofs.Ytakdmnecllcmnaa

/- Contracts of IsUnit, InverseModulo and PowerModulo, of the program and of the model. -/
namespace Go.Proofs.Ytakdmnecllcmnaa
open Go.RowKit Go.WideShapes Go.ChangeShapes Go.ChangeAt

theorem eg_fact (m a : Int) (h0 : 0 ≤ a) (h1 : a < m) : (egI m a).1 = gcdI a m ∧ m ∣ a * (egI m a).2 - gcdI a m ∧ 0 ≤ (egI m a).2 ∧ (egI m a).2 < m := by
  obtain ⟨A, rfl⟩ := Int.eq_ofNat_of_zero_le h0
  obtain ⟨M, rfl⟩ := Int.eq_ofNat_of_zero_le (show 0 ≤ m by omega)
  obtain ⟨e1, e2⟩ := Num.eg_spec A M 0 1 (Num.EInv.start (show A < M by omega))
  have hg : (((Num.eg M A 0 1).1 : Nat) : Int) = gcdI A M := by rw [e1, gcdI, Int.natAbs_natCast, Int.natAbs_natCast, Nat.gcd_comm]
  refine ⟨hg, ?_, Int.emod_nonneg _ (by omega), Int.emod_lt_of_pos _ (by omega)⟩
  simp only [egI, Int.toNat_natCast]
  rw [hg] at e2
  generalize (Num.eg M A 0 1).2 = x at *
  have h := Int.emod_add_mul_ediv x (M : Int)
  generalize x % (M : Int) = r at *
  generalize x / (M : Int) = q at *
  obtain ⟨u, hu⟩ := e2
  exact ⟨u - A * q, by grind⟩

theorem divFac_any (m a : Int) (w : World) (h0 : 0 ≤ a) (h1 : a < m) (h2 : m ≤ 10000) :
    Calls Try.prog 66 #[.int .i64 m, .int .i64 a] w fun e w' => e = .returned (.tuple #[.int .i64 (gcdI a m), .int .i64 (egI m a).2]) ∧ w = w' :=
  (divisorAndFactor_any m a w h0 h1 h2).mono fun _ _ ⟨e, hw⟩ => ⟨by rw [e, (eg_fact m a h0 h1).1], hw⟩

theorem l01Unit_any (m a : Int) (w : World) (h0 : 0 ≤ a) (h1 : a < m) (h2 : m ≤ 10000) :
    Calls Try.prog 30 #[.int .i64 m, .int .i64 a] w fun e w' => e = .returned (.bool (gcdI a m == 1)) ∧ w = w' := by
  go_enter Try.func30, Try.ntmps30
  go_wp2_with (go_at_call 64; refine (l01Gcd_any _ _ _ (by omega) (by omega) (by omega) (by omega)).mono ?_; rintro e w' ⟨rfl, rfl⟩)
  go_ret
  exact ⟨rfl, rfl⟩


/-- the code of a modulus and a unit -/
def codeU (m a : Int) : Int := if codeN m [a] = 0 then (if gcdI a m = 1 then 0 else 5) else codeN m [a]

def invM (m a : Int) : Int × Int := if codeU m a = 0 then ((egI m a).2, 0) else (0, codeU m a)
theorem codeU_zero (m a : Int) : codeU m a = 0 ↔ codeN m [a] = 0 ∧ gcdI a m = 1 := by
  unfold codeU
  by_cases h0 : codeN m [a] = 0
  · rw [if_pos h0]
    by_cases k0 : gcdI a m = 1 <;> simp [k0, h0]
  · rw [if_neg h0]; simp [h0]
theorem InverseModulo_any (m a : Int) (w : World) :
    Calls Try.prog 38 #[.int .i64 m, .int .i64 a] w fun e w' => e = .returned (.tuple #[.int .i64 (invM m a).1, .int .i64 (invM m a).2]) ∧ Below w.heap.size w w' := by
  by_cases h0 : codeN m [a] = 0
  · obtain ⟨h1, h2, h3, h4⟩ := (codeN_one m a).1 h0
    by_cases k0 : gcdI a m = 1
    · have HF := Lib.hid (show invM m a = ((egI m a).2, 0) by rw [invM, if_pos ((codeU_zero m a).2 ⟨h0, k0⟩)])
      go_enter Try.func38, Try.ntmps38
      go_wp2_with (first | (go_at_call 54; refine (codeOfNumbers_any _ _ _ [a] _ (by simp) (RI_one _ _ _)).mono ?_; rintro e w' ⟨rfl, rfl⟩) | (go_at_call 66; refine (divFac_any _ _ _ (by omega) (by omega) (by omega)).mono ?_; rintro e w' ⟨rfl, rfl⟩))
      go_ret2
      exact ⟨ret_ii (by rw [HF.out]) (by rw [HF.out]), (Below.refl _ _).alloc (Nat.le_refl _) _⟩
    · have HF := Lib.hid (show invM m a = (0, 5) by rw [invM, if_neg (fun h => k0 ((codeU_zero m a).1 h).2), codeU, if_pos h0, if_neg k0])
      have k1 : (gcdI a m == 1) = false := by simpa using k0
      have k2 : (gcdI a m != 1) = true := by simpa using k0
      clear k0
      go_enter Try.func38, Try.ntmps38
      go_wp2_with (first | (go_at_call 54; refine (codeOfNumbers_any _ _ _ [a] _ (by simp) (RI_one _ _ _)).mono ?_; rintro e w' ⟨rfl, rfl⟩) | (go_at_call 66; refine (divFac_any _ _ _ (by omega) (by omega) (by omega)).mono ?_; rintro e w' ⟨rfl, rfl⟩))
      go_ret2
      exact ⟨ret_ii (by rw [HF.out]) (by rw [HF.out]), (Below.refl _ _).alloc (Nat.le_refl _) _⟩
  · have HF := Lib.hid (show invM m a = (0, codeN m [a]) by rw [invM, if_neg (fun h => h0 ((codeU_zero m a).1 h).1), codeU, if_neg h0])
    obtain ⟨n1, n2⟩ := ne_facts h0
    clear h0
    go_enter Try.func38, Try.ntmps38
    go_wp2_with (go_at_call 54; refine (codeOfNumbers_any _ _ _ [a] _ (by simp) (RI_one _ _ _)).mono ?_; rintro e w' ⟨rfl, rfl⟩)
    go_ret2
    exact ⟨ret_ii (by rw [HF.out]) (by rw [HF.out]), (Below.refl _ _).alloc (Nat.le_refl _) _⟩

end Go.Proofs.Ytakdmnecllcmnaa

/- Contracts of greatestDivisor and CommonDivisor, of the program and of the model. -/
namespace Go.Proofs.Ytakdmnecllcmnaa
open Go.RowKit Go.WideShapes Go.ChangeShapes Go.ChangeAt

set_option maxHeartbeats 1000000 in
theorem greatestDivisor_any (a b : Int) (w : World) (h1 : -4000000000000000000 ≤ a) (h2 : a ≤ 4000000000000000000) (h3 : -4000000000000000000 ≤ b) (h4 : b ≤ 4000000000000000000) :
    Calls Try.prog 36 #[.int .i64 a, .int .i64 b] w fun e w' => e = .returned (.int .i64 (gcdI a b)) ∧ Below w.heap.size w w' := by
  go_enter Try.func36, Try.ntmps36
  go_wp2
  go_loopw [0, 1] (fun x y wr => ∃ (X Y : Int), x = .int .i64 X ∧ y = .int .i64 Y ∧ -4000000000000000000 ≤ X ∧ X ≤ 4000000000000000000 ∧ -4000000000000000000 ≤ Y ∧ Y ≤ 4000000000000000000 ∧ gcdI X Y = gcdI a b ∧ Below w.heap.size w wr) (fun _ y _ => (intOf y).natAbs)
  case atStart => exact ⟨a, b, rfl, rfl, h1, h2, h3, h4, rfl, Below.refl _ _⟩
  case round =>
    obtain ⟨X, Y, rfl, rfl, b1, b2, b3, b4, heq, hbel⟩ := hrel
    have HE := Lib.hid heq
    have HB := Lib.hid hbel
    clear heq hbel
    by_cases hY : Y = 0
    · subst hY
      have h0 : gcdI X 0 = X.natAbs := by simp [gcdI]
      have H0 := Lib.hid h0
      clear h0
      by_cases hX : X < 0
      · go_wp2
        go_ret
        exact ⟨ret_int (by rw [← HE.out, H0.out]; omega), HB.out⟩
      · go_wp2
        go_ret
        exact ⟨ret_int (by rw [← HE.out, H0.out]; omega), HB.out⟩
    · obtain ⟨n1, n2⟩ := ne_facts hY
      have hlt : (X.tmod Y).natAbs < Y.natAbs := by rw [Int.natAbs_tmod]; exact Nat.mod_lt _ (by omega)
      have hg : gcdI Y (X.tmod Y) = gcdI X Y := by
        unfold gcdI; rw [Int.natAbs_tmod, Nat.gcd_comm Y.natAbs, ← Nat.gcd_rec, Nat.gcd_comm]
      have HG := Lib.hid hg
      have HL := Lib.hid hlt
      have c1 : -4000000000000000000 ≤ X.tmod Y ∧ X.tmod Y ≤ 4000000000000000000 := by omega
      obtain ⟨c1, c2⟩ := c1
      clear hg hlt
      go_wp2
      go_quiet (fail)
      go_wp2
      go_roundw
      case rel => exact ⟨Y, X.tmod Y, rfl, rfl, b3, b4, c1, c2, HG.out.trans HE.out, below_drewN HB.out _⟩
      case measure => simp only [intOf]; exact HL.out


end Go.Proofs.Ytakdmnecllcmnaa

/- Plain: the inverse of a power modulo m is the power of the inverse; the plain answer of TypicalLogarithm. -/
namespace Go.Proofs.Ytakdmnecllcmnaa
open Go.RowKit Go.WideShapes Go.ChangeShapes Go.ChangeAt

theorem gcdI_emod (a m : Int) (ha : 0 ≤ a) (hm : 0 < m) : gcdI (a % m) m = gcdI a m := by
  obtain ⟨A, rfl⟩ := Int.eq_ofNat_of_zero_le ha
  obtain ⟨M, rfl⟩ := Int.eq_ofNat_of_zero_le (show 0 ≤ m by omega)
  rw [← Int.natCast_emod]
  unfold gcdI
  rw [Int.natAbs_natCast, Int.natAbs_natCast, Int.natAbs_natCast]
  congr 1
  rw [← Nat.gcd_rec, Nat.gcd_comm]
theorem gcdI_comm (a b : Int) : gcdI a b = gcdI b a := by unfold gcdI; rw [Nat.gcd_comm]
theorem gcdI_pow {p : Nat} {m : Int} (h : gcdI (p : Int) m = 1) (k : Nat) : gcdI ((p ^ k : Nat) : Int) m = 1 := by
  unfold gcdI at h ⊢
  rw [Int.natAbs_natCast] at h ⊢
  have h1 : Nat.Coprime p m.natAbs := by unfold Nat.Coprime; omega
  have h2 : Nat.Coprime (p ^ k) m.natAbs := Nat.Coprime.pow_left k h1
  unfold Nat.Coprime at h2
  omega
/-- the inverse of p modulo m -/
def invP (m : Int) (p : Nat) : Int := (egI m ((p : Int) % m)).2
theorem invP_bd {m : Int} (h : 2 ≤ m) (p : Nat) : 0 ≤ invP m p ∧ invP m p < m := by
  have := eg_fact m ((p : Int) % m) (Int.emod_nonneg _ (by omega)) (Int.emod_lt_of_pos _ (by omega))
  exact ⟨this.2.2.1, this.2.2.2⟩
theorem inv_mul {m a : Int} (h : 2 ≤ m) (ha : 0 ≤ a) (hg : gcdI a m = 1) : (a * (egI m (a % m)).2) % m = 1 % m := by
  have hf := eg_fact m (a % m) (Int.emod_nonneg _ (by omega)) (Int.emod_lt_of_pos _ (by omega))
  have h1 := hf.2.1
  rw [gcdI_emod a m ha (by omega), hg] at h1
  have h2 : ((a % m) * (egI m (a % m)).2) % m = 1 % m := Int.emod_eq_emod_iff_emod_sub_eq_zero.2 (Int.emod_eq_zero_of_dvd h1)
  rw [← h2]
  exact Ser.mul_cong (Int.emod_emod _ _).symm rfl
theorem inv_pow {m : Int} {p : Nat} (h : 2 ≤ m) (hg : gcdI (p : Int) m = 1) (k : Nat) : (egI m (((p ^ k : Nat) : Int) % m)).2 = invP m p ^ k % m := by
  have hgk := gcdI_pow hg k
  have hX := inv_mul h (by omega) hgk
  have hI := inv_mul h (by omega) hg
  have hb := (eg_fact m (((p ^ k : Nat) : Int) % m) (Int.emod_nonneg _ (by omega)) (Int.emod_lt_of_pos _ (by omega)))
  obtain ⟨X, hX2⟩ : ∃ X, (egI m (((p ^ k : Nat) : Int) % m)).2 = X := ⟨_, rfl⟩
  rw [hX2] at hX hb ⊢
  have hIk : (((p ^ k : Nat) : Int) * invP m p ^ k) % m = 1 % m := by
    rw [Int.natCast_pow, ← Int.mul_pow, Nmr.pow_cong (show ((p : Int) * invP m p) % m = 1 % m from hI) k, Int.one_pow]
  obtain ⟨P, hP⟩ : ∃ P, ((p ^ k : Nat) : Int) = P := ⟨_, rfl⟩
  obtain ⟨Y, hY⟩ : ∃ Y, invP m p ^ k = Y := ⟨_, rfl⟩
  rw [hP] at hX hIk
  rw [hY] at hIk ⊢
  have e1 : X % m = (X * (P * Y)) % m := by
    have := Ser.mul_cong (m := m) (x := X) (y := X) rfl hIk
    rw [Int.mul_one] at this
    exact this.symm
  have e2 : (X * (P * Y)) % m = Y % m := by
    have := Ser.mul_cong (m := m) hX (show Y % m = Y % m from rfl)
    rw [Int.one_mul] at this
    rw [← this]
    congr 1
    rw [Int.mul_comm P X, Int.mul_assoc]
  rw [← e2, ← e1, Int.emod_eq_of_lt hb.2.2.1 hb.2.2.2]
theorem codeU_pow {m : Int} {p : Nat} (h : 2 ≤ m) (h2 : m ≤ 10000) (hg : gcdI (p : Int) m = 1) (k : Nat) : (invM m (((p ^ k : Nat) : Int) % m)).1 = invP m p ^ k % m := by
  have h0 : codeU m (((p ^ k : Nat) : Int) % m) = 0 := (codeU_zero _ _).2 ⟨(codeN_one _ _).2 ⟨h, h2, Int.emod_nonneg _ (by omega), by have := Int.emod_lt_of_pos ((p ^ k : Nat) : Int) (show 0 < m by omega); omega⟩, by rw [gcdI_emod _ _ (by omega) (by omega)]; exact gcdI_pow hg k⟩
  unfold invM
  rw [if_pos h0]
  exact inv_pow h hg k
/-- the code of a prime number, a modulus, a degree and parameters -/
def codeTD (p m d : Int) (l : List Int) : Int := if codeT p m l 0 = 0 then (if inB d 1 10 = true then 0 else 2) else codeT p m l 0
def tloM (p m d : Int) (l : List Int) : Int × List Int × Int :=
  if codeTD p m d l = 0 then (if gcdI p m = 1 then (m, tyL m d.toNat p.toNat (fun k => Nmr.num p.toNat (Ser.co l) k % m * (invP m p.toNat ^ k % m)) (needN p.toNat d.toNat + 1), 0) else (0, [], 5)) else (0, [], codeTD p m d l)
theorem codeTD_ok {p m d : Int} {l : List Int} (h : codeTD p m d l = 0) : codeT p m l 0 = 0 ∧ 1 ≤ d ∧ d ≤ 10 := by
  unfold codeTD at h
  by_cases h0 : codeT p m l 0 = 0
  · rw [if_pos h0] at h
    by_cases h1 : inB d 1 10 = true
    · exact ⟨h0, (inB_iff _ _ _).1 h1⟩
    · rw [if_neg h1] at h; omega
  · rw [if_neg h0] at h; exact absurd h h0
theorem tloM_len (p m d : Int) (l : List Int) : (tloM p m d l).2.1.length ≤ 1048576 := by
  unfold tloM
  split
  · rename_i h
    obtain ⟨_, h1, h2⟩ := codeTD_ok h
    split
    · show (tyL m d.toNat _ _ _).length ≤ _
      unfold tyL
      rw [Ser.cut_length]; omega
    · exact Nat.zero_le _
  · exact Nat.zero_le _

end Go.Proofs.Ytakdmnecllcmnaa

