/- Texts of contracts, joined. -/
import Derived.Test.YtfhdgcndiljjcabGreatMgap
import Derived.Test.YtfhdgcndiljjcabGreatMgaa
import Derived.Test.YtfhdgcndiljjcabGreatMgae
import Derived.Test.YtfhdgcndiljjcabGreatMgao
import Derived.Test.YtfhdgcndiljjcabGreatMgad
import Derived.Test.YtfhdgcndiljjcabGreatMgaf
import Derived.RegionTactic
import Derived.Deep.QuietTactic
import Derived.BigQuiet
import Derived.Test.YtfhdgcndiljjcabGreatMgab
import Derived.Test.YtfhdgcndiljjcabGreatMgah
import Derived.Test.YtfhdgcndiljjcabGreatMgaj
import Derived.Deep.MidRow
import Derived.Deep.WholeRow
import Derived.Laws.CopyOwn
import Derived.WalkLawsBesides
/- Contract of typicalSeries: the sum of all A(k) x^(p^k), each times a weight that a function value tells. -/
namespace Go.Proofs.YtfhdgcndiljjcabGreat
open Go.RowKit Go.WideShapes Go.ChangeShapes Go.ChangeAt
/-- the sum of the first k terms, where f i stands at x^(p^i) -/
def tyF (p : Nat) (f : Nat → Int) (k n : Nat) : Int := Ser.psum (fun i => Ser.mon (p ^ i) (f i) n) k
def tyL (m : Int) (d p : Nat) (f : Nat → Int) (k : Nat) : List Int := Ser.cut m d (tyF p f k)
theorem tyL_step (m : Int) (d p : Nat) (f : Nat → Int) (k : Nat) :
    (Ser.cut m d fun n => Ser.co (tyL m d p f k) n + Ser.co (scaL m d (Ser.cut m d (Ser.mon (p ^ k) 1)) (f k)) n) = tyL m d p f (k + 1) := by
  unfold tyL scaL
  refine Ser.cut_congr (fun i hi => ?_)
  rw [Ser.co_cut hi, Ser.co_cut hi, Ser.co_cut hi]
  show _ = (tyF p f k i + Ser.mon (p ^ k) (f k) i) % m
  refine Ser.add_cong (Int.emod_emod _ _) ((Int.emod_emod _ _).trans ?_)
  refine (Ser.mul_cong (Int.emod_emod _ _) rfl).trans ?_
  congr 1
  unfold Ser.mon
  split <;> simp
theorem tyL_zero (m : Int) (d p : Nat) (f : Nat → Int) (l : List Int) : scaL m d l 0 = tyL m d p f 0 := by
  unfold scaL tyL tyF
  refine Ser.cut_congr (Ser.Eq.of m d (fun i _ => ?_))
  rw [Int.mul_zero]; rfl
theorem numR_ndL (m : Int) (p : Nat) (l : List Int) (c : Nat) : Nmr.numR m p (Ser.co (ndL c l)) (c + 1) = Nmr.numR m p (Ser.co l) (c + 1) := by
  unfold Nmr.numR
  refine List.map_congr_left (fun i hi => ?_)
  rw [Nmr.num_ext c (fun j hj => by rw [ndL_co, if_pos hj]) i (by have := List.mem_range.1 hi; omega)]
set_option maxHeartbeats 16000000 in
set_option maxRecDepth 100000 in
theorem typicalSeries_any (m : Int) (d p fn : Nat) (cap : Array Value) (wt : Nat → Int) (A : Option Addr) (c : Nat) (l : List Int) (w : World) (m1 : 2 ≤ m) (m2 : m ≤ 100000000) (d1 : 1 ≤ d) (d2 : d ≤ 10) (hp : p = 2 ∨ p = 3 ∨ p = 5 ∨ p = 7)
    (hx : ∀ i, -1000000000 ≤ Ser.co l i ∧ Ser.co l i ≤ 1000000000) (hr : RI w A l)
    (hwt : ∀ k, k ≤ needN p d → 0 ≤ Nmr.num p (Ser.co l) k % m * wt k ∧ Nmr.num p (Ser.co l) k % m * wt k ≤ 100000000)
    (hen : ∀ (args : Array Value) (W : World), (callFunc fn args).run Tryz.prog W = .ok (.enter fn args) W)
    (hf : ∀ (k : Nat) (W : World), k ≤ needN p d → Below w.heap.size w W → Calls Tryz.prog fn (#[.int .i64 (p ^ k : Nat)] ++ cap) W fun e w' => e = .returned (.int .i64 (wt k)) ∧ Below W.heap.size W w') :
    Calls Tryz.prog 133 #[.agg #[.int .i64 m, .int .i64 d], .int .i64 p, .slice A l.length c, .func (.func fn) #[] cap] w fun e w' =>
      ∃ v, e = .returned (.agg #[.int .i64 m, v]) ∧ OwnI w' w.heap.size v (tyL m d p (fun k => Nmr.num p (Ser.co l) k % m * wt k) (needN p d + 1)) ∧ Below w.heap.size w w' := by
  obtain ⟨N, hN⟩ : ∃ N, needN p d = N := ⟨_, rfl⟩
  have hN3 : N ≤ 3 := by rw [← hN]; exact needN_le3 p (in4 hp) d (List.mem_range.2 (by omega))
  have HLN := Lib.hid (show (Ser.cut m d (Ser.mon 1 1)).length = d + 1 from Ser.cut_length _ _ _)
  have okl : SerOkG m d (Ser.cut m d (Ser.mon 1 1)) := SerOkG.of m1 m2 d1 d2 _
  have HMO := Lib.hid (fun W0 => monomial_anyG m d 1 1 W0 (by omega) m2 (by omega) (by omega) (by omega))
  have HSC0 := Lib.hid (fun (A1 : Option Addr) (c1 : Nat) (W0 : World) (h : RI W0 A1 (Ser.cut m d (Ser.mon 1 1))) => by
    have := scaled_anyG m d A1 c1 _ 0 W0 okl h (by omega) (by omega)
    rw [Ser.cut_length, tyL_zero m d p (fun k => Nmr.num p (Ser.co l) k % m * wt k)] at this
    exact this)
  have HND := Lib.hid (fun W0 (h : RI W0 A l) => by
    have := neededOf_any p d A c l W0 hp d2 h
    rw [hN] at this
    exact this)
  have HNM := Lib.hid (fun (A1 : Option Addr) (c1 : Nat) (W0 : World) (h : RI W0 A1 (ndL N l)) => by
    have := numeratorsModulo_any p m A1 c1 (ndL N l) W0 m1 m2 (by omega) (by omega) (by rw [ndL_length]; exact hN3) (fun i => by
      rw [ndL_co]; split
      · exact hx i
      · omega) h
    rw [ndL_length, numR_ndL] at this
    exact this)
  have HPW := Lib.hid (fun k (hk : k ≤ N) (A1 : Option Addr) (c1 : Nat) (W0 : World) (h : RI W0 A1 (Ser.cut m d (Ser.mon 1 1))) => by
    obtain ⟨j, hj⟩ : ∃ j, p ^ k = j + 1 := ⟨p ^ k - 1, by have := Nat.pow_pos (n := k) (show 0 < p by omega); omega⟩
    have hj2 : j + 1 ≤ 343 := by rw [← hj]; exact (pow_bd7 (p := p) (by omega) (i := k) (by omega) (by omega)).2
    have := powerS_any m d A1 c1 _ j W0 okl (by omega) h
    rw [Ser.cut_length, powG_line, ← hj, show ((j : Int) + 1) = ((p ^ k : Nat) : Int) by rw [hj]; omega] at this
    exact this)
  have HSC := Lib.hid (fun k (hk : k ≤ N) (A1 : Option Addr) (c1 : Nat) (W0 : World) (h : RI W0 A1 (Ser.cut m d (Ser.mon (p ^ k) 1))) => by
    have hb := hwt k (by omega)
    have := scaled_anyG m d A1 c1 _ (Nmr.num p (Ser.co l) k % m * wt k) W0 (SerOkG.of m1 m2 d1 d2 _) h (by omega) (by omega)
    rw [Ser.cut_length] at this
    exact this)
  have HPL := Lib.hid (fun k (A1 : Option Addr) (c1 : Nat) (A2 : Option Addr) (c2 : Nat) (W0 : World) (h1 : RI W0 A1 (tyL m d p (fun k => Nmr.num p (Ser.co l) k % m * wt k) k)) (h2 : RI W0 A2 (scaL m d (Ser.cut m d (Ser.mon (p ^ k) 1)) (Nmr.num p (Ser.co l) k % m * wt k))) => by
    have := plus_anyG m d A1 c1 (tyL m d p (fun k => Nmr.num p (Ser.co l) k % m * wt k) k) m A2 c2 (scaL m d (Ser.cut m d (Ser.mon (p ^ k) 1)) (Nmr.num p (Ser.co l) k % m * wt k)) W0 (SerOkG.of m1 m2 d1 d2 _) (SerOkG.of m1 m2 d1 d2 _) h1 h2
    rw [show (tyL m d p (fun k => Nmr.num p (Ser.co l) k % m * wt k) k).length = d + 1 from Ser.cut_length _ _ _, show (scaL m d (Ser.cut m d (Ser.mon (p ^ k) 1)) (Nmr.num p (Ser.co l) k % m * wt k)).length = d + 1 from Ser.cut_length _ _ _, tyL_step] at this
    exact this)
  have HTL := Lib.hid (fun k => (show (tyL m d p (fun k => Nmr.num p (Ser.co l) k % m * wt k) k).length = d + 1 from Ser.cut_length _ _ _))
  have HSL := Lib.hid (fun k => (show (scaL m d (Ser.cut m d (Ser.mon (p ^ k) 1)) (Nmr.num p (Ser.co l) k % m * wt k)).length = d + 1 from Ser.cut_length _ _ _))
  have HNL := Lib.hid (Nmr.numR_length m p (Ser.co l) (N + 1))
  have HNC := Lib.hid (fun k (hk : k < N + 1) => Nmr.numR_co (m := m) (p := p) (v := Ser.co l) hk)
  have HWT := Lib.hid (fun k (hk : k ≤ N) => hwt k (by omega))
  have HFN := Lib.hid (fun k W0 (hk : k ≤ N) (h : Below w.heap.size w W0) => hf k W0 (by omega) h)
  have HPB := Lib.hid (fun k (hk : k ≤ 3) => pow_bd7 (p := p) (by omega) (i := k) hk (by omega))
  have HR := Lib.hid hr
  have hp7 : p ≤ 7 ∧ 2 ≤ p := by omega
  obtain ⟨ll, hll⟩ : ∃ ll, l.length = ll := ⟨_, rfl⟩
  rw [hN]
  rw [hll] at HND ⊢
  obtain ⟨W, hW⟩ : ∃ W, (w.alloc (.cells #[.int .i64 m, .int .i64 d] 53)).alloc (.cells #[.int .i64 0, .slice none 0 0] 39) = W := ⟨_, rfl⟩
  have hwb : Below w.heap.size w W := by rw [← hW]; exact below_alloc _ (below_one _ _)
  have v4 : VarC 53 W w.heap.size #[.int .i64 m, .int .i64 d] := by rw [← hW]; exact (VarC.new _ _ _).keep (below_one _ _)
  have v8 : Var2 W (w.heap.size + 1) (.int .i64 0) (.slice none 0 0) := by
    rw [← hW]
    have := Var2.new (w.alloc (.cells #[.int .i64 m, .int .i64 d] 53)) (.int .i64 0) (.slice none 0 0)
    simpa using this
  have hwz : w.heap.size + 1 < W.heap.size := v8.lt
  have HW := Lib.hid hW
  have HB := Lib.hid hwb
  have V4 := Lib.hid v4
  have V8 := Lib.hid v8
  obtain ⟨a4, b4, -, -⟩ := v4.tells2
  clear hwb hW v4 v8 hr hx hwt hf hN okl hp hll
  go_enter Tryz.func133, Tryz.ntmps133
  go_wp2_with fail
  rw [HW.out]
  refine (HMO.out _).mono ?_
  rintro e w1 ⟨v, rfl, ho1, hb1⟩
  obtain ⟨A9, c9, hv9, -⟩ := ho1.form
  subst hv9
  rw [HLN.out] at ho1 ⊢
  obtain ⟨w2, hw2⟩ : ∃ w2, w1.alloc (.cells #[.int .i64 m, .slice A9 (d + 1) c9] 39) = w2 := ⟨_, rfl⟩
  have v9 : Var2 w2 w1.heap.size (.int .i64 m) (.slice A9 (d + 1) c9) := by rw [← hw2]; exact Var2.new _ _ _
  have hb2 : Below W.heap.size W w2 := by rw [← hw2]; exact below_alloc _ hb1
  have ho2 : OwnI w2 W.heap.size (.slice A9 (d + 1) c9) (Ser.cut m d (Ser.mon 1 1)) := by rw [← hw2]; exact ho1.keep (below_one _ _)
  obtain ⟨g9, hg9⟩ : ∃ g9, w1.heap.size = g9 := ⟨_, rfl⟩
  have hgw9 : W.heap.size ≤ g9 := by rw [← hg9]; exact hb1.size
  rw [hg9] at v9
  have a9 := v9.c0
  have b9 := v9.c1
  have HW2 := Lib.hid hw2
  have V9 := Lib.hid v9
  have HB2 := Lib.hid hb2
  have HO2 := Lib.hid ho2
  clear hw2 v9 hb2 ho2 ho1 hb1 a4 b4
  go_upto_region 2 with fail
  rw [HW2.out]
  clear HW2 hg9
  go_wp2_with fail
  refine (HSC0.out _ _ _ HO2.out.ri).mono ?_
  rintro e w3 ⟨v, rfl, ho3, hb3⟩
  obtain ⟨A0, c0, hv0, -⟩ := ho3.form
  subst hv0
  rw [HTL.out] at ho3 ⊢
  obtain ⟨w4, hw4⟩ : ∃ w4, w3.alloc (.cells #[.int .i64 m, .slice A0 (d + 1) c0] 39) = w4 := ⟨_, rfl⟩
  have v10 : Var2 w4 w3.heap.size (.int .i64 m) (.slice A0 (d + 1) c0) := by rw [← hw4]; exact Var2.new _ _ _
  have hb4 : Below w2.heap.size w2 w4 := by rw [← hw4]; exact below_alloc _ hb3
  have ho4 := (OwnI.more ho3 HB2.out.size).keep (below_one w3 (.cells #[.int .i64 m, .slice A0 (d + 1) c0] 39))
  rw [hw4] at ho4
  obtain ⟨g10, hg10⟩ : ∃ g10, w3.heap.size = g10 := ⟨_, rfl⟩
  have hgw10 : w2.heap.size ≤ g10 := by rw [← hg10]; exact hb3.size
  rw [hg10] at v10
  have HW4 := Lib.hid hw4
  have V10 := Lib.hid v10
  have HB4 := Lib.hid hb4
  have HO4 := Lib.hid ho4
  have HBW4 := Lib.hid (below_step HB.out (below_step HB2.out hb4))
  have V4' := V4.out.keep (below_step HB2.out hb4)
  obtain ⟨a4, b4, -, -⟩ := V4'.tells2
  clear hw4 v10 hb4 ho4 ho3 hb3 a9 b9
  go_upto_region 4 with fail
  rw [HW4.out]
  clear HW4 hg10
  have HK : Hid (∀ W0, Below w4.heap.size w4 W0 → W0.cell? ⟨w.heap.size, 0, none⟩ = some (.int .i64 m) ∧ W0.cell? ⟨w.heap.size, 1, none⟩ = some (.int .i64 d)) :=
    Lib.hid (fun W0 h => by obtain ⟨x, y, -, -⟩ := (V4'.keep h).tells2; exact ⟨x, y⟩)
  have HSK0 := Lib.hid (HK.out _ (below_drew0 w4))
  clear a4 b4 V4'
  refine region_tilN (fun w' => w'.cell? ⟨w.heap.size, 0, none⟩ = some (.int .i64 m) ∧ w'.cell? ⟨w.heap.size, 1, none⟩ = some (.int .i64 d)) 11 (by kernel_rfl) ?_
  refine tilN_take (i := 0) (dst := some 21) (.int .i64 p) rfl rfl (by kernel_rfl) (by kernel_rfl) (by kernel_rfl) (by kernel_rfl) (fun _ _ _ h => h) (Or.inl ⟨by rfl, ?_⟩) HSK0.out ?_
  · rintro w' ⟨z1, z2⟩
    go_simp
  simp only [Act.put, List.setIfInBounds_toArray, List.set_cons_zero, List.set_cons_succ]
  refine tilN_take (i := 1) (dst := some 22) (.pointer (some ⟨w.heap.size, 0, none⟩)) rfl rfl (by kernel_rfl) (by kernel_rfl) (by kernel_rfl) (by kernel_rfl) (fun _ _ _ h => h) (Or.inl ⟨by rfl, ?_⟩) HSK0.out ?_
  · rintro w' ⟨z1, z2⟩
    go_simp
  simp only [Act.put, List.setIfInBounds_toArray, List.set_cons_zero, List.set_cons_succ]
  refine tilN_take (i := 2) (dst := some 23) (.int .i64 m) rfl rfl (by kernel_rfl) (by kernel_rfl) (by kernel_rfl) (by kernel_rfl) (fun _ _ _ h => h) (Or.inl ⟨by rfl, ?_⟩) HSK0.out ?_
  · rintro w' ⟨z1, z2⟩
    go_simp
  simp only [Act.put, List.setIfInBounds_toArray, List.set_cons_zero, List.set_cons_succ]
  refine tilN_take (i := 3) (dst := some 24) (.int .i64 p) rfl rfl (by kernel_rfl) (by kernel_rfl) (by kernel_rfl) (by kernel_rfl) (fun _ _ _ h => h) (Or.inl ⟨by rfl, ?_⟩) HSK0.out ?_
  · rintro w' ⟨z1, z2⟩
    go_simp
  simp only [Act.put, List.setIfInBounds_toArray, List.set_cons_zero, List.set_cons_succ]
  refine tilN_take (i := 4) (dst := some 25) (.pointer (some ⟨w.heap.size, 1, none⟩)) rfl rfl (by kernel_rfl) (by kernel_rfl) (by kernel_rfl) (by kernel_rfl) (fun _ _ _ h => h) (Or.inl ⟨by rfl, ?_⟩) HSK0.out ?_
  · rintro w' ⟨z1, z2⟩
    go_simp
  simp only [Act.put, List.setIfInBounds_toArray, List.set_cons_zero, List.set_cons_succ]
  refine tilN_take (i := 5) (dst := some 26) (.int .i64 d) rfl rfl (by kernel_rfl) (by kernel_rfl) (by kernel_rfl) (by kernel_rfl) (fun _ _ _ h => h) (Or.inl ⟨by rfl, ?_⟩) HSK0.out ?_
  · rintro w' ⟨z1, z2⟩
    go_simp
  simp only [Act.put, List.setIfInBounds_toArray, List.set_cons_zero, List.set_cons_succ]
  refine tilN_take (i := 6) (dst := some 27) (.slice A ll c) rfl rfl (by kernel_rfl) (by kernel_rfl) (by kernel_rfl) (by kernel_rfl) (fun _ _ _ h => h) (Or.inl ⟨by rfl, ?_⟩) HSK0.out ?_
  · rintro w' ⟨z1, z2⟩
    go_simp
  simp only [Act.put, List.setIfInBounds_toArray, List.set_cons_zero, List.set_cons_succ]
  refine tilN_take (i := 10) (dst := some 31) (.int .i64 0) rfl rfl (by kernel_rfl) (by kernel_rfl) (by kernel_rfl) (by kernel_rfl) (fun _ _ _ h => h) (Or.inl ⟨by rfl, ?_⟩) HSK0.out ?_
  · rintro w' ⟨z1, z2⟩
    go_simp
  simp only [Act.put, List.setIfInBounds_toArray, List.set_cons_zero, List.set_cons_succ]
  refine tilN_one (i := 7) (by kernel_rfl) rfl (fun K hK => ?_)
  go_simp
  (go_at_call 159; with_reducible refine Calls.mono (HND.out _ (HR.out.below (below_step HBW4.out (below_drew0 w4)))) ?_; rintro e w5 ⟨v5, rfl, ho5, hb5⟩; have b5 := below_step (below_drew0 w4) hb5; obtain ⟨A5, c5, hv5, -⟩ := ho5.form; subst hv5; rw [ndL_length] at ho5 ⊢)
  dsimp only
  refine hK.out _ _ (fun _ => HK.out _ b5) ?_
  clear hK K
  try simp only [Act.put, List.setIfInBounds_toArray, List.set_cons_zero, List.set_cons_succ]
  refine tilN_one (i := 8) (by kernel_rfl) rfl (fun K hK => ?_)
  go_simp
  (go_at_call 158; with_reducible refine Calls.mono (HNM.out _ _ _ ho5.ri) ?_; rintro e w6 ⟨v6, rfl, ho6, hb6⟩; have b6 := below_step b5 hb6; obtain ⟨A6, c6, hv6, -⟩ := ho6.form; subst hv6; rw [HNL.out] at ho6 ⊢)
  dsimp only
  refine hK.out _ _ (fun _ => HK.out _ b6) ?_
  clear hK K
  try simp only [Act.put, List.setIfInBounds_toArray, List.set_cons_zero, List.set_cons_succ]
  refine tilN_one (i := 9) (by kernel_rfl) rfl (fun K hK => ?_)
  go_simp
  try dsimp only
  refine hK.out _ _ (fun _ => (HK.out _ b6)) ?_
  clear hK K
  try simp only [Act.put, List.setIfInBounds_toArray, List.set_cons_zero, List.set_cons_succ]
  refine tilN_done (by kernel_rfl) ?_
  have V10' := Lib.hid (V10.out.keep b6)
  have HO10 := Lib.hid (HO4.out.keep b6)
  have HON := Lib.hid ho6
  have HB6 := Lib.hid (HB4.out.trans (b6.mono HB4.out.size))
  have HL6 : g10 < w6.heap.size := V10'.out.lt
  clear b6 hb6 b5 hb5 ho5 ho6 HK HSK0 V10 HO4 HB4 HNM HND HSC0 HMO HNL
  go_wp2
  go_loopw [11, 13, 31] (fun s11 _ s31 wr => ∃ (k : Nat) (A1 : Option Addr) (c1 : Nat), k ≤ N + 1 ∧ s31 = .int .i64 k ∧ s11 = .int .i64 (p ^ k : Nat) ∧ Var2 wr g10 (.int .i64 m) (.slice A1 (d + 1) c1) ∧ OwnI wr W.heap.size (.slice A1 (d + 1) c1) (tyL m d p (fun k => Nmr.num p (Ser.co l) k % m * wt k) k) ∧ OwnI wr w5.heap.size (.slice A6 (N + 1) c6) (Nmr.numR m p (Ser.co l) (N + 1)) ∧ Below w2.heap.size w2 wr) (fun _ _ s31 _ => N + 2 - (intOf s31).toNat)
  case atStart => exact ⟨0, A0, c0, Nat.zero_le _, rfl, rfl, V10'.out, HO10.out, HON.out, HB6.out⟩
  case round =>
    clear V10' HO10 HON HB6
    obtain ⟨k, A1, c1, hk, rfl, rfl, v10, ho, hon, hb⟩ := hrel
    have V10 := Lib.hid v10
    have HO := Lib.hid ho
    have HON := Lib.hid hon
    have HB6 := Lib.hid hb
    by_cases hlt : k < N + 1
    · have i1 : (k : Int) < (N : Int) + 1 := by omega
      have i2 : (0 : Int) ≤ (k : Int) := by omega
      obtain ⟨gn, on, hgn, -, hcn⟩ := hon.ri.at k (by rw [Nmr.numR_length]; exact hlt)
      subst hgn
      rw [HNC.out k hlt] at hcn
      have hpk := HPB.out k (by omega)
      have hw := HWT.out k (by omega)
      have HFK := Lib.hid (fun W0 h => HFN.out k W0 (by omega) h)
      have HPK := Lib.hid (HPW.out k (by omega))
      have HSK := Lib.hid (HSC.out k (by omega))
      have HPLK := Lib.hid (HPL.out k)
      have HTK := Lib.hid (HTL.out (k + 1))
      have HSLK := Lib.hid (HSL.out k)
      obtain ⟨Q, hQ⟩ : ∃ Q, Nmr.num p (Ser.co l) k % m = Q := ⟨_, rfl⟩
      obtain ⟨T, hT⟩ : ∃ T, wt k = T := ⟨_, rfl⟩
      obtain ⟨K, hK9⟩ : ∃ K, p ^ k = K := ⟨_, rfl⟩
      obtain ⟨f, hf⟩ : ∃ f : Nat → Int, (fun k => Nmr.num p (Ser.co l) k % m * wt k) = f := ⟨_, rfl⟩
      rw [hQ, hT] at hw HSK HPLK HSLK
      rw [hQ] at hcn
      rw [hT] at HFK
      rw [hK9] at hpk HFK HPK HSK HPLK HSLK
      rw [hf] at HO HPLK HTK
      rw [hK9]
      have HK9 := Lib.hid hK9
      have HF9 := Lib.hid hf
      have hkp : 0 ≤ (K : Int) * (p : Int) ∧ (K : Int) * (p : Int) ≤ 2401 := by
        refine ⟨Int.mul_nonneg (by omega) (by omega), ?_⟩
        have := Int.mul_le_mul (show (K : Int) ≤ 343 by omega) (show (p : Int) ≤ 7 by omega) (by omega) (by omega)
        omega
      have HKP := Lib.hid (show (K : Int) * (p : Int) = ((p ^ (k + 1) : Nat) : Int) by rw [Nat.pow_succ, HK9.out, Int.natCast_mul])
      have HQT := Lib.hid (show IntKind.i64.wrap (Q * T) = Q * T by rw [IntKind.wrap_i64]; omega)
      have HKS : Hid (∀ W0, Below wr.heap.size wr W0 → (W0.cell? ⟨g10, 0, none⟩ = some (.int .i64 m) ∧ W0.cell? ⟨g10, 1, none⟩ = some (.slice A1 (d + 1) c1)) ∧ (W0.cell? ⟨g9, 0, none⟩ = some (.int .i64 m) ∧ W0.cell? ⟨g9, 1, none⟩ = some (.slice A9 (d + 1) c9))) :=
        Lib.hid (fun W0 h => by
          have x := v10.keep h
          have y := (V9.out.keep hb).keep h
          exact ⟨⟨x.c0, x.c1⟩, ⟨y.c0, y.c1⟩⟩)
      have HSK0 := Lib.hid (HKS.out _ (below_drew0 wr))
      have HRL := Lib.hid (HO2.out.ri.below hb)
      have HBW := Lib.hid (below_step HB.out (below_step HB2.out hb))
      clear v10 ho hon hb hQ hT hK9 hf HNC HPB HWT HFN HPW HSC HPL HTL HSL HLN
      go_upto_region 7 with fail
      clear hcn
      refine region_tilN (fun w' => (w'.cell? ⟨g10, 0, none⟩ = some (.int .i64 m) ∧ w'.cell? ⟨g10, 1, none⟩ = some (.slice A1 (d + 1) c1)) ∧ (w'.cell? ⟨g9, 0, none⟩ = some (.int .i64 m) ∧ w'.cell? ⟨g9, 1, none⟩ = some (.slice A9 (d + 1) c9))) 11 (by kernel_rfl) ?_
      refine tilN_take (i := 0) (dst := some 35) (.agg #[.int .i64 m, .slice A1 (d + 1) c1]) rfl rfl (by kernel_rfl) (by kernel_rfl) (by kernel_rfl) (by kernel_rfl) (fun _ _ _ h => h) (Or.inl ⟨by rfl, ?_⟩) HSK0.out ?_
      · rintro w' ⟨⟨z1, z2⟩, z3, z4⟩
        go_simp
      simp only [Act.put, List.setIfInBounds_toArray, List.set_cons_zero, List.set_cons_succ]
      refine tilN_take (i := 1) (dst := some 36) (.agg #[.int .i64 m, .slice A9 (d + 1) c9]) rfl rfl (by kernel_rfl) (by kernel_rfl) (by kernel_rfl) (by kernel_rfl) (fun _ _ _ h => h) (Or.inl ⟨by rfl, ?_⟩) HSK0.out ?_
      · rintro w' ⟨⟨z1, z2⟩, z3, z4⟩
        go_simp
      simp only [Act.put, List.setIfInBounds_toArray, List.set_cons_zero, List.set_cons_succ]
      refine tilN_take (i := 2) (dst := some 37) (.int .i64 K) rfl rfl (by kernel_rfl) (by kernel_rfl) (by kernel_rfl) (by kernel_rfl) (fun _ _ _ h => h) (Or.inl ⟨by rfl, ?_⟩) HSK0.out ?_
      · rintro w' ⟨⟨z1, z2⟩, z3, z4⟩
        go_simp
      simp only [Act.put, List.setIfInBounds_toArray, List.set_cons_zero, List.set_cons_succ]
      refine tilN_take (i := 4) (dst := some 39) (.int .i64 Q) rfl rfl (by kernel_rfl) (by kernel_rfl) (by kernel_rfl) (by kernel_rfl) (fun _ _ _ h => h) (Or.inl ⟨by rfl, ?_⟩) HSK0.out ?_
      · rintro w' ⟨⟨z1, z2⟩, z3, z4⟩
        go_simp
      simp only [Act.put, List.setIfInBounds_toArray, List.set_cons_zero, List.set_cons_succ]
      refine tilN_take (i := 5) (dst := some 40) (.func (.func fn) #[] cap) rfl rfl (by kernel_rfl) (by kernel_rfl) (by kernel_rfl) (by kernel_rfl) (fun _ _ _ h => h) (Or.inl ⟨by rfl, ?_⟩) HSK0.out ?_
      · rintro w' ⟨⟨z1, z2⟩, z3, z4⟩
        go_simp
      simp only [Act.put, List.setIfInBounds_toArray, List.set_cons_zero, List.set_cons_succ]
      refine tilN_take (i := 6) (dst := some 41) (.int .i64 K) rfl rfl (by kernel_rfl) (by kernel_rfl) (by kernel_rfl) (by kernel_rfl) (fun _ _ _ h => h) (Or.inl ⟨by rfl, ?_⟩) HSK0.out ?_
      · rintro w' ⟨⟨z1, z2⟩, z3, z4⟩
        go_simp
      simp only [Act.put, List.setIfInBounds_toArray, List.set_cons_zero, List.set_cons_succ]
      refine tilN_one (i := 3) (by kernel_rfl) rfl (fun K hK => ?_)
      go_simp
      (go_at_call 160; with_reducible refine Calls.mono (HPK.out _ _ _ (HRL.out.below (below_drew0 wr))) ?_; rintro e w7 ⟨A7, c7, rfl, hr7, hb7⟩; have b7 := below_step (below_drew0 wr) hb7)
      dsimp only
      refine hK.out _ _ (fun _ => HKS.out _ b7) ?_
      clear hK K
      try simp only [Act.put, List.setIfInBounds_toArray, List.set_cons_zero, List.set_cons_succ]
      refine tilN_one (i := 7) (by kernel_rfl) rfl (fun K hK => ?_)
      go_simp
      (with_reducible refine Calls.mono (HFK.out _ (below_step HBW.out b7)) ?_; rintro e w8 ⟨rfl, hb8⟩; have b8 := below_step b7 hb8)
      dsimp only
      refine hK.out _ _ (fun _ => HKS.out _ b8) ?_
      clear hK K
      try simp only [Act.put, List.setIfInBounds_toArray, List.set_cons_zero, List.set_cons_succ]
      refine tilN_one (i := 8) (by kernel_rfl) rfl (fun K hK => ?_)
      go_simp
      try dsimp only
      refine hK.out _ _ (fun _ => (HKS.out _ b8)) ?_
      clear hK K
      try simp only [Act.put, List.setIfInBounds_toArray, List.set_cons_zero, List.set_cons_succ]
      rw [HQT.out]
      refine tilN_one (i := 9) (by kernel_rfl) rfl (fun K hK => ?_)
      go_simp
      (go_at_call 78; with_reducible refine Calls.mono (HSK.out _ _ _ (hr7.below hb8)) ?_; rintro e w9 ⟨v9, rfl, ho9, hb9⟩; have b9 := below_step b8 hb9; obtain ⟨A11, c11, hv9, -⟩ := ho9.form; subst hv9; rw [HSLK.out] at ho9 ⊢)
      dsimp only
      refine hK.out _ _ (fun _ => HKS.out _ b9) ?_
      clear hK K
      try simp only [Act.put, List.setIfInBounds_toArray, List.set_cons_zero, List.set_cons_succ]
      refine tilN_one (i := 10) (by kernel_rfl) rfl (fun K hK => ?_)
      go_simp
      (go_at_call 71; with_reducible refine Calls.mono (HPLK.out _ _ _ _ _ (HO.out.ri.below b9) ho9.ri) ?_; rintro e w10 ⟨v10, rfl, ho10, hb10⟩; have b10 := below_step b9 hb10; obtain ⟨A12, c12, hv10, -⟩ := ho10.form; subst hv10; rw [HTK.out] at ho10 ⊢; have hv12 := V10.out.keep b10; have q0 := hv12.c0; have q1 := hv12.c1; have q2 := hv12.fz 0; have q3 := hv12.fz 1)
      dsimp only
      refine hK.out _ _ (fun _ => HKS.out _ b10) ?_
      clear hK K
      try simp only [Act.put, List.setIfInBounds_toArray, List.set_cons_zero, List.set_cons_succ]
      refine tilN_one (i := 11) (by kernel_rfl) rfl (fun K hK => ?_)
      go_simp
      refine hK.out _ _ (fun hlt => absurd hlt (by decide)) ?_
      clear hK K
      refine tilN_done (by kernel_rfl) ?_
      obtain ⟨Y, hY⟩ : ∃ Y, set2 w10 g10 (.int .i64 m) (.slice A12 (d + 1) c12) = Y := ⟨_, rfl⟩
      have nb : Below w2.heap.size w2 Y := by rw [← hY]; exact below_set2 (HB6.out.trans (b10.mono HB6.out.size)) hgw10 _ _
      have n10 : Var2 Y g10 (.int .i64 m) (.slice A12 (d + 1) c12) := by rw [← hY]; exact hv12.set2 _ _
      have no : OwnI Y W.heap.size (.slice A12 (d + 1) c12) (tyL m d p f (k + 1)) := by
        rw [← hY]
        refine OwnI.more (ho10.set2 hv12 _ _) ?_
        have h1 := HB2.out.size
        have h2 := HB6.out.size
        have h3 := b9.size
        omega
      have nn : OwnI Y w5.heap.size (.slice (some ⟨gn, on, none⟩) (N + 1) c6) (Nmr.numR m p (Ser.co l) (N + 1)) := by rw [← hY]; exact (HON.out.keep b10).set2 hv12 _ _
      have HY := Lib.hid hY
      have NB := Lib.hid nb
      have N10 := Lib.hid n10
      have NO := Lib.hid no
      have NN := Lib.hid nn
      unfold set2 at HY
      clear hY nb n10 no nn hv12 q0 q1 q2 q3 hb10 b10 ho10 hb9 b9 ho9 hb8 b8 hb7 b7 hr7 HKS HSK0 HFK HPK HSK HPLK HQT HBW HRL
      rw [HY.out]
      go_wp2
      go_roundw
      case rel => exact ⟨k + 1, A12, c12, by omega, by go_num, by rw [HKP.out], N10.out, by rw [HF9.out]; exact NO.out, NN.out, NB.out⟩
      case measure => simp only [intOf]; omega
    · obtain rfl : k = N + 1 := by omega
      have i1 : ¬ (((N + 1 : Nat) : Int) < (N : Int) + 1) := by omega
      have v8 := (V8.out.keep HB2.out).keep hb
      have e0 := v8.c0
      have e1 := v8.c1
      have e2 := v8.fz 0
      have e3 := v8.fz 1
      have a2 := v10.c0
      have b2 := v10.c1
      have n1 := v8.set2 (.int .i64 m) (.slice A1 (d + 1) c1)
      have f0 := n1.c0
      have f1 := n1.c1
      have HR := Lib.hid ((ho.set2 v8 (.int .i64 m) (.slice A1 (d + 1) c1)).more (show w.heap.size ≤ W.heap.size by omega))
      have HF := Lib.hid (below_set2 (below_step HB.out (below_step HB2.out hb)) (show w.heap.size ≤ w.heap.size + 1 by omega) (.int .i64 m) (.slice A1 (d + 1) c1))
      unfold set2 at f0 f1 HR HF
      clear v8 v10 ho hon hb n1
      go_wp2
      exact bodyPost_ret (v := .agg #[.int .i64 m, .slice A1 (d + 1) c1]) (by simp [results, Tryz.results133, go_sem, f0, f1]) rfl ⟨_, rfl, HR.out, HF.out⟩
end Go.Proofs.YtfhdgcndiljjcabGreat

/- Contract of typicalLaw. -/
namespace Go.Proofs.YtfhdgcndiljjcabGreat
open Go.RowKit Go.WideShapes Go.ChangeShapes Go.ChangeAt
/-- the stretched logarithm, its law, and the law that the program makes of them -/
def strL (p : Nat) (m : Int) (d : Nat) (l : List Int) : List Int := tyL (m * strN p d) d p (fun k => Nmr.num p (Ser.co l) k % (m * strN p d) * ((strN p (p ^ k) / p ^ k : Nat) : Int)) (needN p d + 1)
def strT (p : Nat) (m : Int) (d : Nat) (l : List Int) : List (List Int) := Pl.hor (m * strN p d) d (Ser.lagG (m * strN p d) 1 (Ser.co (strL p m d l)) d d).1 (Pl.pc (Pl.tab (m * strN p d) d (sumF (strL p m d l)))) (d + 1)
def tlwP (p : Nat) (m : Int) (d : Nat) (l : List Int) : List (List Int) := Pl.tab m d fun i j => Pl.pc (strT p m d l) i j / strN p (i + j)
theorem num_wt {p : Nat} (hp : p = 2 ∨ p = 3 ∨ p = 5 ∨ p = 7) {m : Int} (m1 : 2 ≤ m) (m2 : m ≤ 10000) {d : Nat} (d1 : 1 ≤ d) (d2 : d ≤ 10) (x : Int) {k : Nat} (hk : k ≤ needN p d) :
    0 ≤ x % (m * strN p d) * ((strN p (p ^ k) / p ^ k : Nat) : Int) ∧ x % (m * strN p d) * ((strN p (p ^ k) / p ^ k : Nat) : Int) ≤ 100000000 := by
  have hs := strN_bd p (in4 hp) d (List.mem_range.2 (by omega))
  obtain ⟨S, hS⟩ : ∃ S, strN p d = S := ⟨_, rfl⟩
  rw [hS] at hs ⊢
  have h3 : k ≤ 3 := Nat.le_trans hk (needN_le3 p (in4 hp) d (List.mem_range.2 (by omega)))
  have hw : strN p (p ^ k) / p ^ k ≤ 16 := by
    rcases Nat.eq_zero_or_pos k with rfl | h0
    · have : strN p (p ^ 0) / p ^ 0 ≤ 16 := strN_div p (in4 hp) 0 (by decide) (by simp)
      exact this
    · have := (needN_at p (in4 hp) d (List.mem_range.2 (by omega)) k (List.mem_range.2 (by omega))).1 ⟨h0, hk⟩
      exact strN_div p (in4 hp) k (List.mem_range.2 (by omega)) (by omega)
  obtain ⟨W, hW⟩ : ∃ W, strN p (p ^ k) / p ^ k = W := ⟨_, rfl⟩
  rw [hW] at hw ⊢
  have hM : 2 ≤ m * (S : Int) ∧ m * (S : Int) ≤ 5120000 := by
    refine ⟨?_, ?_⟩
    · have := Int.mul_le_mul m1 (show (1 : Int) ≤ (S : Int) by omega) (by omega) (by omega); omega
    · have := Int.mul_le_mul m2 (show (S : Int) ≤ 512 by omega) (by omega) (by omega); omega
  have r1 := Int.emod_nonneg x (show m * (S : Int) ≠ 0 by omega)
  have r2 := Int.emod_lt_of_pos x (show 0 < m * (S : Int) by omega)
  obtain ⟨R, hR⟩ : ∃ R, x % (m * (S : Int)) = R := ⟨_, rfl⟩
  rw [hR] at r1 r2 ⊢
  refine ⟨Int.mul_nonneg r1 (by omega), ?_⟩
  have := Int.mul_le_mul (show R ≤ 5120000 by omega) (show (W : Int) ≤ 16 by omega) (by omega) (by omega)
  omega
theorem pow_need {p : Nat} (hp : p = 2 ∨ p = 3 ∨ p = 5 ∨ p = 7) {d : Nat} (d1 : 1 ≤ d) (d2 : d ≤ 10) {k : Nat} (hk : k ≤ needN p d) : p ^ k ≤ 10 := by
  rcases Nat.eq_zero_or_pos k with rfl | h0
  · rw [Nat.pow_zero]; omega
  · have h3 : k ≤ 3 := Nat.le_trans hk (needN_le3 p (in4 hp) d (List.mem_range.2 (by omega)))
    have := (needN_at p (in4 hp) d (List.mem_range.2 (by omega)) k (List.mem_range.2 (by omega))).1 ⟨h0, hk⟩
    omega
theorem tyF_co0 {p : Nat} (hp : 1 ≤ p) (f : Nat → Int) : ∀ k, tyF p f k 0 = 0
  | 0 => rfl
  | k + 1 => by
    show tyF p f k 0 + Ser.mon (p ^ k) (f k) 0 = 0
    have : 1 ≤ p ^ k := Nat.pow_pos hp
    rw [tyF_co0 hp f k]
    unfold Ser.mon
    rw [if_neg (by omega)]
    rfl
theorem tyL_co0 {p : Nat} (hp : 1 ≤ p) (m : Int) (d : Nat) (f : Nat → Int) (k : Nat) : Ser.co (tyL m d p f k) 0 = 0 := by
  unfold tyL
  rw [Ser.co_cut (Nat.zero_le _), tyF_co0 hp, Int.zero_emod]
theorem VarC.new1G (t : TypeId) (w : World) (o : Obj) (cs : Array Value) : VarC t ((w.alloc o).alloc (.cells cs t)) (w.heap.size + 1) cs := by
  have := VarC.new t (w.alloc o) cs
  simpa using this
theorem lagG_zero (m u : Int) (f : Nat → Int) (d : Nat) : ∀ n, Ser.co (Ser.lagG m u f d n).1 0 = 0
  | 0 => by
    show Ser.co (Ser.cut m d (Ser.mon 0 0)) 0 = 0
    rw [Ser.co_cut (Nat.zero_le _)]
    unfold Ser.mon
    rw [if_pos rfl, Int.zero_emod]
  | n + 1 => by
    rw [lag_g]
    show (List.set _ (n + 1) _)[0]?.getD 0 = 0
    rw [List.getElem?_set_ne (by omega)]
    exact lagG_zero m u f d n
set_option maxHeartbeats 16000000 in
set_option maxRecDepth 100000 in
theorem typicalLaw_any (p : Nat) (m : Int) (d : Nat) (A : Option Addr) (c : Nat) (l : List Int) (w : World) (m1 : 2 ≤ m) (m2 : m ≤ 10000) (d1 : 1 ≤ d) (d2 : d ≤ 10) (hp : p = 2 ∨ p = 3 ∨ p = 5 ∨ p = 7)
    (hx : ∀ i, -1000000000 ≤ Ser.co l i ∧ Ser.co l i ≤ 1000000000) (hr : RI w A l) :
    Calls Tryz.prog 96 #[.agg #[.int .i64 m, .int .i64 d], .int .i64 p, .slice A l.length c] w fun e w' => ∃ v, e = .returned (.agg #[.int .i64 m, .int .i64 d, v]) ∧ OwnR w' w.heap.size w'.heap.size v (tlwP p m d l) ∧ Below w.heap.size w w' := by
  obtain ⟨W, hW⟩ : ∃ W, ((w.alloc (.cells #[.int .i64 m, .int .i64 d] 53)).alloc (.cells #[.int .i64 p] 2)).alloc (.cells #[.int .i64 0, .int .i64 0, .slice none 0 0] 57) = W := ⟨_, rfl⟩
  have hwb : Below w.heap.size w W := by rw [← hW]; exact below_alloc _ (below_alloc _ (below_one _ _))
  have v1 : VarC 53 W w.heap.size #[.int .i64 m, .int .i64 d] := by rw [← hW]; exact ((VarC.new _ w _).keep (below_one _ _)).keep (below_one _ _)
  have cp : Cel W (w.heap.size + 1) p := by
    rw [← hW]
    have := (Cel.new (w.alloc (.cells #[.int .i64 m, .int .i64 d] 53)) p).keep (below_one _ (.cells #[.int .i64 0, .int .i64 0, .slice none 0 0] 57))
    simpa using this
  have v3 : VarC 57 W (w.heap.size + 1 + 1) #[.int .i64 0, .int .i64 0, .slice none 0 0] := by
    rw [← hW]
    have := VarC.new 57 ((w.alloc (.cells #[.int .i64 m, .int .i64 d] 53)).alloc (.cells #[.int .i64 p] 2)) #[.int .i64 0, .int .i64 0, .slice none 0 0]
    simpa using this
  have HST := Lib.hid (fun W0 => stretch_any p d W0 hp d2)
  have hnw := fun k (hk : k ≤ needN p d) => num_wt hp m1 m2 d1 d2 (Nmr.num p (Ser.co l) k) hk
  have hp1 : 1 ≤ p := by omega
  have hsb := strN_bd p (in4 hp) d (List.mem_range.2 (by omega))
  obtain ⟨S, hS⟩ : ∃ S, strN p d = S := ⟨_, rfl⟩
  rw [hS] at HST hsb hnw
  have hM : 2 ≤ m * (S : Int) ∧ m * (S : Int) ≤ 5120000 := by
    refine ⟨?_, ?_⟩
    · have := Int.mul_le_mul m1 (show (1 : Int) ≤ (S : Int) by omega) (by omega) (by omega); omega
    · have := Int.mul_le_mul m2 (show (S : Int) ≤ 512 by omega) (by omega) (by omega); omega
  obtain ⟨M, hMM⟩ : ∃ M, m * (S : Int) = M := ⟨_, rfl⟩
  rw [hMM] at hM hnw
  have hwm : IntKind.i64.wrap M = M := by rw [IntKind.wrap_i64]; omega
  have HW := Lib.hid hW
  have HB := Lib.hid hwb
  have V1 := Lib.hid v1
  have V3 := Lib.hid v3
  have CP := Lib.hid cp
  have HR := Lib.hid (hr.below hwb)
  have HK : Hid (∀ W0, Below W.heap.size W W0 → (W0.cell? ⟨w.heap.size, 0, none⟩ = some (.int .i64 m) ∧ W0.cell? ⟨w.heap.size, 1, none⟩ = some (.int .i64 d)) ∧ W0.cell? ⟨w.heap.size + 1, 0, none⟩ = some (.int .i64 p) ∧ Below W.heap.size W W0) :=
    Lib.hid (fun W0 h => ⟨⟨(v1.keep h).cell 0 _ rfl, (v1.keep h).cell 1 _ rfl⟩, (cp.keep h).1, h⟩)
  have HTS := Lib.hid (fun W0 (h : Below W.heap.size W W0) => typicalSeries_any M d p 134 #[.pointer (some ⟨w.heap.size + 1, 0, none⟩)] (fun k => ((strN p (p ^ k) / p ^ k : Nat) : Int)) A c l W0 hM.1 (by omega) d1 d2 hp hx ((hr.below hwb).below h) hnw
    (enters_fn Tryz.func134 (of_decide_eq_true (by kernel_rfl)) rfl)
    (fun k W1 hk h1 => typicalLawA_any p k (w.heap.size + 1) W1 (cp.keep (h.trans (h1.mono h.size))) hp (pow_need hp d1 d2 hk)))
  have hLL : strL p m d l = tyL M d p (fun k => Nmr.num p (Ser.co l) k % M * ((strN p (p ^ k) / p ^ k : Nat) : Int)) (needN p d + 1) := by unfold strL; rw [hS, hMM]
  have hTT : strT p m d l = Pl.hor M d (Ser.lagG M 1 (Ser.co (strL p m d l)) d d).1 (Pl.pc (Pl.tab M d (sumF (strL p m d l)))) (d + 1) := by unfold strT; rw [hS, hMM]
  have okL : SerOkG M d (strL p m d l) := by rw [hLL]; exact SerOkG.of hM.1 (by omega) d1 d2 _
  have zL : Ser.co (strL p m d l) 0 = 0 := by rw [hLL]; exact tyL_co0 hp1 _ _ _ _
  rw [← hLL] at HTS
  have okR : SerOkG M d (Ser.lagG M 1 (Ser.co (strL p m d l)) d d).1 := ⟨hM.1, by omega, d1, d2, Ser.lagG_len1 _ _ _ _ _, Ser.lagG_red1 (by omega) _ _ _ _ (Nat.le_refl _)⟩
  have zR : Ser.co (Ser.lagG M 1 (Ser.co (strL p m d l)) d d).1 0 = 0 := lagG_zero _ _ _ _ _
  have hFT : tlwP p m d l = Pl.tab m d fun i j => Pl.pc (strT p m d l) i j / strN p (i + j) := rfl
  obtain ⟨L, hL⟩ : ∃ L, strL p m d l = L := ⟨_, rfl⟩
  rw [hL] at HTS hTT okL zL okR zR
  obtain ⟨T, hT⟩ : ∃ T, strT p m d l = T := ⟨_, rfl⟩
  rw [hT] at hTT hFT
  have hFl : (tlwP p m d l).length = d + 1 := by rw [hFT]; exact (Pl.OkG.of_tab m1 (by omega) d1 d2 _).len
  obtain ⟨FT, hFF⟩ : ∃ FT, tlwP p m d l = FT := ⟨_, rfl⟩
  rw [hFF] at hFT hFl ⊢
  clear hW hwb v1 v3 cp hr hLL hL hT hnw hFF
  go_enter Tryz.func96, Tryz.ntmps96
  go_upto_region 1 with fail
  rw [HW.out]
  go_cut [7] (fun s7 wx => ∃ g, s7 = .pointer (some ⟨g, 0, none⟩) ∧ VarC 53 wx g #[.int .i64 M, .int .i64 d] ∧ W.heap.size ≤ g ∧ Below W.heap.size W wx)
  case first =>
    go_region_held3 (fun w' => (w'.cell? ⟨w.heap.size, 0, none⟩ = some (.int .i64 m) ∧ w'.cell? ⟨w.heap.size, 1, none⟩ = some (.int .i64 d)) ∧ w'.cell? ⟨w.heap.size + 1, 0, none⟩ = some (.int .i64 p) ∧ Below W.heap.size W w') (first | exact HK.out _ (below_drew0 _) | exact HK.out _ (below_alloc _ (trd (by assumption))) | exact (by assumption) | exact HK.out _ ((below_one W _).drew)) (first
      | (go_at_call 132; with_reducible refine Calls.mono (HST.out _) ?_; rintro e wa ⟨rfl, hwa⟩; subst hwa))
    all_goals
      go_wp2_with fail
      go_meet
      case rel => first | exact ⟨W.heap.size, rfl, (VarC.new _ W _).drew, Nat.le_refl _, (below_one W _).drew⟩
  case rest =>
    obtain ⟨w2, hwc⟩ : ∃ w9, w9 = wc := ⟨_, rfl⟩
    subst hwc
    obtain ⟨g7, rfl, v7, hg7, hb2⟩ := hcut
    go_upto_region 2 with fail
    have HB2 := Lib.hid hb2
    have V7 := Lib.hid v7
    have HLL := Lib.hid okL.len
    clear hb2 v7
    have hk := HK.out _ HB2.out
    obtain ⟨-, kp, -⟩ := hk
    obtain ⟨x0, x1, -, -⟩ := V7.out.tells2
    go_wp2_with (go_at_call 133; with_reducible refine Calls.mono (HTS.out _ HB2.out) ?_; rintro e w3 ⟨v3', rfl, ho3, hb3⟩; obtain ⟨A3, c3, hv3, -⟩ := ho3.form; subst hv3; rw [HLL.out] at ho3 ⊢)
    obtain ⟨w4, hw4⟩ : ∃ w4, w3.alloc (.cells #[.int .i64 M, .slice A3 (d + 1) c3] 128) = w4 := ⟨_, rfl⟩
    have hlt3 : w2.heap.size ≤ w3.heap.size := hb3.size
    have hb4 : Below w2.heap.size w2 w4 := by rw [← hw4]; exact below_alloc _ hb3
    have v8 : VarC 128 w4 w3.heap.size #[.int .i64 M, .slice A3 (d + 1) c3] := by rw [← hw4]; exact VarC.new _ _ _
    have ra : RI w4 A3 L := by rw [← hw4]; exact (ho3.ri.below (below_one _ _))
    obtain ⟨g8, hg8⟩ : ∃ g8, w3.heap.size = g8 := ⟨_, rfl⟩
    have HW4 := Lib.hid hw4
    have HG8 := Lib.hid hg8
    rw [hg8] at v8 hlt3
    have HB4 := Lib.hid (below_step HB2.out hb4)
    have v7 := V7.out.keep hb4
    have HK4 : Hid (∀ W0, Below w4.heap.size w4 W0 → (W0.cell? ⟨g7, 0, none⟩ = some (.int .i64 M) ∧ W0.cell? ⟨g7, 1, none⟩ = some (.int .i64 d)) ∧ (W0.cell? ⟨g8, 0, none⟩ = some (.int .i64 M) ∧ W0.cell? ⟨g8, 1, none⟩ = some (.slice A3 (d + 1) c3)) ∧ Below w4.heap.size w4 W0) :=
      Lib.hid (fun W0 h => ⟨⟨(v7.keep h).cell 0 _ rfl, (v7.keep h).cell 1 _ rfl⟩, ⟨(v8.keep h).cell 0 _ rfl, (v8.keep h).cell 1 _ rfl⟩, h⟩)
    have HRV : Hid (∀ W0, Below w4.heap.size w4 W0 → Calls Tryz.prog 136 #[.agg #[.int .i64 M, .slice A3 (d + 1) c3]] W0 fun e w' => ∃ v, e = .returned (.agg #[.int .i64 M, v]) ∧ OwnI w' W0.heap.size v (Ser.lagG M 1 (Ser.co L) d d).1 ∧ Below W0.heap.size W0 w') :=
      Lib.hid (fun W0 h => by have := reversion_anyG M d A3 c3 L W0 okL (ra.below h); rw [okL.len] at this; exact this)
    have HAC := Lib.hid (fun (A1 : Option Addr) (c1 g : Nat) (W0 : World) (hp : PSG W0 g M d [(true, A3, c3, L), (false, A1, c1, (Ser.lagG M 1 (Ser.co L) d d).1)]) => across2_anyG M d A3 c3 L A1 c1 (Ser.lagG M 1 (Ser.co L) d d).1 g W0 okL zL hp)
    have HP2 : Hid (∀ (T : TypeId) (W0 : World) (g : Nat) (A1 : Option Addr) (c1 : Nat), VarC T W0 g #[.iface 128 (.agg #[.int .i64 M, .slice A3 (d + 1) c3]), .iface 130 (.agg #[.int .i64 M, .slice A1 (d + 1) c1])] → Below w4.heap.size w4 W0 → RI W0 A1 (Ser.lagG M 1 (Ser.co L) d d).1 → PSG W0 g M d [(true, A3, c3, L), (false, A1, c1, (Ser.lagG M 1 (Ser.co L) d d).1)]) :=
      Lib.hid (fun T W0 g A1 c1 hv h rb => by
        refine PS_twoG (T := T) ?_ (ra.below h) rb okL zL okR zR
        rw [okL.len, okR.len]; exact hv)
    rw [← hTT] at HAC
    have HRL := Lib.hid okR.len
    obtain ⟨R, hR⟩ : ∃ R, (Ser.lagG M 1 (Ser.co L) d d).1 = R := ⟨_, rfl⟩
    rw [hR] at HRV HAC HP2 HRL
    have hTl : T.length = d + 1 := by rw [hTT]; exact (Pl.hor_okG hM.1 (by omega) d1 d2 _ _ _).len
    have okT : Pl.OkG M d T := by rw [hTT]; exact Pl.hor_okG hM.1 (by omega) d1 d2 _ _ _
    have HFI : Hid (∀ (g9 : Nat) (A9 : Option Addr) (c9 : Nat) (W0 : World), Below W.heap.size W W0 → VarC 55 W0 g9 #[.int .i64 M, .int .i64 d, .slice A9 (d + 1) c9] → RP W0 A9 T → Calls Tryz.prog 137 #[.agg #[.int .i64 m, .int .i64 d], .func (.func 138) #[] #[.pointer (some ⟨g9, 0, none⟩), .pointer (some ⟨w.heap.size + 1, 0, none⟩)]] W0 fun e w' => ∃ v, e = .returned (.agg #[.int .i64 m, .int .i64 d, v]) ∧ OwnR w' W0.heap.size w'.heap.size v FT ∧ Below W0.heap.size W0 w') :=
      Lib.hid (fun g9 A9 c9 W0 h hv hrp => by
        rw [hFT]
        have hbx : GBox W0 g9 M d A9 T.length c9 := by rw [hTl]; exact ⟨hv.cell 0 _ rfl, hv.cell 1 _ rfl, hv.cell 2 _ rfl, hv.lt⟩
        exact filled_anyG m d 138 #[.pointer (some ⟨g9, 0, none⟩), .pointer (some ⟨w.heap.size + 1, 0, none⟩)] (fun i j => Pl.pc T i j / (strN p (i + j) : Int)) W0 (by omega) (by omega) (by omega)
          (fun i j _ => by
            have hb := okT.pc i j
            have b1 : 0 ≤ Pl.pc T i j / (strN p (i + j) : Int) := Int.ediv_nonneg hb.1 (by omega)
            have b2 : Pl.pc T i j / (strN p (i + j) : Int) ≤ Pl.pc T i j := Int.ediv_le_self _ hb.1
            obtain ⟨Z, hZ⟩ : ∃ Z, Pl.pc T i j / (strN p (i + j) : Int) = Z := ⟨_, rfl⟩
            rw [hZ] at b1 b2 ⊢
            omega)
          (enters_fn Tryz.func138 (of_decide_eq_true (by kernel_rfl)) rfl)
          (fun i j W1 hij hb => typicalLawB_any p i j g9 (w.heap.size + 1) M d A9 c9 T W1 (hbx.keep hb) ((CP.out.keep h).keep hb) okT (hrp.below hb) hij hp))
    clear hFT
    clear hw4 hb4 v8 v7 ra ho3 hb3 kp x0 x1 hg8 okL okR zL zR hTT hR
    go_upto_region 3 with fail
    rw [HW4.out, HG8.out]
    go_cut [9] (fun s9 wx => ∃ g A1 c1 lo hi, s9 = .pointer (some ⟨g, 0, none⟩) ∧ VarC 55 wx g #[.int .i64 M, .int .i64 d, .slice A1 (d + 1) c1] ∧ OwnR wx lo hi (.slice A1 (d + 1) c1) T ∧ (g < lo ∨ hi ≤ g) ∧ w4.heap.size ≤ lo ∧ hi ≤ wx.heap.size ∧ Below w4.heap.size w4 wx ∧ w4.heap.size ≤ g)
    case first =>
      go_region_held3 (fun w' => (w'.cell? ⟨g7, 0, none⟩ = some (.int .i64 M) ∧ w'.cell? ⟨g7, 1, none⟩ = some (.int .i64 d)) ∧ (w'.cell? ⟨g8, 0, none⟩ = some (.int .i64 M) ∧ w'.cell? ⟨g8, 1, none⟩ = some (.slice A3 (d + 1) c3)) ∧ Below w4.heap.size w4 w') (first | exact HK4.out _ (reg_finG hwg hgc hle hv hog hbel M d).2.2.2.2.2.1 | exact HK4.out _ (below_drew0 _) | with_reducible exact HK4.out _ hbel | with_reducible exact HK4.out _ hka | exact HK4.out _ (below_alloc _ (trd (by assumption))) | exact HK4.out _ (below_alloc _ hbel) | exact (by assumption)) (first
        | (go_at_call 136; with_reducible refine Calls.mono (HRV.out _ (trd (by assumption))) ?_; rintro e wa ⟨va, rfl, hoa, hba⟩; obtain ⟨A1, c1, hva, -⟩ := hoa.form; subst hva; rw [HRL.out] at hoa ⊢; obtain ⟨hka, hla⟩ := reg_end2 (by assumption) hba)
        | (go_at_call 135; with_reducible refine Calls.mono (HAC.out A1 c1 _ _ (by first
            | exact HP2.out _ _ _ A1 c1 (VarC.new _ wa _) (below_alloc _ hka) (hoa.ri.below (below_one _ _))
            | exact HP2.out _ _ _ A1 c1 (VarC.new1G _ wa _ _) (below_alloc _ (below_alloc _ hka)) (hoa.ri.below (below_alloc _ (below_one _ _)))
            | exact HP2.out _ _ _ A1 c1 ((VarC.new _ wa _).keep (below_one _ _)) (below_alloc _ (below_alloc _ hka)) (hoa.ri.below (below_alloc _ (below_one _ _))))) ?_; rintro e wd ⟨sg, rfl, hog, hbd⟩; obtain ⟨Ag, cg, rfl, -⟩ := hog.len; rw [hTl] at hog ⊢; obtain ⟨hbel, hle⟩ := reg_end2 (by assumption) hbd; first | (with_reducible refine use_it (varC_keep ((((VarC.new 55 w4 _).keep (below_one _ _)).drew).keep hba) hbd) ?_; rintro ⟨hv, hgc⟩; have hwg := varC_at (k := w4.heap.size) hv (Nat.le_refl _); obtain ⟨q0, q1, q2, q3, q4, q5⟩ := hv.tells3) | (with_reducible refine use_it (varC_keep (((VarC.new 55 w4 _).drew.keep hba).keep (below_one _ _)) hbd) ?_; rintro ⟨hv, hgc⟩; have hwg := varC_at (k := w4.heap.size) hv (Nat.le_refl _); obtain ⟨q0, q1, q2, q3, q4, q5⟩ := hv.tells3) | (with_reducible refine use_it (varC_keep ((VarC.new1G 55 w4 _ _).drew.keep hba) hbd) ?_; rintro ⟨hv, hgc⟩; have hwg := varC_at (k := w4.heap.size) hv (Nat.le_succ _); obtain ⟨q0, q1, q2, q3, q4, q5⟩ := hv.tells3) | (with_reducible refine use_it (varC_keep ((VarC.new 55 wa _).keep (below_one _ _)) hbd) ?_; rintro ⟨hv, hgc⟩; have hwg := varC_at (k := w4.heap.size) hv (hka.size); obtain ⟨q0, q1, q2, q3, q4, q5⟩ := hv.tells3) | (with_reducible refine use_it (varC_keep (VarC.new1G 55 wa _ _) hbd) ?_; rintro ⟨hv, hgc⟩; have hwg := varC_at (k := w4.heap.size) hv (Nat.le_trans hka.size (Nat.le_succ _)); obtain ⟨q0, q1, q2, q3, q4, q5⟩ := hv.tells3) | (with_reducible refine use_it (varC_keep (VarC.new 55 wa _) hbd) ?_; rintro ⟨hv, hgc⟩; have hwg := varC_at (k := w4.heap.size) hv (hka.size); obtain ⟨q0, q1, q2, q3, q4, q5⟩ := hv.tells3) | skip))
      all_goals
        go_wp2_with fail
        go_meet
        case rel => first | exact ⟨_, _, _, _, _, rfl, reg_finG hwg hgc hle hv hog hbel M d⟩ | exact ⟨_, _, _, _, _, rfl, reg_newG hle hog hbel M d _⟩
    case rest =>
      obtain ⟨w5, hwc⟩ : ∃ w9, w9 = wc := ⟨_, rfl⟩
      subst hwc
      obtain ⟨g9, A9, c9, lo9, hi9, rfl, v9, o9, hg9, hl9, hh9, hb5, hgw⟩ := hcut
      have V9 := Lib.hid v9
      have HB5 := Lib.hid (below_step HB4.out hb5)
      have HRP := Lib.hid o9.rp
      obtain ⟨⟨k0, k1⟩, kp, -⟩ := HK.out _ HB5.out
      clear v9 o9 hb5
      go_wp2_with (go_at_call 137; with_reducible refine Calls.mono (HFI.out _ _ _ _ HB5.out V9.out HRP.out) ?_; rintro e w6 ⟨v6, rfl, ho6, hb6⟩; obtain ⟨A2, c2, hv6, -⟩ := ho6.len; subst hv6; rw [hFl] at ho6 ⊢; have hb := below_step HB5.out hb6; have hv := V3.out.keep hb; obtain ⟨q0, q1, q2, q3, q4, q5⟩ := hv.tells3; obtain ⟨f0, f1, f2, f3, f4⟩ := fin_grid (w := w) hv ho6 (.inl (by have := V3.out.lt; have := HB5.out.size; omega)) (by omega) (Nat.le_refl _) (below_step HB.out hb) (.int .i64 m) (.int .i64 d) (.slice A2 (d + 1) c2); have F3 := Lib.hid (f3.low (show w.heap.size ≤ w5.heap.size from Nat.le_trans HB.out.size HB5.out.size)); have F4 := Lib.hid f4; unfold set3 at f0 f1 f2; clear f3 f4)
      exact bodyPost_ret (v := .agg #[.int .i64 m, .int .i64 d, .slice A2 (d + 1) c2]) (by simp [results, Tryz.results96, go_sem, f0, f1, f2]) rfl ⟨_, rfl, F3.out, F4.out⟩
end Go.Proofs.YtfhdgcndiljjcabGreat

/- Plain facts: systems of linear equations modulo m, kept in a triangle, and their least solutions. -/
namespace Go.Proofs.YtfhdgcndiljjcabGreat
open Go.RowKit
namespace Sys
open Ser
/-- an equation's value at x; x 0 stands for 1 -/
def val (e : List Int) (x : Nat → Int) : Int := psum (fun i => co e i * x i) 11
def low (e : List Int) (k : Nat) (x : Nat → Int) : Int := psum (fun i => co e i * x i) k
def Sat (m : Int) (x : Nat → Int) (e : List Int) : Prop := val e x % m = 0
def lessE (m q : Int) (e f : List Int) : List Int := cut m 10 fun k => co e k - q * co f k
def timesE (m c : Int) (e : List Int) : List Int := cut m 10 fun k => c * co e k
/-- an equation as the program has them: eleven reduced numbers -/
structure Ok (m : Int) (e : List Int) : Prop where
  len : e.length = 11
  red : Red m e
def lastF (e : List Int) : Nat → Nat
  | 0 => 0
  | k + 1 => if co e (k + 1) = 0 then lastF e k else k + 1
def lastE (e : List Int) : Nat := lastF e 10
theorem lastF_le (e : List Int) : ∀ k, lastF e k ≤ k
  | 0 => Nat.le_refl _
  | k + 1 => by unfold lastF; split
                · have := lastF_le e k; omega
                · omega
theorem lastF_ne (e : List Int) : ∀ k, lastF e k ≠ 0 → co e (lastF e k) ≠ 0
  | 0, h => absurd rfl h
  | k + 1, h => by
    unfold lastF at h ⊢
    split
    · rename_i h0
      rw [if_pos h0] at h
      exact lastF_ne e k h
    · assumption
theorem lastF_over (e : List Int) : ∀ k j, lastF e k < j → j ≤ k → co e j = 0
  | 0, j, h1, h2 => by unfold lastF at h1; omega
  | k + 1, j, h1, h2 => by
    unfold lastF at h1
    split at h1
    · rename_i h0
      by_cases hj : j = k + 1
      · rw [hj]; exact h0
      · exact lastF_over e k j h1 (by omega)
    · omega
theorem lastE_over {m : Int} {e : List Int} (h : Ok m e) (j : Nat) (hj : lastE e < j) : co e j = 0 := by
  by_cases h10 : j ≤ 10
  · exact lastF_over e 10 j hj h10
  · exact co_over (by rw [h.len]; omega)
theorem lastE_le_of {e : List Int} {k : Nat} (h : ∀ j, k < j → co e j = 0) : lastE e ≤ k := by
  apply Classical.byContradiction
  intro hn
  have h0 : lastE e ≠ 0 := by omega
  exact lastF_ne e 10 h0 (h _ (by unfold lastE at hn; omega))
theorem Ok.cut {m : Int} (hm : 0 < m) (f : Nat → Int) : Ok m (Ser.cut m 10 f) := ⟨cut_length _ _ _, cut_red hm _ _⟩
theorem val_cut (m : Int) (f x : Nat → Int) : val (Ser.cut m 10 f) x % m = psum (fun i => f i * x i) 11 % m := by
  unfold val
  refine psum_congr 11 (fun i hi => ?_)
  rw [co_cut (by omega), Int.mul_emod, Int.emod_emod, ← Int.mul_emod]
theorem val_less (m q : Int) (e f : List Int) (x : Nat → Int) : val (lessE m q e f) x % m = (val e x - q * val f x) % m := by
  unfold lessE
  rw [val_cut]
  congr 1
  unfold val
  rw [← psum_mul, show psum (fun i => co e i * x i) 11 - psum (fun i => q * (co f i * x i)) 11 = psum (fun i => co e i * x i) 11 + (-1) * psum (fun i => q * (co f i * x i)) 11 by omega, ← psum_mul, ← psum_add]
  exact psum_ext 11 (fun i _ => by grind)
theorem val_times (m c : Int) (e : List Int) (x : Nat → Int) : val (timesE m c e) x % m = c * val e x % m := by
  unfold timesE
  rw [val_cut]
  congr 1
  unfold val
  rw [← psum_mul]
  exact psum_ext 11 (fun i _ => by grind)
theorem sat_less {m q : Int} {e f : List Int} {x : Nat → Int} (he : Sat m x e) (hf : Sat m x f) : Sat m x (lessE m q e f) := by
  unfold Sat at *
  rw [val_less, Int.sub_emod, he, Int.mul_emod, hf]
  simp
theorem sat_of_less {m q : Int} {e f : List Int} {x : Nat → Int} (he : Sat m x (lessE m q e f)) (hf : Sat m x f) : Sat m x e := by
  unfold Sat at *
  rw [val_less] at he
  have h1 : m ∣ val e x - q * val f x := Int.dvd_of_emod_eq_zero he
  have h2 : m ∣ val f x := Int.dvd_of_emod_eq_zero hf
  have h3 : m ∣ q * val f x := Int.dvd_mul_of_dvd_right h2
  have := Int.dvd_add h1 h3
  rw [show val e x - q * val f x + q * val f x = val e x by omega] at this
  exact Int.emod_eq_zero_of_dvd this
/-- Euclid's algorithm on two equations -/
def euc (m : Int) (k : Nat) : Nat → List Int → List Int → List Int × List Int
  | 0, row, e => (row, e)
  | n + 1, row, e => if co e k = 0 then (row, e) else euc m k n e (lessE m (co row k / co e k) row e)
theorem less_at {m : Int} {row e : List Int} {k : Nat} (hk : k ≤ 10) (he : Ok m e) (h0 : co e k ≠ 0) : co (lessE m (co row k / co e k) row e) k = co row k % co e k := by
  unfold lessE
  rw [co_cut hk]
  have h1 := he.red k
  have h2 := Int.emod_add_mul_ediv (co row k) (co e k)
  have h3 := Int.emod_nonneg (co row k) h0
  have h4 := Int.emod_lt_of_pos (co row k) (show 0 < co e k by omega)
  rw [show co row k - co row k / co e k * co e k = co row k % co e k by rw [Int.mul_comm (co row k / co e k)]; omega]
  exact Int.emod_eq_of_lt h3 (by omega)
structure EucOk (m : Int) (k : Nat) (row e : List Int) (r : List Int × List Int) : Prop where
  ok1 : Ok m r.1
  ok2 : Ok m r.2
  z : co r.2 k = 0
  ne : co e k ≠ 0 → co r.1 k ≠ 0
  over : (∀ j, k < j → co row j = 0) → (∀ j, k < j → co e j = 0) → (∀ j, k < j → co r.1 j = 0) ∧ ∀ j, k < j → co r.2 j = 0
  sat : ∀ x, (Sat m x row ∧ Sat m x e) ↔ (Sat m x r.1 ∧ Sat m x r.2)
theorem euc_ok {m : Int} {k : Nat} (hm : 0 < m) (hk : k ≤ 10) : ∀ (n : Nat) (row e : List Int), Ok m row → Ok m e → (co e k).toNat < n → EucOk m k row e (euc m k n row e)
  | 0, _, _, _, _, h => by omega
  | n + 1, row, e, hr, he, h => by
    unfold euc
    by_cases h0 : co e k = 0
    · rw [if_pos h0]
      exact ⟨hr, he, h0, fun h => absurd h0 h, fun a b => ⟨a, b⟩, fun x => Iff.rfl⟩
    · rw [if_neg h0]
      have h1 := he.red k
      have hat := less_at (row := row) hk he h0
      have h4 := Int.emod_lt_of_pos (co row k) (show 0 < co e k by omega)
      have h5 := Int.emod_nonneg (co row k) h0
      have ih := euc_ok hm hk n e (lessE m (co row k / co e k) row e) he (Ok.cut hm _) (by rw [hat]; omega)
      refine ⟨ih.ok1, ih.ok2, ih.z, fun _ => ?_, fun a b => ih.over b (fun j hj => ?_), fun x => ?_⟩
      · by_cases hz : co (lessE m (co row k / co e k) row e) k = 0
        · cases n with
          | zero => unfold euc; exact h0
          | succ n => unfold euc; rw [if_pos hz]; exact h0
        · exact ih.ne hz
      · by_cases h10 : j ≤ 10
        · unfold lessE
          rw [co_cut h10, a j hj, b j hj]; simp
        · exact co_over (by unfold lessE; rw [cut_length]; omega)
      · rw [← ih.sat x]
        exact ⟨fun ⟨a, b⟩ => ⟨b, sat_less a b⟩, fun ⟨a, b⟩ => ⟨sat_of_less b a, a⟩⟩
def upd (rows : Nat → List Int) (k : Nat) (r : List Int) : Nat → List Int := fun j => if j = k then r else rows j
/-- a system with one equation more: rows below or at L alone are touched -/
def addS (m : Int) : Nat → (Nat → List Int) → List Int → Option (Nat → List Int)
  | 0, rows, e => if co e 0 = 0 then some rows else none
  | L + 1, rows, e =>
    if lastE e = L + 1 then
      match addS m L (upd rows (L + 1) (euc m (L + 1) 20000 (rows (L + 1)) e).1) (timesE m (m / gcdI m (co (euc m (L + 1) 20000 (rows (L + 1)) e).1 (L + 1))) (euc m (L + 1) 20000 (rows (L + 1)) e).1) with
      | none => none
      | some r2 => addS m L r2 (euc m (L + 1) 20000 (rows (L + 1)) e).2
    else addS m L rows e
/-- what fits the rows below k can be carried on to k -/
def Clo (m : Int) (rows : Nat → List Int) (k : Nat) : Prop :=
  ∀ x : Nat → Int, x 0 = 1 → (∀ j, 0 < j → j < k → Sat m x (rows j)) → m / gcdI m (co (rows k) k) * low (rows k) k x % m = 0
structure Tri (m : Int) (rows : Nat → List Int) : Prop where
  ok : ∀ k, Ok m (rows k)
  tri : ∀ k, 0 < k → ∀ j, k < j → co (rows k) j = 0
theorem low_val {e : List Int} {k : Nat} (hk : k ≤ 10) (h : ∀ j, k < j → co e j = 0) (x : Nat → Int) : val e x = low e k x + co e k * x k := by
  unfold val low
  rw [Pl.psum_cut (fun i => co e i * x i) (k + 1) 11 (by omega) (fun i hi _ => by simp [h i (by omega)])]
  rfl
structure AddOk (m : Int) (L : Nat) (rows : Nat → List Int) (e : List Int) (r : Nat → List Int) : Prop where
  tri : Tri m r
  over : ∀ k, L < k → r k = rows k
  sat : ∀ x, x 0 = 1 → ((∀ j, 0 < j → j ≤ L → Sat m x (r j)) ↔ ((∀ j, 0 < j → j ≤ L → Sat m x (rows j)) ∧ Sat m x e))
  clo : (∀ k, 0 < k → k ≤ L → Clo m rows k) → ∀ k, 0 < k → k ≤ L → Clo m r k
theorem times_zero {m c g : Int} (hg : 1 ≤ g) (h1 : g ∣ m) (h2 : g ∣ c) : m / g * c % m = 0 := by
  obtain ⟨a, rfl⟩ := h1
  obtain ⟨b, rfl⟩ := h2
  rw [Int.mul_ediv_cancel_left _ (by omega), show a * (g * b) = g * a * b by grind]
  exact Int.mul_emod_right _ _
theorem gcd_facts {m : Int} (hm : 2 ≤ m) (c : Int) : 1 ≤ gcdI m c ∧ gcdI m c ∣ m ∧ gcdI m c ∣ c := by
  refine ⟨?_, ?_, ?_⟩
  · have : 0 < Nat.gcd m.natAbs c.natAbs := Nat.gcd_pos_of_pos_left _ (by omega)
    unfold gcdI; omega
  · unfold gcdI; exact Int.ofNat_dvd_left.2 (Nat.gcd_dvd_left _ _)
  · unfold gcdI; exact Int.ofNat_dvd_left.2 (Nat.gcd_dvd_right _ _)
theorem Tri.upd {m : Int} {rows : Nat → List Int} (h : Tri m rows) (k : Nat) {r : List Int} (hr : Ok m r) (h0 : ∀ j, k < j → co r j = 0) : Tri m (upd rows k r) := by
  refine ⟨fun j => ?_, fun j hj i hi => ?_⟩
  · unfold Sys.upd; split
    · exact hr
    · exact h.ok j
  · unfold Sys.upd; split
    · rename_i e; subst e; exact h0 i hi
    · exact h.tri j hj i hi
theorem upd_at (rows : Nat → List Int) (k : Nat) (r : List Int) : upd rows k r k = r := by unfold upd; rw [if_pos rfl]
theorem upd_ne (rows : Nat → List Int) {k j : Nat} (r : List Int) (h : j ≠ k) : upd rows k r j = rows j := by unfold upd; rw [if_neg h]
theorem Clo.congr {m : Int} {r r' : Nat → List Int} {k : Nat} (h : ∀ j, 0 < j → j ≤ k → r' j = r j) (h0 : 0 < k) (hc : Clo m r k) : Clo m r' k := by
  intro x hx hs
  rw [h k h0 (Nat.le_refl _)]
  exact hc x hx (fun j hj hjk => by rw [← h j hj (by omega)]; exact hs j hj hjk)
theorem addS_ok {m : Int} (m1 : 2 ≤ m) (m2 : m ≤ 10000) : ∀ (L : Nat) (rows : Nat → List Int) (e : List Int), Tri m rows → Ok m e → lastE e ≤ L → L ≤ 10 →
    (∀ r, addS m L rows e = some r → AddOk m L rows e r) ∧ (addS m L rows e = none → ∀ x : Nat → Int, x 0 = 1 → ¬ ((∀ j, 0 < j → j ≤ L → Sat m x (rows j)) ∧ Sat m x e))
  | 0, rows, e, hT, he, hl, _ => by
    have hz : ∀ x : Nat → Int, x 0 = 1 → val e x = co e 0 := fun x hx => by
      rw [low_val (k := 0) (by omega) (fun j hj => lastE_over he j (by omega)), hx]
      show (0 : Int) + co e 0 * 1 = co e 0
      omega
    have hr := he.red 0
    unfold addS
    by_cases h0 : co e 0 = 0
    · rw [if_pos h0]
      refine ⟨fun r h => ?_, fun h => (by cases h)⟩
      injection h with h
      subst h
      exact ⟨hT, fun _ _ => rfl, fun x hx => ⟨fun _ => ⟨fun j hj hj2 => absurd hj2 (by omega), by unfold Sat; rw [hz x hx, h0]; exact Int.zero_emod m⟩, fun h => h.1⟩, fun h => h⟩
    · rw [if_neg h0]
      refine ⟨fun r h => (by cases h), fun _ x hx h => h0 ?_⟩
      have hs := h.2
      unfold Sat at hs
      rw [hz x hx, Int.emod_eq_of_lt hr.1 hr.2] at hs
      exact hs
  | L + 1, rows, e, hT, he, hl, h10 => by
    unfold addS
    by_cases hlast : lastE e = L + 1
    · rw [if_pos hlast]
      have hred := he.red (L + 1)
      have E := euc_ok (m := m) (k := L + 1) (by omega) h10 20000 (rows (L + 1)) e (hT.ok _) he (by omega)
      generalize euc m (L + 1) 20000 (rows (L + 1)) e = P at E ⊢
      obtain ⟨row, e'⟩ := P
      obtain ⟨o1, o2, z, -, ov, sat⟩ := E
      dsimp only at o1 o2 z ov sat ⊢
      obtain ⟨v1, v2⟩ := ov (fun j hj => hT.tri (L + 1) (by omega) j hj) (fun j hj => lastE_over he j (by omega))
      obtain ⟨g1, g2, g3⟩ := gcd_facts m1 (co row (L + 1))
      have hz := times_zero g1 g2 g3
      have hTo : Ok m (timesE m (m / gcdI m (co row (L + 1))) row) := Ok.cut (by omega) _
      have hTl : lastE (timesE m (m / gcdI m (co row (L + 1))) row) ≤ L := lastE_le_of (fun j hj => by
        by_cases hj10 : j ≤ 10
        · unfold timesE
          rw [co_cut hj10]
          by_cases hjk : j = L + 1
          · rw [hjk]; exact hz
          · rw [v1 j (by omega)]; simp
        · exact co_over (by rw [hTo.len]; omega))
      have hel : lastE e' ≤ L := lastE_le_of (fun j hj => by
        by_cases hjk : j = L + 1
        · rw [hjk]; exact z
        · exact v2 j (by omega))
      have hvT : ∀ x, val (timesE m (m / gcdI m (co row (L + 1))) row) x % m = m / gcdI m (co row (L + 1)) * low row (L + 1) x % m := fun x => by
        rw [val_times, low_val h10 v1 x, Int.mul_add, Int.add_emod, show m / gcdI m (co row (L + 1)) * (co row (L + 1) * x (L + 1)) = m / gcdI m (co row (L + 1)) * co row (L + 1) * x (L + 1) by grind, Int.mul_emod (m / gcdI m (co row (L + 1)) * co row (L + 1)), hz]
        simp
      obtain ⟨s1, n1⟩ := addS_ok m1 m2 L (upd rows (L + 1) row) (timesE m (m / gcdI m (co row (L + 1))) row) (hT.upd (L + 1) o1 v1) hTo hTl (by omega)
      generalize timesE m (m / gcdI m (co row (L + 1))) row = T at *
      have hlow : ∀ x, (∀ j, 0 < j → j ≤ L → Sat m x (rows j)) → ∀ j, 0 < j → j ≤ L → Sat m x (upd rows (L + 1) row j) := fun x h j h0 hj => by rw [upd_ne _ _ (by omega)]; exact h j h0 hj
      have hlow' : ∀ x, (∀ j, 0 < j → j ≤ L → Sat m x (upd rows (L + 1) row j)) → ∀ j, 0 < j → j ≤ L → Sat m x (rows j) := fun x h j h0 hj => by have := h j h0 hj; rwa [upd_ne _ _ (by omega)] at this
      have hsT : ∀ x, Sat m x row → (∀ j, 0 < j → j ≤ L → Sat m x (rows j)) → Sat m x row := fun x h _ => h
      cases h1 : addS m L (upd rows (L + 1) row) T with
      | none =>
        refine ⟨fun r h => (by cases h), fun _ x hx h => ?_⟩
        have hre := (sat x).1 ⟨h.1 (L + 1) (by omega) (Nat.le_refl _), h.2⟩
        refine n1 h1 x hx ⟨hlow x (fun j h0 hj => h.1 j h0 (by omega)), ?_⟩
        unfold Sat
        rw [hvT x]
        have hv := hre.1
        unfold Sat at hv
        rw [low_val h10 v1 x] at hv
        have : m / gcdI m (co row (L + 1)) * (low row (L + 1) x + co row (L + 1) * x (L + 1)) % m = 0 := by rw [Int.mul_emod, hv]; simp
        rw [Int.mul_add, Int.add_emod, show m / gcdI m (co row (L + 1)) * (co row (L + 1) * x (L + 1)) = m / gcdI m (co row (L + 1)) * co row (L + 1) * x (L + 1) by grind, Int.mul_emod (m / gcdI m (co row (L + 1)) * co row (L + 1)), hz] at this
        simpa using this
      | some r2 =>
        dsimp only
        have A1 := s1 r2 h1
        have hTsat : ∀ x, Sat m x row → Sat m x T := fun x h => by
          unfold Sat at h ⊢
          rw [hvT x]
          rw [low_val h10 v1 x] at h
          have : m / gcdI m (co row (L + 1)) * (low row (L + 1) x + co row (L + 1) * x (L + 1)) % m = 0 := by rw [Int.mul_emod, h]; simp
          rw [Int.mul_add, Int.add_emod, show m / gcdI m (co row (L + 1)) * (co row (L + 1) * x (L + 1)) = m / gcdI m (co row (L + 1)) * co row (L + 1) * x (L + 1) by grind, Int.mul_emod (m / gcdI m (co row (L + 1)) * co row (L + 1)), hz] at this
          simpa using this
        obtain ⟨s2, n2⟩ := addS_ok m1 m2 L r2 e' A1.tri o2 hel (by omega)
        constructor
        · intro r3 h2
          have A2 := s2 r3 h2
          have hK : r3 (L + 1) = row := by rw [A2.over _ (by omega), A1.over _ (by omega), upd_at]
          refine ⟨A2.tri, fun k hk => ?_, fun x hx => ⟨fun h => ?_, fun h => ?_⟩, fun hc k h0 hk => ?_⟩
          · rw [A2.over k (by omega), A1.over k (by omega), upd_ne _ _ (by omega)]
          · have a := (A2.sat x hx).1 (fun j h0 hj => h j h0 (by omega))
            have b := (A1.sat x hx).1 a.1
            have c := h (L + 1) (by omega) (Nat.le_refl _)
            rw [hK] at c
            have d := (sat x).2 ⟨c, a.2⟩
            refine ⟨fun j h0 hj => ?_, d.2⟩
            by_cases hjk : j = L + 1
            · rw [hjk]; exact d.1
            · exact hlow' x b.1 j h0 (by omega)
          · have d := (sat x).1 ⟨h.1 (L + 1) (by omega) (Nat.le_refl _), h.2⟩
            have b := (A1.sat x hx).2 ⟨hlow x (fun j h0 hj => h.1 j h0 (by omega)), hTsat x d.1⟩
            have a := (A2.sat x hx).2 ⟨b, d.2⟩
            intro j h0 hj
            by_cases hjk : j = L + 1
            · rw [hjk, hK]; exact d.1
            · exact a j h0 (by omega)
          · by_cases hkL : k = L + 1
            · subst hkL
              intro x hx hs
              rw [hK]
              have a := (A2.sat x hx).1 (fun j h0 hj => hs j h0 (by omega))
              have b := (A1.sat x hx).1 a.1
              have := b.2
              unfold Sat at this
              rw [hvT x] at this
              exact this
            · exact A2.clo (A1.clo (fun q q0 hq => Clo.congr (fun j _ hj => upd_ne _ _ (by omega)) q0 (hc q q0 (by omega)))) k h0 (by omega)
        · intro h2 x hx h
          have d := (sat x).1 ⟨h.1 (L + 1) (by omega) (Nat.le_refl _), h.2⟩
          have b := (A1.sat x hx).2 ⟨hlow x (fun j h0 hj => h.1 j h0 (by omega)), hTsat x d.1⟩
          exact n2 h2 x hx ⟨b, d.2⟩
    · rw [if_neg hlast]
      obtain ⟨s1, n1⟩ := addS_ok m1 m2 L rows e hT he (by omega) (by omega)
      refine ⟨fun r h => ?_, fun h x hx hh => n1 h x hx ⟨fun j h0 hj => hh.1 j h0 (by omega), hh.2⟩⟩
      have A := s1 r h
      have hK : r (L + 1) = rows (L + 1) := A.over _ (by omega)
      refine ⟨A.tri, fun k hk => A.over k (by omega), fun x hx => ⟨fun h => ?_, fun h => ?_⟩, fun hc k h0 hk => ?_⟩
      · have a := (A.sat x hx).1 (fun j h0 hj => h j h0 (by omega))
        refine ⟨fun j h0 hj => ?_, a.2⟩
        by_cases hjk : j = L + 1
        · subst hjk
          rw [← hK]
          exact h (L + 1) h0 hj
        · exact a.1 j h0 (by omega)
      · have a := (A.sat x hx).2 ⟨fun j h0 hj => h.1 j h0 (by omega), h.2⟩
        intro j h0 hj
        by_cases hjk : j = L + 1
        · subst hjk
          rw [hK]
          exact h.1 (L + 1) h0 hj
        · exact a j h0 (by omega)
      · by_cases hkL : k = L + 1
        · subst hkL
          intro x hx hs
          rw [hK]
          exact hc (L + 1) h0 hk x hx (fun j h0 hj => ((A.sat x hx).1 (fun q q0 hq => hs q q0 (by omega))).1 j h0 (by omega))
        · exact A.clo (fun q q0 hq => hc q q0 (by omega)) k h0 (by omega)
end Sys
end Go.Proofs.YtfhdgcndiljjcabGreat

/- Plain number theory: the least solution of a linear equation. No program in sight. -/
namespace Go.Proofs.YtfhdgcndiljjcabGreat
namespace Num
theorem sol_none {m a b g : Int} (h1 : g ∣ a) (h2 : g ∣ m) (hb : ¬ g ∣ b) (y : Int) : ¬ a * y % m = b := by
  intro h
  apply hb
  have h3 := Int.emod_add_mul_ediv (a * y) m
  rw [h] at h3
  obtain ⟨p, rfl⟩ := h1
  obtain ⟨q, rfl⟩ := h2
  exact ⟨p * y - q * (g * p * y / (g * q)), by grind⟩
theorem sol_some {m a b g x : Int} (hg : 0 < g) (hm : 0 < m) (h1 : g ∣ a) (h2 : g ∣ m) (hx : m ∣ a * x - g) (hb0 : 0 ≤ b) (hb1 : b < m) (hb : g ∣ b) :
    0 < m / g ∧ 0 ≤ b / g * x % (m / g) ∧ b / g * x % (m / g) < m / g ∧ m / g ≤ m ∧ a * (b / g * x % (m / g)) % m = b ∧ (∀ y, 0 ≤ y → y < b / g * x % (m / g) → ¬ a * y % m = b) := by
  obtain ⟨a', rfl⟩ := h1
  obtain ⟨m', rfl⟩ := h2
  obtain ⟨b', rfl⟩ := hb
  rw [Int.mul_ediv_cancel_left _ (by omega), Int.mul_ediv_cancel_left _ (by omega)]
  have hm' : 0 < m' := by
    apply Classical.byContradiction
    intro h
    have := Int.mul_nonpos_of_nonneg_of_nonpos (show 0 ≤ g by omega) (show m' ≤ 0 by omega)
    omega
  have hle : m' ≤ g * m' := by
    have := Int.mul_le_mul_of_nonneg_right (show 1 ≤ g by omega) (show 0 ≤ m' by omega)
    omega
  have r1 := Int.emod_nonneg (b' * x) (show m' ≠ 0 by omega)
  have r2 := Int.emod_lt_of_pos (b' * x) hm'
  have r3 := Int.emod_add_mul_ediv (b' * x) m'
  obtain ⟨u, hu⟩ := hx
  have hu' : a' * x - 1 = m' * u := by
    have : g * (a' * x - 1) = g * (m' * u) := by grind
    exact Int.eq_of_mul_eq_mul_left (by omega) this
  generalize b' * x % m' = y0 at *
  generalize b' * x / m' = q at *
  refine ⟨hm', r1, r2, hle, ?_, fun y hy0 hy1 hy => ?_⟩
  · have e : g * a' * y0 = g * b' + g * m' * (b' * u - a' * q) := by
      have : a' * y0 = b' + m' * (b' * u - a' * q) := by grind
      grind
    rw [e, Int.add_mul_emod_self_left, Int.emod_eq_of_lt hb0 hb1]
  · have h3 := Int.emod_add_mul_ediv (g * a' * y) (g * m')
    rw [hy] at h3
    generalize g * a' * y / (g * m') = v at *
    have h4 : b' + m' * v = a' * y := by
      have : g * (b' + m' * v) = g * (a' * y) := by grind
      exact Int.eq_of_mul_eq_mul_left (by omega) this
    have h5 : y0 - y = m' * (u * y - v * x - q) := by grind
    have h6 : m' ∣ y0 - y := ⟨_, h5⟩
    have := Int.le_of_dvd (by omega) h6
    omega
end Num
end Go.Proofs.YtfhdgcndiljjcabGreat

/- Contracts of SolveModulo, of the program and of the model. -/
namespace Go.Proofs.YtfhdgcndiljjcabGreat
open Go.RowKit Go.WideShapes Go.ChangeShapes Go.ChangeAt
/-- the least solution, and the code -/
def solM (m a b : Int) : Int × Int :=
  if codeN m [a, b] = 0 then (if gcdI a m ∣ b then (b / gcdI a m * (egI m a).2 % (m / gcdI a m), 0) else (0, 4)) else (0, codeN m [a, b])
theorem gcdI_facts {m a : Int} (h1 : 2 ≤ m) (h2 : m ≤ 10000) : 1 ≤ gcdI a m ∧ gcdI a m ≤ m ∧ gcdI a m ∣ a ∧ gcdI a m ∣ m := by
  have hd : gcdI a m ∣ m := by
    unfold gcdI; exact Int.ofNat_dvd_left.2 (Nat.gcd_dvd_right _ _)
  refine ⟨?_, Int.le_of_dvd (by omega) hd, ?_, hd⟩
  · have : 0 < Nat.gcd a.natAbs m.natAbs := Nat.gcd_pos_of_pos_right _ (by omega)
    unfold gcdI; omega
  · unfold gcdI; exact Int.ofNat_dvd_left.2 (Nat.gcd_dvd_left _ _)
set_option maxHeartbeats 1000000 in
theorem SolveModulo_any (m a b : Int) (w : World) :
    Calls Tryz.prog 70 #[.int .i64 m, .int .i64 a, .int .i64 b] w fun e w' => e = .returned (.tuple #[.int .i64 (solM m a b).1, .int .i64 (solM m a b).2]) ∧ Below w.heap.size w w' := by
  by_cases h0 : codeN m [a, b] = 0
  · obtain ⟨h1, h2, h3, h4, h5, h6⟩ := (codeN_two m a b).1 h0
    obtain ⟨g1, g2, g3, g4⟩ := gcdI_facts (a := a) h1 h2
    obtain ⟨_, e2, e3, e4⟩ := eg_fact m a h3 h4
    obtain ⟨G, hG⟩ : ∃ G, gcdI a m = G := ⟨_, rfl⟩
    obtain ⟨X, hX⟩ : ∃ X, (egI m a).2 = X := ⟨_, rfl⟩
    rw [hG] at g1 g2 g3 g4 e2
    rw [hX] at e2 e3 e4
    have HC : ∀ w : World, Calls Tryz.prog 107 #[.int .i64 m, .int .i64 a] w fun e w' => e = .returned (.tuple #[.int .i64 G, .int .i64 X]) ∧ w = w' := fun w => by
      have := divFac_any m a w h3 h4 h2
      rwa [hG, hX] at this
    have HC' := Lib.hid HC
    by_cases k0 : G ∣ b
    · have HF := Lib.hid (show solM m a b = (b / G * X % (m / G), 0) by rw [solM, if_pos h0, hG, hX, if_pos k0])
      obtain ⟨s1, s2, s3, s4, s5, s6⟩ := Num.sol_some (by omega) (by omega) g3 g4 e2 h5 h6 k0
      have hb0 : b % G = 0 := Int.emod_eq_zero_of_dvd k0
      have q1 : 0 ≤ b / G := Int.ediv_nonneg h5 (by omega)
      have q2 : b / G ≤ 10000 := Int.le_trans (Int.ediv_le_self _ h5) (by omega)
      obtain ⟨p1, p2⟩ : 0 ≤ b / G * X ∧ b / G * X ≤ 100010000 := by
        refine ⟨Int.mul_nonneg q1 e3, ?_⟩
        have := Int.mul_le_mul_of_nonneg_right q2 e3
        omega
      clear HC hG hX e2 g3 g4 k0 s5 s6
      go_enter Tryz.func70, Tryz.ntmps70
      go_wp2_with (first | (go_at_call 106; refine (codeOfNumbers_any _ _ _ [a, b] _ (by simp) (RI_two _ _ _ _)).mono ?_; rintro e w' ⟨rfl, rfl⟩) | (go_at_call 107; refine (HC'.out _).mono ?_; rintro e w' ⟨rfl, rfl⟩))
      go_quiet (fail)
      go_wp2
      go_ret2
      exact ⟨ret_ii (by rw [HF.out]) (by rw [HF.out]), below_drewN ((Below.refl _ _).alloc (Nat.le_refl _) _) _⟩
    · have HF := Lib.hid (show solM m a b = (0, 4) by rw [solM, if_pos h0, hG, if_neg k0])
      have hb0 : ¬ b % G = 0 := fun h => k0 (Int.dvd_of_emod_eq_zero h)
      obtain ⟨n1, n2⟩ := ne_facts hb0
      clear HC hG hX e2 g3 g4 k0 hb0
      go_enter Tryz.func70, Tryz.ntmps70
      go_wp2_with (first | (go_at_call 106; refine (codeOfNumbers_any _ _ _ [a, b] _ (by simp) (RI_two _ _ _ _)).mono ?_; rintro e w' ⟨rfl, rfl⟩) | (go_at_call 107; refine (HC'.out _).mono ?_; rintro e w' ⟨rfl, rfl⟩))
      go_ret2
      exact ⟨ret_ii (by rw [HF.out]) (by rw [HF.out]), ((Below.refl _ _).alloc (Nat.le_refl _) _)⟩
  · have HF := Lib.hid (show solM m a b = (0, codeN m [a, b]) by rw [solM, if_neg h0])
    obtain ⟨n1, n2⟩ := ne_facts h0
    clear h0
    go_enter Tryz.func70, Tryz.ntmps70
    go_wp2_with (go_at_call 106; refine (codeOfNumbers_any _ _ _ [a, b] _ (by simp) (RI_two _ _ _ _)).mono ?_; rintro e w' ⟨rfl, rfl⟩)
    go_ret2
    exact ⟨ret_ii (by rw [HF.out]) (by rw [HF.out]), (Below.refl _ _).alloc (Nat.le_refl _) _⟩
end Go.Proofs.YtfhdgcndiljjcabGreat

/- Plain facts: the least solution of a triangular system, number by number. -/
namespace Go.Proofs.YtfhdgcndiljjcabGreat
open Go.RowKit
namespace Sys
open Ser
/-- the least number with c times it equal to b, and whether there is one -/
theorem sol_facts {m c b : Int} (m1 : 2 ≤ m) (m2 : m ≤ 10000) (c0 : 0 ≤ c) (c1 : c < m) (b0 : 0 ≤ b) (b1 : b < m) :
    (gcdI m c ∣ b → (solM m c b).2 = 0 ∧ 0 ≤ (solM m c b).1 ∧ (solM m c b).1 < m ∧ c * (solM m c b).1 % m = b ∧ ∀ y, 0 ≤ y → y < (solM m c b).1 → ¬ c * y % m = b) ∧
    (¬ gcdI m c ∣ b → (solM m c b).2 = 4 ∧ ∀ y, ¬ c * y % m = b) := by
  have hg : gcdI c m = gcdI m c := by unfold gcdI; rw [Nat.gcd_comm]
  obtain ⟨g1, g2, g3, g4⟩ := gcdI_facts (a := c) m1 m2
  obtain ⟨-, e2, -, -⟩ := eg_fact m c c0 c1
  have h0 : codeN m [c, b] = 0 := (codeN_two m c b).2 ⟨m1, m2, c0, c1, b0, b1⟩
  rw [← hg]
  constructor
  · intro hd
    obtain ⟨s1, s2, s3, s4, s5, s6⟩ := Num.sol_some (by omega) (by omega) g3 g4 e2 b0 b1 hd
    unfold solM
    rw [if_pos h0, if_pos hd]
    exact ⟨rfl, s2, by dsimp only; omega, s5, s6⟩
  · intro hd
    unfold solM
    rw [if_pos h0, if_neg hd]
    exact ⟨rfl, fun y => Num.sol_none g3 g4 hd y⟩
def want (m : Int) (e : List Int) (k : Nat) (x : Nat → Int) : Int := -(low e k x) % m
def pick (m : Int) (e : List Int) (k : Nat) (x : Nat → Int) : Int := (solM m (co e k) (want m e k x)).1
/-- the numbers found up to k -/
def grd (m : Int) (rows : Nat → List Int) : Nat → Nat → Int
  | 0 => fun i => if i = 0 then 1 else 0
  | k + 1 => fun i => if i = k + 1 then pick m (rows (k + 1)) (k + 1) (grd m rows k) else grd m rows k i
theorem grd_keep (m : Int) (rows : Nat → List Int) {k i : Nat} (h : i ≤ k) : grd m rows (k + 1) i = grd m rows k i := if_neg (by omega)
theorem grd_zero (m : Int) (rows : Nat → List Int) : ∀ k, grd m rows k 0 = 1
  | 0 => rfl
  | k + 1 => (grd_keep m rows (Nat.zero_le k)).trans (grd_zero m rows k)
theorem grd_at (m : Int) (rows : Nat → List Int) (k : Nat) : grd m rows (k + 1) (k + 1) = pick m (rows (k + 1)) (k + 1) (grd m rows k) := if_pos rfl
theorem low_congr {e : List Int} {k : Nat} {x y : Nat → Int} (h : ∀ i, i < k → x i = y i) : low e k x = low e k y := psum_ext k (fun i hi => by rw [h i hi])
theorem want_bd {m : Int} (hm : 0 < m) (e : List Int) (k : Nat) (x : Nat → Int) : 0 ≤ want m e k x ∧ want m e k x < m := ⟨Int.emod_nonneg _ (by omega), Int.emod_lt_of_pos _ hm⟩
theorem sat_iff {m : Int} {e : List Int} {k : Nat} (hk : k ≤ 10) (h : ∀ j, k < j → co e j = 0) (x : Nat → Int) : Sat m x e ↔ co e k * x k % m = want m e k x := by
  unfold Sat want
  rw [low_val hk h x]
  constructor
  · intro hs
    have h1 : m ∣ low e k x + co e k * x k := Int.dvd_of_emod_eq_zero hs
    obtain ⟨t, ht⟩ := h1
    rw [show co e k * x k = -low e k x + m * t by omega, Int.add_mul_emod_self_left]
  · intro hs
    rw [Int.add_emod, hs, ← Int.add_emod, show low e k x + -low e k x = 0 by omega]
    exact Int.zero_emod m
theorem clo_dvd {m c l : Int} (m1 : 2 ≤ m) (h : m / gcdI m c * l % m = 0) : gcdI m c ∣ l := by
  obtain ⟨g1, ⟨q, hq⟩, -⟩ := gcd_facts m1 c
  obtain ⟨G, hG⟩ : ∃ G, gcdI m c = G := ⟨_, rfl⟩
  rw [hG] at h hq g1 ⊢
  subst hq
  rw [Int.mul_ediv_cancel_left _ (by omega)] at h
  obtain ⟨t, ht⟩ := Int.dvd_of_emod_eq_zero h
  have hq0 : q ≠ 0 := by rintro rfl; omega
  exact ⟨t, Int.eq_of_mul_eq_mul_left hq0 (by rw [ht]; grind)⟩
theorem dvd_want {m c l : Int} (h1 : gcdI m c ∣ m) (h : gcdI m c ∣ l) : gcdI m c ∣ -l % m := by
  have h2 := Int.emod_add_mul_ediv (-l) m
  have h3 : gcdI m c ∣ m * (-l / m) := Int.dvd_trans h1 (Int.dvd_mul_right _ _)
  rw [show -l % m = -l - m * (-l / m) by omega]
  exact Int.dvd_sub (Int.dvd_neg.2 h) h3
structure Least (m : Int) (S : (Nat → Int) → Prop) (x : Nat → Int) : Prop where
  one : x 0 = 1
  bd : ∀ k, 0 < k → k ≤ 10 → 0 ≤ x k ∧ x k < m
  sat : S x
  least : ∀ y : Nat → Int, y 0 = 1 → S y → ∀ k, 0 < k → k ≤ 10 → (∀ j, j < k → y j = x j) → 0 ≤ y k → x k ≤ y k
/-- the numbers found fit, and are the least ones -/
theorem grd_ok {m : Int} (m1 : 2 ≤ m) (m2 : m ≤ 10000) {rows : Nat → List Int} (hT : Tri m rows) (hC : ∀ k, 0 < k → k ≤ 10 → Clo m rows k) :
    ∀ k, k ≤ 10 → (∀ j, 0 < j → j ≤ k → 0 ≤ grd m rows k j ∧ grd m rows k j < m ∧ Sat m (grd m rows k) (rows j) ∧ (solM m (co (rows j) j) (want m (rows j) j (grd m rows k))).2 = 0)
  | 0, _ => fun j h0 hj => absurd hj (by omega)
  | k + 1, hk => by
    have ih := grd_ok m1 m2 hT hC k (by omega)
    have hc := hC (k + 1) (by omega) hk (grd m rows k) (grd_zero m rows k) (fun j h0 hj => (ih j h0 (by omega)).2.2.1)
    have hr := (hT.ok (k + 1)).red (k + 1)
    obtain ⟨g1, g2, g3⟩ := gcd_facts m1 (co (rows (k + 1)) (k + 1))
    have hd : gcdI m (co (rows (k + 1)) (k + 1)) ∣ want m (rows (k + 1)) (k + 1) (grd m rows k) := dvd_want g2 (clo_dvd m1 hc)
    obtain ⟨w1, w2⟩ := want_bd (m := m) (by omega) (rows (k + 1)) (k + 1) (grd m rows k)
    obtain ⟨s0, s1, s2, s3, -⟩ := (sol_facts m1 m2 hr.1 hr.2 w1 w2).1 hd
    have hlow : ∀ j, j ≤ k + 1 → low (rows j) j (grd m rows (k + 1)) = low (rows j) j (grd m rows k) := fun j hj => low_congr (fun i hi => grd_keep m rows (by omega))
    intro j h0 hj
    by_cases hjk : j = k + 1
    · subst hjk
      rw [grd_at]
      refine ⟨s1, s2, ?_, ?_⟩
      · rw [sat_iff hk (hT.tri _ h0), grd_at]
        unfold want at s3 ⊢
        rw [hlow _ (Nat.le_refl _)]
        exact s3
      · unfold want at s0 ⊢
        rw [hlow _ (Nat.le_refl _)]
        exact s0
    · obtain ⟨i1, i2, i3, i4⟩ := ih j h0 (by omega)
      rw [grd_keep m rows (by omega)]
      refine ⟨i1, i2, ?_, ?_⟩
      · rw [sat_iff (by omega) (hT.tri _ h0)] at i3 ⊢
        rw [grd_keep m rows (by omega)]
        unfold want at i3 ⊢
        rw [hlow _ (by omega)]
        exact i3
      · unfold want at i4 ⊢
        rw [hlow _ (by omega)]
        exact i4
theorem grd_least {m : Int} (m1 : 2 ≤ m) (m2 : m ≤ 10000) {rows : Nat → List Int} (hT : Tri m rows) (hC : ∀ k, 0 < k → k ≤ 10 → Clo m rows k) :
    Least m (fun x => ∀ j, 0 < j → j ≤ 10 → Sat m x (rows j)) (grd m rows 10) := by
  have h10 := grd_ok m1 m2 hT hC 10 (Nat.le_refl _)
  refine ⟨grd_zero m rows 10, fun k h0 hk => ⟨(h10 k h0 hk).1, (h10 k h0 hk).2.1⟩, fun j h0 hj => (h10 j h0 hj).2.2.1, fun y hy hS k h0 hk he h => ?_⟩
  have hs := hS k h0 hk
  rw [sat_iff hk (hT.tri _ h0)] at hs
  have hr := (hT.ok k).red k
  obtain ⟨w1, w2⟩ := want_bd (m := m) (by omega) (rows k) k y
  have hw : want m (rows k) k y = want m (rows k) k (grd m rows 10) := by unfold want; rw [low_congr he]
  apply Classical.byContradiction
  intro hlt
  have hd : gcdI m (co (rows k) k) ∣ want m (rows k) k y := by
    apply Classical.byContradiction
    intro hn
    exact ((sol_facts m1 m2 hr.1 hr.2 w1 w2).2 hn).2 (y k) hs
  have hx : grd m rows 10 k = (solM m (co (rows k) k) (want m (rows k) k y)).1 := by
    have key : ∀ n, k ≤ n → n ≤ 10 → grd m rows n k = grd m rows k k := by
      intro n hn _
      obtain ⟨q, rfl⟩ : ∃ q, n = k + q := ⟨n - k, by omega⟩
      induction q with
      | zero => rfl
      | succ q ih => rw [← Nat.add_assoc, grd_keep m rows (by omega)]; exact ih (by omega) (by omega)
    have key2 : ∀ i, i < k → grd m rows 10 i = grd m rows (k - 1) i := by
      intro i hi
      have : ∀ q, k - 1 + q ≤ 10 → grd m rows (k - 1 + q) i = grd m rows (k - 1) i := by
        intro q
        induction q with
        | zero => intro _; rfl
        | succ q ih => intro h; rw [← Nat.add_assoc, grd_keep m rows (by omega)]; exact ih (by omega)
      have h2 := this (10 - (k - 1)) (by omega)
      rw [show k - 1 + (10 - (k - 1)) = 10 by omega] at h2
      exact h2
    rw [key 10 hk (Nat.le_refl _)]
    obtain ⟨q, rfl⟩ : ∃ q, k = q + 1 := ⟨k - 1, by omega⟩
    rw [grd_at, hw]
    unfold pick want
    rw [low_congr (x := grd m rows 10) (y := grd m rows q) (fun i hi => key2 i hi)]
  obtain ⟨-, -, -, -, s4⟩ := (sol_facts m1 m2 hr.1 hr.2 w1 w2).1 hd
  exact s4 (y k) h (by rw [← hx]; omega) hs
theorem Least.congr {m : Int} {S S' : (Nat → Int) → Prop} {x : Nat → Int} (h : ∀ y : Nat → Int, y 0 = 1 → (S y ↔ S' y)) (hx : Least m S x) : Least m S' x :=
  ⟨hx.one, hx.bd, (h x hx.one).1 hx.sat, fun y hy hS k h0 hk he => hx.least y hy ((h y hy).2 hS) k h0 hk he⟩
/-- all equations of a list put into an empty system -/
def addAll (m : Int) (rows : Nat → List Int) : List (List Int) → Option (Nat → List Int)
  | [] => some rows
  | e :: es => match addS m 10 rows e with
    | none => none
    | some r => addAll m r es
def none0 : Nat → List Int := fun _ => List.replicate 11 0
theorem tri0 {m : Int} (hm : 0 < m) : Tri m none0 := ⟨fun _ => ⟨by unfold none0; rw [List.length_replicate], fun i => by unfold none0; rw [co_zeros]; omega⟩, fun _ _ _ _ => by unfold none0; rw [co_zeros]⟩
theorem sat0 (m : Int) (x : Nat → Int) (k : Nat) : Sat m x (none0 k) := by
  unfold Sat val none0
  rw [show psum (fun i => co (List.replicate 11 0) i * x i) 11 = psum (fun _ => 0) 11 from psum_ext 11 (fun i _ => by rw [co_zeros]; omega), psum_zero]
  exact Int.zero_emod m
theorem clo0 (m : Int) (k : Nat) : Clo m none0 k := by
  intro x _ _
  rw [show low (none0 k) k x = 0 by
    unfold low none0
    rw [show psum (fun i => co (List.replicate 11 0) i * x i) k = psum (fun _ => 0) k from psum_ext k (fun i _ => by rw [co_zeros]; omega), psum_zero]]
  simp
theorem addAll_ok {m : Int} (m1 : 2 ≤ m) (m2 : m ≤ 10000) : ∀ (es : List (List Int)) (rows : Nat → List Int), Tri m rows → (∀ k, 0 < k → k ≤ 10 → Clo m rows k) → (∀ e ∈ es, Ok m e) →
    (∀ r, addAll m rows es = some r → Tri m r ∧ (∀ k, 0 < k → k ≤ 10 → Clo m r k) ∧ ∀ x : Nat → Int, x 0 = 1 → ((∀ j, 0 < j → j ≤ 10 → Sat m x (r j)) ↔ ((∀ j, 0 < j → j ≤ 10 → Sat m x (rows j)) ∧ ∀ e ∈ es, Sat m x e))) ∧
    (addAll m rows es = none → ∀ x : Nat → Int, x 0 = 1 → ¬ ((∀ j, 0 < j → j ≤ 10 → Sat m x (rows j)) ∧ ∀ e ∈ es, Sat m x e))
  | [], rows, hT, hC, _ => by
    unfold addAll
    refine ⟨fun r h => ?_, fun h => (by cases h)⟩
    injection h with h
    subst h
    exact ⟨hT, hC, fun x _ => ⟨fun h => ⟨h, fun e he => by cases he⟩, fun h => h.1⟩⟩
  | e :: es, rows, hT, hC, hO => by
    have hO' := fun f hf => hO f (List.mem_cons_of_mem _ hf)
    obtain ⟨s1, n1⟩ := addS_ok m1 m2 10 rows e hT (hO e (List.mem_cons_self)) (lastF_le e 10) (Nat.le_refl _)
    unfold addAll
    cases h1 : addS m 10 rows e with
    | none =>
      exact ⟨fun r h => (by cases h), fun _ x hx h => n1 h1 x hx ⟨h.1, h.2 e (List.mem_cons_self)⟩⟩
    | some r1 =>
      have A := s1 r1 h1
      obtain ⟨s2, n2⟩ := addAll_ok m1 m2 es r1 A.tri (A.clo hC) hO'
      dsimp only
      refine ⟨fun r h => ?_, fun h x hx hh => n2 h x hx ⟨(A.sat x hx).2 ⟨hh.1, hh.2 e (List.mem_cons_self)⟩, fun f hf => hh.2 f (List.mem_cons_of_mem _ hf)⟩⟩
      obtain ⟨t1, t2, t3⟩ := s2 r h
      refine ⟨t1, t2, fun x hx => ?_⟩
      rw [t3 x hx, A.sat x hx]
      constructor
      · rintro ⟨⟨a, b⟩, c⟩
        refine ⟨a, fun f hf => ?_⟩
        rcases List.mem_cons.1 hf with rfl | hf
        · exact b
        · exact c f hf
      · rintro ⟨a, b⟩
        exact ⟨⟨a, b e (List.mem_cons_self)⟩, fun f hf => b f (List.mem_cons_of_mem _ hf)⟩
/-- the model of leastSolution: the numbers at 1 to 10, if there are any -/
def leastS (m : Int) (es : List (List Int)) : Option (Nat → Int) := (addAll m none0 es).map fun r => grd m r 10
theorem leastS_some {m : Int} (m1 : 2 ≤ m) (m2 : m ≤ 10000) {es : List (List Int)} (hO : ∀ e ∈ es, Ok m e) {x : Nat → Int} (h : leastS m es = some x) : Least m (fun y => ∀ e ∈ es, Sat m y e) x := by
  unfold leastS at h
  cases h1 : addAll m none0 es with
  | none => rw [h1] at h; cases h
  | some r =>
    rw [h1] at h
    injection h with h
    subst h
    obtain ⟨t1, t2, t3⟩ := (addAll_ok m1 m2 es none0 (tri0 (by omega)) (fun k _ _ => clo0 m k) hO).1 r h1
    exact (grd_least m1 m2 t1 t2).congr (fun y hy => by
      rw [t3 y hy]
      exact ⟨fun h => h.2, fun h => ⟨fun j _ _ => sat0 m y j, h⟩⟩)
theorem leastS_none {m : Int} (m1 : 2 ≤ m) (m2 : m ≤ 10000) {es : List (List Int)} (hO : ∀ e ∈ es, Ok m e) (h : leastS m es = none) (y : Nat → Int) (hy : y 0 = 1) : ¬ ∀ e ∈ es, Sat m y e := by
  unfold leastS at h
  cases h1 : addAll m none0 es with
  | none => exact fun hh => (addAll_ok m1 m2 es none0 (tri0 (by omega)) (fun k _ _ => clo0 m k) hO).2 h1 y hy ⟨fun j _ _ => sat0 m y j, hh⟩
  | some r => rw [h1] at h; cases h
end Sys
end Go.Proofs.YtfhdgcndiljjcabGreat

/- Plain number theory: numbers of choices. No program in sight. -/
namespace Go.Proofs.YtfhdgcndiljjcabGreat
namespace Num
/-- the number of ways to choose k of n things -/
def bin : Nat → Nat → Nat
  | _, 0 => 1
  | 0, _ + 1 => 0
  | n + 1, k + 1 => bin n k + bin n (k + 1)
theorem bin_zero (n : Nat) : bin n 0 = 1 := by cases n <;> rfl
theorem bin_succ (n k : Nat) : bin (n + 1) (k + 1) = bin n k + bin n (k + 1) := rfl
theorem bin_mul (n : Nat) : ∀ k, (k + 1) * bin n (k + 1) + k * bin n k = n * bin n k := by
  induction n with
  | zero =>
    intro k
    cases k <;> simp [bin]
  | succ n ih =>
    intro k
    cases k with
    | zero =>
      have h := ih 0
      rw [bin_zero] at h ⊢
      rw [bin_succ, bin_zero]
      omega
    | succ k =>
      have h1 := ih k
      have h2 := ih (k + 1)
      rw [bin_succ, bin_succ]
      generalize bin n k = b0 at *
      generalize bin n (k + 1) = b1 at *
      generalize bin n (k + 1 + 1) = b2 at *
      grind
theorem bin_over (n : Nat) : ∀ k, n < k → bin n k = 0 := by
  induction n with
  | zero => intro k h; cases k with
    | zero => omega
    | succ k => rfl
  | succ n ih => intro k h; cases k with
    | zero => omega
    | succ k => rw [bin_succ, ih k (by omega), ih (k + 1) (by omega)]
theorem bin_self (n : Nat) : bin n n = 1 := by
  induction n with
  | zero => rfl
  | succ n ih => rw [bin_succ, ih, bin_over n (n + 1) (by omega)]
theorem bin_pos (n : Nat) : ∀ k, k ≤ n → 0 < bin n k := by
  induction n with
  | zero => intro k h; obtain rfl : k = 0 := by omega
            exact Nat.one_pos
  | succ n ih => intro k h; cases k with
    | zero => rw [bin_zero]; omega
    | succ k => rw [bin_succ]; have := ih k (by omega); omega
theorem bin_mono (n k : Nat) : bin n k ≤ bin (n + 1) k := by
  cases k with
  | zero => rw [bin_zero, bin_zero]; omega
  | succ k => rw [bin_succ]; omega
theorem bin_mono' (n k : Nat) : ∀ d, bin n k ≤ bin (n + d) k
  | 0 => Nat.le_refl _
  | d + 1 => Nat.le_trans (bin_mono' n k d) (bin_mono (n + d) k)
/-- a row of the triangle, quickly -/
def rowL : Nat → List Nat
  | 0 => [1]
  | n + 1 => List.zipWith (· + ·) (0 :: rowL n) (rowL n ++ [0])
theorem rowL_length : ∀ n, (rowL n).length = n + 1
  | 0 => rfl
  | n + 1 => by simp [rowL, rowL_length n]
theorem rowL_get : ∀ n k, k ≤ n → (rowL n)[k]? = some (bin n k)
  | 0, k, h => by obtain rfl : k = 0 := by omega
                  rfl
  | n + 1, k, h => by
    have hl := rowL_length n
    rw [rowL, List.getElem?_zipWith]
    cases k with
    | zero =>
      have h0 := rowL_get n 0 (by omega)
      rw [List.getElem?_append_left (by omega), h0, bin_zero, bin_zero]
      rfl
    | succ k =>
      rw [List.getElem?_cons_succ, rowL_get n k (by omega)]
      by_cases hk : k + 1 ≤ n
      · rw [List.getElem?_append_left (by omega), rowL_get n (k + 1) hk, bin_succ]
      · obtain rfl : k = n := by omega
        rw [List.getElem?_append_right (by omega), hl, Nat.sub_self, bin_succ, bin_over k (k + 1) (by omega)]
        rfl
theorem row60 : (rowL 60).all (fun x => decide (x ≤ 118264581564861424)) = true := by decide +kernel
theorem bin_le (n k : Nat) (hn : n ≤ 60) : bin n k ≤ 118264581564861424 := by
  by_cases hk : k ≤ 60
  · have h1 := bin_mono' n k (60 - n)
    rw [show n + (60 - n) = 60 by omega] at h1
    have h2 := rowL_get 60 k hk
    have h3 := List.all_eq_true.1 row60 _ (List.mem_of_getElem? h2)
    have h4 := of_decide_eq_true h3
    omega
  · rw [bin_over n k (by omega)]; omega
/-- a step of the product -/
theorem bin_next {n k : Nat} (h : k < n) : bin n k * (n - k) = bin n (k + 1) * (k + 1) := by
  have h1 := bin_mul n k
  have h2 : n * bin n k = (n - k) * bin n k + k * bin n k := by rw [← Nat.add_mul]; congr 1; omega
  rw [Nat.mul_comm (bin n k), Nat.mul_comm (bin n (k + 1))]
  omega
theorem bin_step {n k : Nat} (h : k < n) : bin n k * (n - k) / (k + 1) = bin n (k + 1) := by
  rw [bin_next h, Nat.mul_div_cancel _ (by omega)]
theorem bin_prod {n k : Nat} (hn : n ≤ 60) : bin n k * (n - k) ≤ 118264581564861424 * 60 := Nat.mul_le_mul (bin_le n k hn) (by omega)
end Num
end Go.Proofs.YtfhdgcndiljjcabGreat

/- Contracts of the two binomial functions. -/
namespace Go.Proofs.YtfhdgcndiljjcabGreat
open Go.RowKit Go.WideShapes Go.ChangeShapes Go.ChangeAt
/-- the number of ways to choose k of n things -/
def binI (n k : Int) : Int := (Num.bin n.toNat k.toNat : Nat)
theorem binI_bd {n k : Int} (hn : n ≤ 60) : 0 ≤ binI n k ∧ binI n k ≤ 118264581564861424 := by
  have := Num.bin_le n.toNat k.toNat (by omega)
  unfold binI; omega
set_option maxHeartbeats 1000000 in
theorem choices_any (n k : Int) (w : World) (h1 : 0 ≤ n) (h2 : n ≤ 60) (h3 : 0 ≤ k) (h4 : k ≤ 60) :
    Calls Tryz.prog 105 #[.int .i64 n, .int .i64 k] w fun e w' => e = .returned (.int .i64 (binI n k)) ∧ w = w' := by
  obtain ⟨N, rfl⟩ := Int.eq_ofNat_of_zero_le h1
  obtain ⟨K, rfl⟩ := Int.eq_ofNat_of_zero_le h3
  by_cases hkn : N < K
  · have HF := Lib.hid (show binI (N : Int) (K : Int) = 0 by rw [binI, Int.toNat_natCast, Int.toNat_natCast, Num.bin_over N K hkn]; rfl)
    go_enter Tryz.func105, Tryz.ntmps105
    go_wp2
    go_ret
    exact ⟨ret_int HF.out.symm, rfl⟩
  · go_enter Tryz.func105, Tryz.ntmps105
    go_wp2
    go_loop [5, 6] (fun c i => ∃ I : Nat, 1 ≤ I ∧ I ≤ K + 1 ∧ c = .int .i64 (Num.bin N (I - 1) : Nat) ∧ i = .int .i64 I) (fun _ i => K + 1 - (intOf i).toNat)
    case atStart => exact ⟨1, by omega, by omega, by rw [Nat.sub_self, Num.bin_zero]; rfl, rfl⟩
    case round =>
      obtain ⟨I, i1, i2, rfl, rfl⟩ := hrel
      by_cases hlt : I ≤ K
      · have hle := Num.bin_le N (I - 1) (by omega)
        have hpr := Num.bin_prod (n := N) (k := I - 1) (by omega)
        have hst := Num.bin_step (n := N) (k := I - 1) (by omega)
        rw [show I - 1 + 1 = I by omega] at hst
        obtain ⟨C, hC⟩ : ∃ C, Num.bin N (I - 1) = C := ⟨_, rfl⟩
        rw [hC] at hle hpr hst ⊢
        have e1 : (C : Int) * ((N : Int) - (I : Int) + 1) = ((C * (N - (I - 1)) : Nat) : Int) := by
          rw [Int.natCast_mul]; congr 1; omega
        have p1 : 0 ≤ (C : Int) * ((N : Int) - (I : Int) + 1) := by rw [e1]; exact Int.natCast_nonneg _
        have p2 : (C : Int) * ((N : Int) - (I : Int) + 1) ≤ 7095874893891685440 := by rw [e1]; omega
        have HS := Lib.hid (show (C : Int) * ((N : Int) - (I : Int) + 1) / (I : Int) = ((Num.bin N I : Nat) : Int) by rw [e1, ← Int.natCast_ediv, hst])
        clear hst hpr e1 hC
        go_wp2
        go_round
        case rel => exact ⟨I + 1, by omega, by omega, by rw [HS.out, Nat.add_sub_cancel], by go_num⟩
        case measure => simp only [intOf]; omega
      · obtain rfl : I = K + 1 := by omega
        go_wp2
        go_ret
        exact ⟨ret_int (by rw [binI, Int.toNat_natCast, Int.toNat_natCast]), rfl⟩
/-- the beginning of a row of the triangle -/
def rowI (n j : Nat) : List Int := (List.range j).map fun i => ((Num.bin n i : Nat) : Int)
theorem rowI_length (n j : Nat) : (rowI n j).length = j := by simp [rowI]
theorem rowI_succ (n j : Nat) : rowI n (j + 1) = rowI n j ++ [((Num.bin n j : Nat) : Int)] := by simp [rowI, List.range_succ]
theorem rowI_one (n : Nat) : rowI n 1 = [1] := by simp [rowI, Num.bin_zero]
theorem rowI_get (n j i : Nat) (h : i < j) : (rowI n j)[i]?.getD 0 = ((Num.bin n i : Nat) : Int) := by simp [rowI, h]
set_option maxHeartbeats 2000000 in
theorem l01Binomial_any (n k : Int) (w : World) (h1 : 0 ≤ n) (h2 : n ≤ 60) (h3 : 0 ≤ k) (h4 : k ≤ 60) :
    Calls Tryz.prog 98 #[.int .i64 n, .int .i64 k] w fun e w' => e = .returned (.int .i64 (binI n k)) ∧ Below w.heap.size w w' := by
  obtain ⟨N, rfl⟩ := Int.eq_ofNat_of_zero_le h1
  obtain ⟨K, rfl⟩ := Int.eq_ofNat_of_zero_le h3
  by_cases hkn : N < K
  · have HF := Lib.hid (show binI (N : Int) (K : Int) = 0 by rw [binI, Int.toNat_natCast, Int.toNat_natCast, Num.bin_over N K hkn]; rfl)
    go_enter Tryz.func98, Tryz.ntmps98
    go_wp2
    go_ret
    exact ⟨ret_int HF.out.symm, Below.refl _ _⟩
  · go_enter Tryz.func98, Tryz.ntmps98
    go_wp2
    go_loopw [5, 6] (fun r i wr => ∃ I : Nat, I ≤ N ∧ i = .int .i64 I ∧ OwnI wr w.heap.size r (rowI I (I + 1)) ∧ Below w.heap.size w wr) (fun _ i _ => N - (intOf i).toNat)
    case atStart => exact ⟨0, Nat.zero_le _, rfl, by rw [rowI_one]; exact OwnI.one w 1, (Below.refl _ _).alloc (Nat.le_refl _) _⟩
    case round =>
      obtain ⟨I, hI, rfl, hown, hbel⟩ := hrel
      have HB := Lib.hid hbel
      have HO := Lib.hid hown
      obtain ⟨A, c, rfl, hri⟩ := hown.form
      rw [rowI_length] at HO ⊢
      clear hbel hown
      by_cases hlt : I < N
      · have hB1 := HB.out.size
        obtain ⟨wo, rfl⟩ : ∃ wo : World, wo = wr := ⟨_, rfl⟩
        obtain ⟨b, off, rfl, hb, hc⟩ := hri (by intro h; have := congrArg List.length h; rw [rowI_length] at this; simp at this)
        have HC := Lib.hid hc
        clear hri hc
        go_wp2
        go_loopw [7, 8] (fun x j wi => ∃ T : Nat, 1 ≤ T ∧ T ≤ I + 1 ∧ j = .int .i64 T ∧ OwnI wi wo.heap.size x (rowI (I + 1) T) ∧ Below wo.heap.size wo wi) (fun _ j _ => I + 1 - (intOf j).toNat)
        case atStart => exact ⟨1, by omega, by omega, rfl, by rw [rowI_one]; exact OwnI.one wo 1, (Below.refl _ _).alloc (Nat.le_refl _) _⟩
        case round =>
          obtain ⟨T, hT1, hT2, rfl, hown2, hbel2⟩ := hrel
          have HB2 := Lib.hid hbel2
          have HO2 := Lib.hid hown2
          clear hbel2 hown2
          by_cases hj : T < I + 1
          · obtain ⟨J, hJ⟩ : ∃ J, T = J + 1 := ⟨T - 1, by omega⟩
            have c1 := (HB2.out.cell (p := ⟨b, off + J, none⟩) hb).trans (HC.out J (by rw [rowI_length]; omega))
            have c2 := (HB2.out.cell (p := ⟨b, off + T, none⟩) hb).trans (HC.out T (by rw [rowI_length]; omega))
            rw [rowI_get _ _ _ (by omega)] at c1 c2
            have l1 := Num.bin_le I J (by omega)
            have l2 := Num.bin_le I T (by omega)
            have HS := Lib.hid (show Num.bin (I + 1) T = Num.bin I J + Num.bin I T by rw [hJ, Num.bin_succ])
            obtain ⟨X, hX⟩ : ∃ X, Num.bin I J = X := ⟨_, rfl⟩
            obtain ⟨Y, hY⟩ : ∃ Y, Num.bin I T = Y := ⟨_, rfl⟩
            rw [hX] at c1 l1
            rw [hY] at c2 l2
            have HX := Lib.hid hX
            have HY := Lib.hid hY
            have j1 : (0 : Int) ≤ (T : Int) := by omega
            have j2 : (T : Int) < (I : Int) + 1 := by omega
            have j3 : (0 : Int) ≤ (J : Int) := by omega
            have j4 : (J : Int) < (I : Int) + 1 := by omega
            have j5 : IntKind.i64.wrap ((T : Int) - 1) = (J : Int) := by rw [IntWalk.i64_in _ (by omega)]; omega
            have j6 : IntKind.i64.wrap ((X : Int) + (Y : Int)) = (X : Int) + (Y : Int) := IntWalk.i64_in _ (by omega)
            have hsz := HB2.out.size
            clear hX hY hJ
            go_wp2
            go_region_held3 (fun w' => w'.cell? ⟨b, off + J, none⟩ = some (.int .i64 (X : Nat)) ∧ w'.cell? ⟨b, off + T, none⟩ = some (.int .i64 (Y : Nat))) (first | go_keep | exact ⟨((((Below.refl wo.heap.size wr).alloc hsz _).drew.trans hpb).cell hb).trans c1, ((((Below.refl wo.heap.size wr).alloc hsz _).drew.trans hpb).cell hb).trans c2⟩) ((refine step_push _ _ _ (by rfl) (by rfl) Tryz.underlying26 wo.heap.size _ _ (by rfl) ((HO2.out.alloc _).drew) wr.heap.size ((X : Int) + (Y : Int)) (by rfl) (by simp) (by rw [rowI_length]; omega) (by have := HB2.out.size; simp; omega) ?_; intro v' w1 ho1 hpb))
            have hpb' := ((Below.refl wo.heap.size wr).alloc hsz _).drew.trans hpb
            have HP := Lib.hid hpb'
            have HQ := Lib.hid ho1
            clear hpb hpb' ho1 c1 c2 j5 j6
            go_wp2
            go_roundw
            case rel => exact ⟨T + 1, by omega, by omega, by go_num, by rw [rowI_succ, HS.out, HX.out, HY.out, Int.natCast_add]; exact HQ.out, HB2.out.trans HP.out⟩
            case measure => simp only [intOf]; omega
          · obtain rfl : T = I + 1 := by omega
            have hsz := HB2.out.size
            go_wp2_with (at_builtin; refine wp_push _ _ _ (by rfl) (by rfl) Tryz.underlying26 wo.heap.size _ _ (by rfl) HO2.out 1 (by rfl) (by rw [rowI_length]; omega) (by omega) ?_; intro v' w1 ho1 hpb)
            have HP := Lib.hid hpb
            have HQ := Lib.hid ho1
            clear hpb ho1
            go_wp2
            go_roundw
            case rel =>
              refine ⟨I + 1, by omega, by go_num, OwnI.more ?_ hB1, HB.out.trans ((HB2.out.trans HP.out).mono hB1)⟩
              rw [rowI_succ _ (I + 1), Num.bin_self]
              exact HQ.out
            case measure => simp only [intOf]; omega
      · obtain rfl : I = N := by omega
        obtain ⟨b, off, rfl, hb, hc⟩ := hri (by intro h; have := congrArg List.length h; rw [rowI_length] at this; simp at this)
        have c1 := hc K (by rw [rowI_length]; omega)
        rw [rowI_get _ _ _ (by omega)] at c1
        clear hri hc
        go_wp2
        go_ret
        exact ⟨ret_int (by rw [binI, Int.toNat_natCast, Int.toNat_natCast]), HB.out⟩
end Go.Proofs.YtfhdgcndiljjcabGreat

/- Contracts of greatestDivisor and CommonDivisor, of the program and of the model. -/
namespace Go.Proofs.YtfhdgcndiljjcabGreat
open Go.RowKit Go.WideShapes Go.ChangeShapes Go.ChangeAt
set_option maxHeartbeats 1000000 in
theorem greatestDivisor_any (a b : Int) (w : World) (h1 : -4000000000000000000 ≤ a) (h2 : a ≤ 4000000000000000000) (h3 : -4000000000000000000 ≤ b) (h4 : b ≤ 4000000000000000000) :
    Calls Tryz.prog 104 #[.int .i64 a, .int .i64 b] w fun e w' => e = .returned (.int .i64 (gcdI a b)) ∧ Below w.heap.size w w' := by
  go_enter Tryz.func104, Tryz.ntmps104
  go_wp2
  go_loopw [0, 1] (fun x y wr => ∃ (X Y : Int), x = .int .i64 X ∧ y = .int .i64 Y ∧ -4000000000000000000 ≤ X ∧ X ≤ 4000000000000000000 ∧ -4000000000000000000 ≤ Y ∧ Y ≤ 4000000000000000000 ∧ gcdI X Y = gcdI a b ∧ Below w.heap.size w wr) (fun _ y _ => (intOf y).natAbs)
  case atStart => exact ⟨a, b, rfl, rfl, h1, h2, h3, h4, rfl, Below.refl _ _⟩
  case round =>
    obtain ⟨X, Y, rfl, rfl, b1, b2, b3, b4, heq, hbel⟩ := hrel
    have HE := Lib.hid heq
    have HB := Lib.hid hbel
    clear heq hbel
    by_cases hY : Y = 0
    · subst hY
      have h0 : gcdI X 0 = X.natAbs := by simp [gcdI]
      have H0 := Lib.hid h0
      clear h0
      by_cases hX : X < 0
      · go_wp2
        go_ret
        exact ⟨ret_int (by rw [← HE.out, H0.out]; omega), HB.out⟩
      · go_wp2
        go_ret
        exact ⟨ret_int (by rw [← HE.out, H0.out]; omega), HB.out⟩
    · obtain ⟨n1, n2⟩ := ne_facts hY
      have hlt : (X.tmod Y).natAbs < Y.natAbs := by rw [Int.natAbs_tmod]; exact Nat.mod_lt _ (by omega)
      have hg : gcdI Y (X.tmod Y) = gcdI X Y := by
        unfold gcdI; rw [Int.natAbs_tmod, Nat.gcd_comm Y.natAbs, ← Nat.gcd_rec, Nat.gcd_comm]
      have HG := Lib.hid hg
      have HL := Lib.hid hlt
      have c1 : -4000000000000000000 ≤ X.tmod Y ∧ X.tmod Y ≤ 4000000000000000000 := by omega
      obtain ⟨c1, c2⟩ := c1
      clear hg hlt
      go_wp2
      go_quiet (fail)
      go_wp2
      go_roundw
      case rel => exact ⟨Y, X.tmod Y, rfl, rfl, b3, b4, c1, c2, HG.out.trans HE.out, below_drewN HB.out _⟩
      case measure => simp only [intOf]; exact HL.out
end Go.Proofs.YtfhdgcndiljjcabGreat

/- Contracts of BinomialNumber and BinomialDivisor, of the program and of the model. -/
namespace Go.Proofs.YtfhdgcndiljjcabGreat
open Go.RowKit Go.WideShapes Go.ChangeShapes Go.ChangeAt
/-- the greatest common divisor of the first numbers of choices -/
def lz (n : Int) : Nat → Int
  | 0 => 0
  | k + 1 => gcdI (lz n k) (binI n (k + 1 : Nat))
theorem gcdI_le (a : Int) {b : Int} (hb : 0 < b) : 0 ≤ gcdI a b ∧ gcdI a b ≤ b := by
  have := Nat.le_of_dvd (show 0 < b.natAbs by omega) (Nat.gcd_dvd_right a.natAbs b.natAbs)
  unfold gcdI; omega
theorem lz_bd {n : Int} (h2 : n ≤ 60) : ∀ k : Nat, (k : Int) ≤ n → 0 ≤ lz n k ∧ lz n k ≤ 118264581564861424
  | 0, _ => by simp [lz]
  | k + 1, h => by
    have hp : 0 < binI n (k + 1 : Nat) := by
      have := Num.bin_pos n.toNat (k + 1) (by omega)
      unfold binI; simp only [Int.toNat_natCast]; omega
    have h3 := gcdI_le (lz n k) hp
    have h4 := binI_bd (k := (k + 1 : Nat)) h2
    rw [lz]; omega
set_option maxHeartbeats 1000000 in
theorem l01Lazard_any (n : Int) (w : World) (h1 : 2 ≤ n) (h2 : n ≤ 60) :
    Calls Tryz.prog 64 #[.int .i64 n] w fun e w' => e = .returned (.int .i64 (lz n (n.toNat - 1))) ∧ Below w.heap.size w w' := by
  go_enter Tryz.func64, Tryz.ntmps64
  go_wp2
  go_loopw [3, 4] (fun g k wr => ∃ K : Nat, (K : Int) < n ∧ g = .int .i64 (lz n K) ∧ k = .int .i64 (K + 1 : Nat) ∧ Below w.heap.size w wr) (fun _ k _ => n.toNat - (intOf k).toNat)
  case atStart => exact ⟨0, by omega, rfl, rfl, Below.refl _ _⟩
  case round =>
    obtain ⟨K, hK, rfl, rfl, hbel⟩ := hrel
    have HB := Lib.hid hbel
    have hsz := hbel.size
    clear hbel
    obtain ⟨l1, l2⟩ := lz_bd h2 K (by omega)
    obtain ⟨T, hT⟩ : ∃ T, K + 1 = T := ⟨_, rfl⟩
    have HL := Lib.hid (show lz n T = gcdI (lz n K) (binI n T) by rw [← hT, lz])
    have hT' : (T : Int) = K + 1 := by omega
    rw [hT] at *
    have HT := Lib.hid hT
    clear hT
    obtain ⟨t1, t2⟩ : 1 ≤ (T : Int) ∧ (T : Int) ≤ n := by omega
    have HT' := Lib.hid hT'
    clear hT'
    by_cases hlt : (T : Int) < n
    · obtain ⟨q1, q2⟩ := binI_bd (n := n) (k := (T : Int)) h2
      go_wp2_with (first | (go_at_call 98; refine (l01Binomial_any _ _ _ (by omega) (by omega) (by omega) (by omega)).mono ?_; rintro e w1 ⟨rfl, hb1⟩) | (go_at_call 97; refine (l01Gcd_any _ _ _ (by omega) (by omega) (by omega) (by omega)).mono ?_; rintro e w2 ⟨rfl, rfl⟩))
      go_roundw
      case rel => exact ⟨T, hlt, by rw [HL.out], by go_num, HB.out.trans (hb1.mono hsz)⟩
      case measure => simp only [intOf]; omega
    · go_wp2
      go_ret
      exact ⟨ret_int (by congr 1; have := HT'.out; omega), HB.out⟩
set_option maxHeartbeats 1000000 in
theorem BinomialDivisor_any (n : Int) (w : World) :
    Calls Tryz.prog 69 #[.int .i64 n] w fun e w' => e = .returned (.tuple #[.int .i64 (if inB n 2 60 then lz n (n.toNat - 1) else 0), .int .i64 (if inB n 2 60 then 0 else 2)]) ∧ Below w.heap.size w w' := by
  by_cases hn : inB n 2 60 = true
  · obtain ⟨h1, h2⟩ := (inB_iff _ _ _).1 hn
    go_enter Tryz.func69, Tryz.ntmps69
    go_wp2_with (go_at_call 103; refine (isWithin_any _ _ _ _).mono ?_; rintro e w' ⟨rfl, rfl⟩)
    go_loopw [4, 5] (fun g k wr => ∃ K : Nat, (K : Int) < n ∧ g = .int .i64 (lz n K) ∧ k = .int .i64 (K + 1 : Nat) ∧ Below w.heap.size w wr) (fun _ k _ => n.toNat - (intOf k).toNat)
    case atStart => exact ⟨0, by omega, rfl, rfl, Below.refl _ _⟩
    case round =>
      obtain ⟨K, hK, rfl, rfl, hbel⟩ := hrel
      have HB := Lib.hid hbel
      have hsz := hbel.size
      clear hbel
      obtain ⟨l1, l2⟩ := lz_bd h2 K (by omega)
      obtain ⟨T, hT⟩ : ∃ T, K + 1 = T := ⟨_, rfl⟩
      have HL := Lib.hid (show lz n T = gcdI (lz n K) (binI n T) by rw [← hT, lz])
      have hT' : (T : Int) = K + 1 := by omega
      rw [hT] at *
      have HT := Lib.hid hT
      clear hT
      obtain ⟨t1, t2⟩ : 1 ≤ (T : Int) ∧ (T : Int) ≤ n := by omega
      have HT' := Lib.hid hT'
      clear hT'
      by_cases hlt : (T : Int) < n
      · obtain ⟨q1, q2⟩ := binI_bd (n := n) (k := (T : Int)) h2
        go_wp2_with (first | (go_at_call 105; refine (choices_any _ _ _ (by omega) (by omega) (by omega) (by omega)).mono ?_; rintro e w1 ⟨rfl, rfl⟩) | (go_at_call 104; refine (greatestDivisor_any _ _ _ (by omega) (by omega) (by omega) (by omega)).mono ?_; rintro e w2 ⟨rfl, hb2⟩))
        go_roundw
        case rel => exact ⟨T, hlt, by rw [HL.out], by go_num, HB.out.trans (hb2.mono hsz)⟩
        case measure => simp only [intOf]; omega
      · go_wp2
        go_ret2
        exact ⟨ret_ii (by first | (rw [if_pos hn]; congr 1; have := HT'.out; omega) | (congr 1; have := HT'.out; omega)) (by first | rfl | rw [if_pos hn]), HB.out⟩
  · have hn' : inB n 2 60 = false := by simpa using hn
    go_enter Tryz.func69, Tryz.ntmps69
    go_wp2_with (go_at_call 103; refine (isWithin_any _ _ _ _).mono ?_; rintro e w' ⟨rfl, rfl⟩)
    go_ret2
    exact ⟨ret_ii (by first | rfl | rw [if_neg hn]) (by first | rfl | rw [if_neg hn]), Below.refl _ _⟩
end Go.Proofs.YtfhdgcndiljjcabGreat

/- Plain facts on the layers of Lazard's cocycles. -/
namespace Go.Proofs.YtfhdgcndiljjcabGreat
open Go.RowKit
/-- the coefficient of C(n) at x^i y^(n - i) -/
def layF (n i : Nat) : Int := if 0 < i ∧ i < n then (binI (n : Int) (i : Int)).tdiv (lz (n : Int) (n - 1)) else 0
/-- a layer as far as the program has written it: below k -/
def layP (n k : Nat) : List Int := (List.range (n + 1)).map fun i => if i < k then layF n i else 0
def layL (n : Nat) : List Int := (List.range (n + 1)).map (layF n)
theorem layL_length (n : Nat) : (layL n).length = n + 1 := by simp [layL]
theorem layP_length (n k : Nat) : (layP n k).length = n + 1 := by simp [layP]
theorem layP_co {n k i : Nat} (h : i ≤ n) : Ser.co (layP n k) i = if i < k then layF n i else 0 := by
  unfold Ser.co layP
  rw [List.getElem?_map, List.getElem?_range (by omega)]; rfl
theorem layL_co {n i : Nat} (h : i ≤ n) : Ser.co (layL n) i = layF n i := by
  unfold Ser.co layL
  rw [List.getElem?_map, List.getElem?_range (by omega)]; rfl
theorem layP_one (n : Nat) : layP n 1 = List.replicate (n + 1) 0 := by
  refine Ser.list_ext (by rw [layP_length, List.length_replicate]) (fun i hi => ?_)
  rw [layP_length] at hi
  rw [layP_co (by omega), Ser.co_zeros]
  by_cases h : i < 1
  · rw [if_pos h]; unfold layF; rw [if_neg (by omega)]
  · rw [if_neg h]
theorem layP_end (n : Nat) : layP n n = layL n := by
  refine Ser.list_ext (by rw [layP_length, layL_length]) (fun i hi => ?_)
  rw [layP_length] at hi
  rw [layP_co (by omega), layL_co (by omega)]
  by_cases h : i < n
  · rw [if_pos h]
  · rw [if_neg h]; unfold layF; rw [if_neg (by omega)]
theorem layP_step {n k : Nat} (h : k ≤ n) : (layP n k).set k (layF n k) = layP n (k + 1) := by
  refine Ser.list_ext (by rw [List.length_set, layP_length, layP_length]) (fun i hi => ?_)
  rw [List.length_set, layP_length] at hi
  rw [Ser.co_set (by rw [layP_length]; omega), layP_co (by omega), layP_co (by omega)]
  by_cases e : i = k
  · rw [if_pos e, if_pos (by omega), e]
  · rw [if_neg e]
    by_cases c : i < k
    · rw [if_pos c, if_pos (by omega)]
    · rw [if_neg c, if_neg (by omega)]
theorem layF_mid {n k : Nat} (h1 : 0 < k) (h2 : k < n) : layF n k = (binI (n : Int) (k : Int)).tdiv (lz (n : Int) (n - 1)) := by
  unfold layF; rw [if_pos ⟨h1, h2⟩]
theorem lz_pos {n : Int} : ∀ k : Nat, 0 < k → (k : Int) ≤ n → 0 < lz n k
  | 0, h, _ => absurd h (by omega)
  | k + 1, _, h => by
    have hp : 0 < binI n (k + 1 : Nat) := by
      have := Num.bin_pos n.toNat (k + 1) (by omega)
      unfold binI; simp only [Int.toNat_natCast]; omega
    rw [lz]
    unfold gcdI
    have := Nat.gcd_pos_of_pos_right (lz n k).natAbs (show 0 < (binI n (k + 1 : Nat)).natAbs by omega)
    omega
theorem layF_small : ∀ n : Fin 11, ∀ i : Fin 11, 0 ≤ layF n i ∧ layF n i ≤ 252 := by decide +kernel
theorem layF_bd {n i : Nat} (h : n ≤ 10) : 0 ≤ layF n i ∧ layF n i ≤ 252 := by
  by_cases hi : i ≤ 10
  · exact layF_small ⟨n, by omega⟩ ⟨i, by omega⟩
  · unfold layF; rw [if_neg (by omega)]; omega
/-- a layer as a table: 0 below the degree -/
def ofLay (d : Nat) (f : Nat → Int) : Nat → Nat → Int := fun i j => if i + j < d then 0 else f i
/-- the model's table, its rows below k written -/
def lazQ (n k : Nat) : Nat → Nat → Int := fun i j => if i < k then ofLay n (layF n) i j else 0
theorem lazQ_one (m : Int) (n : Nat) : Pl.tab m n (lazQ n 1) = Pl.tab m n fun _ _ => 0 := Pl.tab_congr (Pl.Eq.of m n (fun i j _ => by
  unfold lazQ ofLay layF
  by_cases h : i < 1
  · rw [if_pos h]; split
    · rfl
    · rw [if_neg (by omega)]
  · rw [if_neg h]))
theorem lazQ_end (m : Int) (n : Nat) : Pl.tab m n (lazQ n n) = Pl.tab m n (ofLay n (layF n)) := Pl.tab_congr (Pl.Eq.of m n (fun i j _ => by
  unfold lazQ
  by_cases h : i < n
  · rw [if_pos h]
  · rw [if_neg h]; unfold ofLay layF; split
    · rfl
    · rw [if_neg (by omega)]))
theorem lazQ_step {m : Int} {n k : Nat} (h2 : k < n) : (Pl.tab m n (lazQ n k)).set k ((Pl.rw' (Pl.tab m n (lazQ n k)) k).set (n - k) (layF n k % m)) = Pl.tab m n (lazQ n (k + 1)) := by
  refine Pl.tab_put (by omega) ?_ (fun i j hij hne => ?_)
  · unfold lazQ ofLay
    rw [if_pos (by omega), if_neg (by omega)]
  · unfold lazQ ofLay
    by_cases hi : i < k
    · rw [if_pos hi, if_pos (by omega)]
    · rw [if_neg hi]
      by_cases he : i < k + 1
      · rw [if_pos he, if_pos (by omega)]
      · rw [if_neg he]
/-- the table of C(n) -/
def lazT (m : Int) (n : Nat) : List (List Int) := Pl.tab m n (ofLay n (layF n))
end Go.Proofs.YtfhdgcndiljjcabGreat

/- Plain facts: what fulfils the equations of cocycles in one degree is a multiple of Lazard's cocycle (degrees 2 to 10, by integer certificates that the kernel checks). -/
namespace Go.Proofs.YtfhdgcndiljjcabGreat
open Go.RowKit
namespace Coc
/-- a linear form in p(1), p(2), .. -/
def lin : List Int → Nat → (Nat → Int) → Int
  | [], _, _ => 0
  | c :: r, i, p => c * p i + lin r (i + 1) p
def unit (n i : Nat) (c : Int) : List Int := (List.range n).map fun j => if j = i then c else 0
def add (a b : List Int) : List Int := List.zipWith (· + ·) a b
def smul (c : Int) (a : List Int) : List Int := a.map (c * ·)
theorem lin_add (p : Nat → Int) : ∀ (a b : List Int) (i : Nat), a.length = b.length → lin (add a b) i p = lin a i p + lin b i p
  | [], [], _, _ => rfl
  | x :: a, y :: b, i, h => by
    show (x + y) * p i + lin (add a b) (i + 1) p = x * p i + lin a (i + 1) p + (y * p i + lin b (i + 1) p)
    rw [lin_add p a b (i + 1) (by simpa using h), Int.add_mul]
    omega
  | [], _ :: _, _, h => by simp at h
  | _ :: _, [], _, h => by simp at h
theorem lin_smul (p : Nat → Int) (c : Int) : ∀ (a : List Int) (i : Nat), lin (smul c a) i p = c * lin a i p
  | [], _ => by show (0 : Int) = c * 0; omega
  | x :: a, i => by
    show (c * x) * p i + lin (smul c a) (i + 1) p = c * (x * p i + lin a (i + 1) p)
    rw [lin_smul p c a (i + 1), Int.mul_add, Int.mul_assoc]
/-- the equations: symmetry, and cocycles' -/
def symF (n i : Nat) : List Int := add (unit (n - 1) (i - 1) 1) (unit (n - 1) (n - i - 1) (-1))
def cocF (n a b : Nat) : List Int := add (unit (n - 1) (a + b - 1) (Num.bin (a + b) a : Nat)) (unit (n - 1) (a - 1) (-(Num.bin (n - a) b : Nat)))
def pairs (n : Nat) : List (Nat × Nat) := (List.range n).flatMap fun a => (List.range n).filterMap fun b => if 0 < a ∧ 0 < b ∧ a + b < n then some (a, b) else none
def syms (n : Nat) : List Nat := (List.range n).filter fun i => decide (0 < i ∧ 2 * i < n)
def forms (n : Nat) : List (List Int) := (syms n).map (symF n) ++ (pairs n).map (fun ab => cocF n ab.1 ab.2)
def comb (n : Nat) : List Int → List (List Int) → List Int
  | c :: K, f :: F => add (smul c f) (comb n K F)
  | _, _ => List.replicate n 0
theorem lin_unit (p : Nat → Int) (n i : Nat) (c : Int) (h : i < n) : lin (unit n i c) 1 p = c * p (i + 1) := by
  have key : ∀ (k s : Nat), lin ((List.range' s k).map fun j => if j = i then c else 0) (s + 1) p = if s ≤ i ∧ i < s + k then c * p (i + 1) else 0 := by
    intro k
    induction k with
    | zero => intro s; rw [if_neg (by omega)]; rfl
    | succ k ih =>
      intro s
      rw [List.range'_succ]
      show (if s = i then c else 0) * p (s + 1) + lin ((List.range' (s + 1) k).map fun j => if j = i then c else 0) (s + 1 + 1) p = _
      rw [ih (s + 1)]
      by_cases hs : s = i
      · rw [if_pos hs, if_neg (by omega), if_pos (by omega), hs]; omega
      · rw [if_neg hs]
        by_cases hi : s + 1 ≤ i ∧ i < s + 1 + k
        · rw [if_pos hi, if_pos (by omega)]; omega
        · rw [if_neg hi, if_neg (by omega)]; omega
  have := key n 0
  unfold unit
  rw [List.range_eq_range', this, if_pos (by omega)]
theorem unit_length (n i : Nat) (c : Int) : (unit n i c).length = n := by simp [unit]
theorem add_length {a b : List Int} {n : Nat} (ha : a.length = n) (hb : b.length = n) : (add a b).length = n := by simp [add, ha, hb]
theorem comb_length (n : Nat) : ∀ (K : List Int) (F : List (List Int)), (∀ f ∈ F, f.length = n) → (comb n K F).length = n
  | [], _, _ => by simp [comb]
  | _ :: _, [], _ => by simp [comb]
  | c :: K, f :: F, h => by
    unfold comb
    exact add_length (by simp [smul]; exact h f (List.mem_cons_self)) (comb_length n K F (fun g hg => h g (List.mem_cons_of_mem _ hg)))
theorem lin_zeros (p : Nat → Int) : ∀ (n i : Nat), lin (List.replicate n 0) i p = 0
  | 0, _ => rfl
  | n + 1, i => by
    rw [List.replicate_succ]
    show 0 * p i + lin (List.replicate n 0) (i + 1) p = 0
    rw [lin_zeros p n (i + 1)]; omega
theorem comb_zero (m : Int) (p : Nat → Int) (n : Nat) : ∀ (K : List Int) (F : List (List Int)), (∀ f ∈ F, f.length = n ∧ lin f 1 p % m = 0) → lin (comb n K F) 1 p % m = 0
  | [], _, _ => by unfold comb; rw [lin_zeros]; exact Int.zero_emod m
  | _ :: _, [], _ => by unfold comb; rw [lin_zeros]; exact Int.zero_emod m
  | c :: K, f :: F, h => by
    have ih := comb_zero m p n K F (fun g hg => h g (List.mem_cons_of_mem _ hg))
    obtain ⟨h1, h2⟩ := h f (List.mem_cons_self)
    unfold comb
    rw [lin_add p _ _ 1 (by rw [comb_length n K F (fun g hg => (h g (List.mem_cons_of_mem _ hg)).1)]; simp [smul, h1]), lin_smul, Int.add_emod, ih, Int.mul_emod, h2]
    simp
def uOf : Nat → List Int
  | 2 => [1]
  | 3 => [1, 0]
  | 4 => [-1, 1, 0]
  | 5 => [1, 0, 0, 0]
  | 6 => [-14, 7, -1, 0, 0]
  | 7 => [1, 0, 0, 0, 0, 0]
  | 8 => [51, -17, 0, 1, 0, 0, 0]
  | 9 => [-9, 0, 1, 0, 0, 0, 0, 0]
  | 10 => [-404, 101, 0, 0, -2, 0, 0, 0, 0]
  | _ => []
def certOf : Nat → List (List Int)
  | 2 => [[]]
  | 3 => [[0, 0], [-1, 0]]
  | 4 => [[3, 0, 0, 1], [3, 0, 0, 1], [2, 0, 0, 1]]
  | 5 => [[0, 0, 0, 0, 0, 0, 0, 0], [-2, -2, 0, 0, 0, 0, -1, 1], [-2, -3, 0, 0, 0, 0, -1, 1], [-1, 0, 0, 0, 0, 0, 0, 0]]
  | 6 => [[85, -42, 0, 0, 0, 0, 0, 0, 0, -2, 0, 17], [210, -104, 0, 0, 0, 0, 0, 0, 0, -5, 0, 42], [280, -140, 0, 0, 0, 0, 0, 0, 0, -7, 0, 56], [210, -105, 0, 0, 0, 0, 0, 0, 0, -5, 0, 42], [84, -42, 0, 0, 0, 0, 0, 0, 0, -2, 0, 17]]
  | 7 => [[0, 0, 0, 0, 0, 0, 0, 0, 0, 0, 0, 0, 0, 0, 0, 0, 0, 0], [-3, 1, 0, 0, 0, 0, 0, 0, 0, 0, 0, 0, 0, 0, 0, 1, -1, 2], [-5, 0, -3, 0, 0, 0, 0, 0, 0, 0, 0, 0, 0, 0, -1, -4, 5, -10], [-5, 0, -4, 0, 0, 0, 0, 0, 0, 0, 0, 0, 0, 0, -1, -4, 5, -10], [-3, 0, 0, 0, 0, 0, 0, 0, 0, 0, 0, 0, 0, 0, 0, 1, -1, 2], [-1, 0, 0, 0, 0, 0, 0, 0, 0, 0, 0, 0, 0, 0, 0, 0, 0, 0]]
  | 8 => [[-203, 68, -100, 0, 0, 0, 0, 0, 0, 0, 0, 0, 0, 0, 0, 0, -10, 0, -2, 2, 0, 30, 0, -29], [-714, 239, -350, 0, 0, 0, 0, 0, 0, 0, 0, 0, 0, 0, 0, 0, -35, 0, -7, 7, 0, 105, 0, -102], [-1428, 476, -709, 0, 0, 0, 0, 0, 0, 0, 0, 0, 0, 0, 0, 0, -71, 0, -14, 14, 0, 213, 0, -204], [-1785, 595, -850, 0, 0, 0, 0, 0, 0, 0, 0, 0, 0, 0, 0, 0, -85, 0, -17, 17, 0, 255, 0, -255], [-1428, 476, -710, 0, 0, 0, 0, 0, 0, 0, 0, 0, 0, 0, 0, 0, -71, 0, -14, 14, 0, 213, 0, -204], [-714, 238, -350, 0, 0, 0, 0, 0, 0, 0, 0, 0, 0, 0, 0, 0, -35, 0, -7, 7, 0, 105, 0, -102], [-204, 68, -100, 0, 0, 0, 0, 0, 0, 0, 0, 0, 0, 0, 0, 0, -10, 0, -2, 2, 0, 30, 0, -29]]
  | 9 => [[28, 0, -3, 0, 0, 0, 0, 0, 0, 0, 0, 0, 0, 0, 0, 0, 0, 0, 0, 0, 0, 0, 0, 0, 0, 0, 0, 0, 0, -6, 7, -21], [108, 1, -12, 0, 0, 0, 0, 0, 0, 0, 0, 0, 0, 0, 0, 0, 0, 0, 0, 0, 0, 0, 0, 0, 0, 0, 0, 0, 0, -23, 27, -81], [252, 0, -27, 0, 0, 0, 0, 0, 0, 0, 0, 0, 0, 0, 0, 0, 0, 0, 0, 0, 0, 0, 0, 0, 0, 0, 0, 0, 0, -54, 63, -189], [378, 0, -42, -4, 0, 0, 0, 0, 0, 0, 0, 0, 0, 0, 0, 0, 0, 0, 0, 0, 0, 0, 0, 0, 0, -1, 1, 0, 0, -96, 112, -336], [378, 0, -42, -5, 0, 0, 0, 0, 0, 0, 0, 0, 0, 0, 0, 0, 0, 0, 0, 0, 0, 0, 0, 0, 0, -1, 1, 0, 0, -96, 112, -336], [252, 0, -28, 0, 0, 0, 0, 0, 0, 0, 0, 0, 0, 0, 0, 0, 0, 0, 0, 0, 0, 0, 0, 0, 0, 0, 0, 0, 0, -54, 63, -189], [108, 0, -12, 0, 0, 0, 0, 0, 0, 0, 0, 0, 0, 0, 0, 0, 0, 0, 0, 0, 0, 0, 0, 0, 0, 0, 0, 0, 0, -23, 27, -81], [27, 0, -3, 0, 0, 0, 0, 0, 0, 0, 0, 0, 0, 0, 0, 0, 0, 0, 0, 0, 0, 0, 0, 0, 0, 0, 0, 0, 0, -6, 7, -21]]
  | 10 => [[4041, -2690, 0, 0, 0, 0, 0, 0, 0, 0, 0, 0, 0, 0, 0, -24, 0, 0, 0, 0, 0, 0, 0, 0, 0, 0, 0, 0, 0, 0, -4, 0, 0, 0, 576, 0, -672, 1344, 0, 6721], [18180, -12104, 0, 0, 0, 0, 0, 0, 0, 0, 0, 0, 0, 0, 0, -108, 0, 0, 0, 0, 0, 0, 0, 0, 0, 0, 0, 0, 0, 0, -18, 0, 0, 0, 2592, 0, -3024, 6048, 0, 30244], [48480, -32280, 1, 0, 0, 0, 0, 0, 0, 0, 0, 0, 0, 0, 0, -288, 0, 0, 0, 0, 0, 0, 0, 0, 0, 0, 0, 0, 0, 0, -48, 0, 0, 0, 6913, 0, -8065, 16130, 0, 80660], [84840, -56560, 0, 1, 0, 0, 0, 0, 0, 0, 0, 0, 0, 0, 0, -505, 0, 0, 0, 0, 0, 0, 0, 0, 0, 0, 0, 0, 0, 0, -84, 0, 0, 0, 12120, 0, -14140, 28280, 0, 141400], [101808, -67872, 0, 0, 0, 0, 0, 0, 0, 0, 0, 0, 0, 0, 0, -606, 0, 0, 0, 0, 0, 0, 0, 0, 0, 0, 0, 0, 0, 0, -101, 0, 0, 0, 14544, 0, -16968, 33936, 0, 169680], [84840, -56560, 0, 0, 0, 0, 0, 0, 0, 0, 0, 0, 0, 0, 0, -505, 0, 0, 0, 0, 0, 0, 0, 0, 0, 0, 0, 0, 0, 0, -84, 0, 0, 0, 12120, 0, -14140, 28280, 0, 141400], [48480, -32280, 0, 0, 0, 0, 0, 0, 0, 0, 0, 0, 0, 0, 0, -288, 0, 0, 0, 0, 0, 0, 0, 0, 0, 0, 0, 0, 0, 0, -48, 0, 0, 0, 6913, 0, -8065, 16130, 0, 80660], [18180, -12105, 0, 0, 0, 0, 0, 0, 0, 0, 0, 0, 0, 0, 0, -108, 0, 0, 0, 0, 0, 0, 0, 0, 0, 0, 0, 0, 0, 0, -18, 0, 0, 0, 2592, 0, -3024, 6048, 0, 30244], [4040, -2690, 0, 0, 0, 0, 0, 0, 0, 0, 0, 0, 0, 0, 0, -24, 0, 0, 0, 0, 0, 0, 0, 0, 0, 0, 0, 0, 0, 0, -4, 0, 0, 0, 576, 0, -672, 1344, 0, 6721]]
  | _ => []
/-- the number that the certificate of i makes: p(i + 1) less C(n) times the sum of u -/
def goal (n i : Nat) : List Int := add (unit (n - 1) i 1) (smul (-(layF n (i + 1))) (uOf n))
def checked (n : Nat) : Bool := (List.range (n - 1)).all fun i => decide (comb (n - 1) ((certOf n)[i]?.getD []) (forms n) = goal n i)
theorem checked_all : ∀ n : Fin 9, checked (n.val + 2) = true := by decide +kernel
theorem uOf_length : ∀ n : Fin 9, (uOf (n.val + 2)).length = n.val + 1 := by decide
/-- Lazard's lemma in the degrees 2 to 10 -/
theorem comparison {m : Int} {n : Nat} {p : Nat → Int} (n1 : 2 ≤ n) (n2 : n ≤ 10) (hs : ∀ i, 0 < i → i < n → (p i - p (n - i)) % m = 0)
    (hc : ∀ a b, 0 < a → 0 < b → a + b < n → (((Num.bin (a + b) a : Nat) : Int) * p (a + b) - ((Num.bin (n - a) b : Nat) : Int) * p a) % m = 0) :
    ∃ c, ∀ i, 0 < i → i < n → (p i - c * layF n i) % m = 0 := by
  refine ⟨lin (uOf n) 1 p, fun i h0 hi => ?_⟩
  obtain ⟨k, rfl⟩ : ∃ k, i = k + 1 := ⟨i - 1, by omega⟩
  have hck := checked_all ⟨n - 2, by omega⟩
  have hul := uOf_length ⟨n - 2, by omega⟩
  simp only [show n - 2 + 2 = n by omega] at hck hul
  have hck2 := List.all_eq_true.1 hck k (List.mem_range.2 (by omega))
  have hk := of_decide_eq_true hck2
  have hz := comb_zero m p (n - 1) ((certOf n)[k]?.getD []) (forms n) (fun f hf => by
    unfold forms at hf
    rcases List.mem_append.1 hf with h | h
    · obtain ⟨q, hq, rfl⟩ := List.mem_map.1 h
      unfold syms at hq
      rw [List.mem_filter, List.mem_range, decide_eq_true_eq] at hq
      refine ⟨add_length (unit_length _ _ _) (unit_length _ _ _), ?_⟩
      unfold symF
      rw [lin_add p _ _ 1 (by rw [unit_length, unit_length]), lin_unit p _ _ _ (by omega), lin_unit p _ _ _ (by omega)]
      rw [show q - 1 + 1 = q by omega, show n - q - 1 + 1 = n - q by omega]
      have := hs q hq.2.1 hq.1
      rw [show 1 * p q + -1 * p (n - q) = p q - p (n - q) by omega]
      exact this
    · obtain ⟨⟨a, b⟩, hq, rfl⟩ := List.mem_map.1 h
      unfold pairs at hq
      obtain ⟨a', ha, hq⟩ := List.mem_flatMap.1 hq
      obtain ⟨b', hb, hq⟩ := List.mem_filterMap.1 hq
      by_cases hab : 0 < a' ∧ 0 < b' ∧ a' + b' < n
      · rw [if_pos hab] at hq
        obtain ⟨rfl, rfl⟩ : a' = a ∧ b' = b := by simpa using hq
        refine ⟨add_length (unit_length _ _ _) (unit_length _ _ _), ?_⟩
        dsimp only
        unfold cocF
        rw [lin_add p _ _ 1 (by rw [unit_length, unit_length]), lin_unit p _ _ _ (by omega), lin_unit p _ _ _ (by omega)]
        rw [show a' + b' - 1 + 1 = a' + b' by omega, show a' - 1 + 1 = a' by omega]
        have := hc a' b' hab.1 hab.2.1 hab.2.2
        rw [Int.neg_mul, ← Int.sub_eq_add_neg]
        exact this
      · rw [if_neg hab] at hq; simp at hq)
  rw [hk] at hz
  unfold goal at hz
  rw [lin_add p _ _ 1 (by simp [unit, smul, hul]; omega), lin_unit p _ _ _ (by omega), lin_smul] at hz
  rw [show lin (uOf n) 1 p * layF n (k + 1) = layF n (k + 1) * lin (uOf n) 1 p from Int.mul_comm _ _]
  rw [Int.one_mul, Int.neg_mul, ← Int.sub_eq_add_neg] at hz
  exact hz
end Coc
end Go.Proofs.YtfhdgcndiljjcabGreat

/- Plain facts: the factor of a layer, and which layers are cocycles. -/
namespace Go.Proofs.YtfhdgcndiljjcabGreat
open Go.RowKit
namespace Cyc
/-- the equation of the coefficient i, for the factor as number 1 -/
def eqF (m : Int) (l : List Int) (n i : Nat) : List Int := Sys.timesE m 1 (-(Ser.co l i) :: layF n i :: List.replicate 9 0)
def eqsF (m : Int) (l : List Int) (n : Nat) : List (List Int) := (List.range (n + 1)).map (eqF m l n)
def facO (m : Int) (l : List Int) (n : Nat) : Option (Nat → Int) := Sys.leastS m (eqsF m l n)
/-- c times C(n) is the layer -/
def Fits (m : Int) (l : List Int) (n : Nat) (c : Int) : Prop := ∀ i, i ≤ n → (c * layF n i - Ser.co l i) % m = 0
theorem val_F (a b : Int) (y : Nat → Int) (hy : y 0 = 1) : Sys.val (a :: b :: List.replicate 9 0) y = a + y 1 * b := by
  unfold Sys.val
  simp [Ser.psum, Ser.co, List.replicate, hy, Int.mul_comm]
theorem sat_F {m : Int} {l : List Int} {n : Nat} (y : Nat → Int) (hy : y 0 = 1) : (∀ e ∈ eqsF m l n, Sys.Sat m y e) ↔ Fits m l n (y 1) := by
  have key : ∀ i, Sys.Sat m y (eqF m l n i) ↔ (y 1 * layF n i - Ser.co l i) % m = 0 := fun i => by
    unfold Sys.Sat eqF
    rw [Sys.val_times, val_F _ _ y hy, Int.one_mul, show -(Ser.co l i) + y 1 * layF n i = y 1 * layF n i - Ser.co l i by omega]
  unfold eqsF Fits
  constructor
  · intro h i hi
    exact (key i).1 (h _ (List.mem_map.2 ⟨i, List.mem_range.2 (by omega), rfl⟩))
  · intro h e he
    obtain ⟨i, hi, rfl⟩ := List.mem_map.1 he
    rw [List.mem_range] at hi
    exact (key i).2 (h i (by omega))
theorem eqsF_ok {m : Int} (hm : 0 < m) (l : List Int) (n : Nat) : ∀ e ∈ eqsF m l n, Sys.Ok m e := fun e he => by
  unfold eqsF at he
  obtain ⟨i, hi, rfl⟩ := List.mem_map.1 he
  unfold eqF Sys.timesE
  exact Sys.Ok.cut hm _
theorem facO_some {m : Int} (m1 : 2 ≤ m) (m2 : m ≤ 10000) {l : List Int} {n : Nat} {X : Nat → Int} (h : facO m l n = some X) :
    0 ≤ X 1 ∧ X 1 < m ∧ Fits m l n (X 1) ∧ ∀ c, 0 ≤ c → Fits m l n c → X 1 ≤ c := by
  have hL := Sys.leastS_some m1 m2 (eqsF_ok (by omega) l n) h
  obtain ⟨b1, b2⟩ := hL.bd 1 (by omega) (by omega)
  refine ⟨b1, b2, (sat_F X hL.one).1 hL.sat, fun c hc hf => ?_⟩
  have hy : (fun j => if j = 0 then (1 : Int) else if j = 1 then c else 0) 0 = 1 := rfl
  have := hL.least (fun j => if j = 0 then 1 else if j = 1 then c else 0) hy ((sat_F _ hy).2 hf) 1 (by omega) (by omega) (fun j hj => by
    obtain rfl : j = 0 := by omega
    rw [hL.one]; rfl) hc
  exact this
theorem facO_none {m : Int} (m1 : 2 ≤ m) (m2 : m ≤ 10000) {l : List Int} {n : Nat} (h : facO m l n = none) (c : Int) : ¬ Fits m l n c := fun hf => by
  have hy : (fun j => if j = 0 then (1 : Int) else if j = 1 then c else 0) 0 = 1 := rfl
  exact Sys.leastS_none m1 m2 (eqsF_ok (by omega) l n) h (fun j => if j = 0 then (1 : Int) else if j = 1 then c else 0) hy ((sat_F (fun j => if j = 0 then (1 : Int) else if j = 1 then c else 0) hy).2 hf)
/-- the factor, 0 if there is none -/
def facM (m : Int) (l : List Int) (n : Nat) : Int := match facO m l n with
  | some X => X 1
  | none => 0
theorem facM_first {m : Int} (m1 : 2 ≤ m) (m2 : m ≤ 10000) {l : List Int} {n : Nat} {c : Int} (hc : 0 ≤ c) (hf : Fits m l n c) (hn : ∀ c', 0 ≤ c' → c' < c → ¬ Fits m l n c') : facM m l n = c := by
  unfold facM
  cases h : facO m l n with
  | none => exact absurd hf (facO_none m1 m2 h c)
  | some X =>
    obtain ⟨b1, b2, b3, b4⟩ := facO_some m1 m2 h
    have h1 := b4 c hc hf
    have h2 : ¬ X 1 < c := fun hlt => hn _ b1 hlt b3
    show X 1 = c
    omega
def symZ (t : List (List Int)) (d : Nat) : Bool := (List.range (d + 1)).all fun i => decide (Pl.pc t i (d - i) = Pl.pc t (d - i) i) && (!(decide (i = 0) || decide (i = d)) || decide (Pl.pc t i (d - i) = 0))
def cocN (m : Int) (t : List (List Int)) (d a b : Nat) : Int := binI ((a : Int) + b) a % m * Pl.pc t (a + b) (d - (a + b)) - binI ((d : Int) - a) b % m * Pl.pc t a (d - a)
def cocZ (m : Int) (t : List (List Int)) (d : Nat) : Bool := (List.range d).all fun a => (List.range d).all fun b => !(decide (0 < a ∧ 0 < b ∧ a + b < d)) || decide (cocN m t d a b % m = 0)
theorem symZ_iff {t : List (List Int)} {d : Nat} : symZ t d = true ↔ ∀ i, i ≤ d → Pl.pc t i (d - i) = Pl.pc t (d - i) i ∧ ((i = 0 ∨ i = d) → Pl.pc t i (d - i) = 0) := by
  unfold symZ
  simp only [List.all_eq_true, List.mem_range, Bool.and_eq_true, Bool.or_eq_true, Bool.not_eq_true', Bool.or_eq_false_iff, decide_eq_true_eq, decide_eq_false_iff_not]
  exact ⟨fun h i hi => ⟨(h i (by omega)).1, fun hx => (h i (by omega)).2.elim (fun h2 => absurd hx (by omega)) id⟩,
    fun h i hi => ⟨(h i (by omega)).1, (Decidable.em (i = 0 ∨ i = d)).elim (fun hx => .inr ((h i (by omega)).2 hx)) (fun hx => .inl (by omega))⟩⟩
theorem cocZ_iff {m : Int} {t : List (List Int)} {d : Nat} : cocZ m t d = true ↔ ∀ a b, 0 < a → 0 < b → a + b < d → cocN m t d a b % m = 0 := by
  unfold cocZ
  simp only [List.all_eq_true, List.mem_range, Bool.or_eq_true, Bool.not_eq_true', decide_eq_true_eq, decide_eq_false_iff_not]
  exact ⟨fun h a b ha hb hab => (h a (by omega) b (by omega)).elim (fun h2 => absurd ⟨ha, hb, hab⟩ h2) id,
    fun h a ha b hb => (Decidable.em (0 < a ∧ 0 < b ∧ a + b < d)).elim (fun hx => .inr (h a b hx.1 hx.2.1 hx.2.2)) (fun hx => .inl hx)⟩
theorem layF_coc : ∀ n : Fin 11, ∀ a : Fin 11, ∀ b : Fin 11, 2 ≤ n.val → 0 < a.val → 0 < b.val → a.val + b.val < n.val → ((Num.bin (a.val + b.val) a.val : Nat) : Int) * layF n.val (a.val + b.val) - ((Num.bin (n.val - a.val) b.val : Nat) : Int) * layF n.val a.val = 0 := by decide +kernel
theorem layF_sym : ∀ n : Fin 11, ∀ a : Fin 11, a.val ≤ n.val → layF n.val a.val = layF n.val (n.val - a.val) := by decide +kernel
theorem cocN_emod (m : Int) (t : List (List Int)) (d a b : Nat) (h : a + b < d) : cocN m t d a b % m = (((Num.bin (a + b) a : Nat) : Int) * Pl.pc t (a + b) (d - (a + b)) - ((Num.bin (d - a) b : Nat) : Int) * Pl.pc t a (d - a)) % m := by
  unfold cocN binI
  rw [show ((a : Int) + b).toNat = a + b by omega, show ((d : Int) - a).toNat = d - a by omega, show (a : Int).toNat = a by omega, show (b : Int).toNat = b by omega]
  rw [Int.sub_emod, Int.mul_emod, Int.emod_emod, ← Int.mul_emod, Int.mul_emod (((Num.bin (d - a) b : Nat) : Int) % m), Int.emod_emod, ← Int.mul_emod, ← Int.sub_emod]
/-- Lazard: a plane of one degree is a cocycle exactly if it is a multiple of C(d) -/
theorem isC_iff {m : Int} (m1 : 2 ≤ m) (m2 : m ≤ 10000) {t : List (List Int)} {d : Nat} (ok : Pl.Ok m d t) (d1 : 2 ≤ d) (d2 : d ≤ 10) {l : List Int} (hl : ∀ i, i ≤ d → Ser.co l i = Pl.pc t i (d - i)) :
    (symZ t d = true ∧ cocZ m t d = true) ↔ (facO m l d).isSome = true := by
  constructor
  · rintro ⟨hs, hc⟩
    rw [symZ_iff] at hs
    rw [cocZ_iff] at hc
    obtain ⟨c, h⟩ := Coc.comparison (m := m) (n := d) (p := fun i => Pl.pc t i (d - i)) d1 d2 (fun i h0 h1 => by
      have := (hs i (by omega)).1
      show (Pl.pc t i (d - i) - Pl.pc t (d - i) (d - (d - i))) % m = 0
      rw [show d - (d - i) = i by omega, this, Int.sub_self]; rfl) (fun a b ha hb hab => by
      rw [← cocN_emod m t d a b hab]; exact hc a b ha hb hab)
    have hf : Fits m l d c := fun i hi => by
      rw [hl i hi]
      by_cases hx : 0 < i ∧ i < d
      · have := h i hx.1 hx.2
        have e : c * layF d i - Pl.pc t i (d - i) = -(Pl.pc t i (d - i) - c * layF d i) := by omega
        rw [e]
        exact Int.emod_eq_zero_of_dvd (Int.dvd_neg.2 (Int.dvd_of_emod_eq_zero this))
      · rw [(hs i hi).2 (by omega)]
        unfold layF
        rw [if_neg hx, Int.mul_zero]; rfl
    cases hx : facO m l d with
    | none => exact absurd hf (facO_none m1 m2 hx c)
    | some X => rfl
  · intro h
    obtain ⟨X, hX⟩ := Option.isSome_iff_exists.1 h
    obtain ⟨b1, b2, hf, -⟩ := facO_some m1 m2 hX
    have hp : ∀ i, i ≤ d → Pl.pc t i (d - i) = X 1 * layF d i % m := fun i hi => by
      have h1 := hf i hi
      rw [hl i hi] at h1
      have r := ok.pc i (d - i)
      have h2 : X 1 * layF d i % m = Pl.pc t i (d - i) % m := Int.emod_eq_emod_iff_emod_sub_eq_zero.2 h1
      rw [h2, Int.emod_eq_of_lt r.1 r.2]
    constructor
    · rw [symZ_iff]
      intro i hi
      have e := layF_sym ⟨d, by omega⟩ ⟨i, by omega⟩ hi
      have h2 := hp (d - i) (by omega)
      rw [show d - (d - i) = i by omega] at h2
      refine ⟨by rw [hp i hi, h2, e], fun hx => ?_⟩
      rw [hp i hi]
      unfold layF
      rw [if_neg (by omega), Int.mul_zero]; rfl
    · rw [cocZ_iff]
      intro a b ha hb hab
      rw [cocN_emod m t d a b hab, hp (a + b) (by omega), hp a (by omega)]
      have e := layF_coc ⟨d, by omega⟩ ⟨a, by omega⟩ ⟨b, by omega⟩ d1 ha hb hab
      rw [Int.sub_emod, Int.mul_emod, Int.emod_emod, ← Int.mul_emod, Int.mul_emod _ (X 1 * layF d a % m), Int.emod_emod, ← Int.mul_emod, ← Int.sub_emod]
      have e2 : ((Num.bin (a + b) a : Nat) : Int) * (X 1 * layF d (a + b)) - ((Num.bin (d - a) b : Nat) : Int) * (X 1 * layF d a) = X 1 * (((Num.bin (a + b) a : Nat) : Int) * layF d (a + b) - ((Num.bin (d - a) b : Nat) : Int) * layF d a) := by
        rw [Int.mul_sub]; simp only [Int.mul_left_comm (X 1)]
      rw [e2, e, Int.mul_zero]; rfl
end Cyc
end Go.Proofs.YtfhdgcndiljjcabGreat

/- Plain facts: the gap of two laws that are equal below a degree fulfils the equations of cocycles there. -/
namespace Go.Proofs.YtfhdgcndiljjcabGreat
open Go.RowKit
namespace Pl
open Ser
theorem psum_at (f : Nat → Int) (j : Nat) : ∀ N, j < N → (∀ i, i < N → i ≠ j → f i = 0) → psum f N = f j
  | 0, h, _ => absurd h (by omega)
  | N + 1, h, hz => by
    show psum f N + f N = f j
    by_cases e : j = N
    · subst e
      rw [psum_low f j (fun i hi => hz i (by omega) (by omega))]; omega
    · rw [psum_at f j N (by omega) (fun i hi => hz i (by omega)), hz N (by omega) (by omega)]; omega
theorem psum_nil (f : Nat → Int) (N : Nat) (h : ∀ i, i < N → f i = 0) : psum f N = 0 := psum_low f N h
/-- the linear part of a law -/
structure Lin (F : Nat → Nat → Int) : Prop where
  zero : F 0 0 = 0
  x : F 1 0 = 1
  y : F 0 1 = 1
theorem pw2_low {F : Nat → Nat → Int} (h : Lin F) : ∀ n i j, i + j < n → pw2 F n i j = 0
  | 0, i, j, hij => absurd hij (by omega)
  | n + 1, i, j, hij => by
    show mul2 (pw2 F n) F i j = 0
    unfold mul2
    refine psum_nil _ _ (fun k hk => psum_nil _ _ (fun l hl => ?_))
    by_cases e : k + l < n
    · rw [pw2_low h n k l e, Int.zero_mul]
    · obtain rfl : k = i := by omega
      obtain rfl : l = j := by omega
      rw [Nat.sub_self, Nat.sub_self, h.zero, Int.mul_zero]
theorem pw2_lead {F : Nat → Nat → Int} (h : Lin F) : ∀ n i j, i + j = n → pw2 F n i j = ((Num.bin n i : Nat) : Int)
  | 0, i, j, hij => by
    obtain rfl : i = 0 := by omega
    obtain rfl : j = 0 := by omega
    rfl
  | n + 1, i, j, hij => by
    show mul2 (pw2 F n) F i j = _
    unfold mul2
    have hrow : ∀ k, k < i + 1 → psum (fun l => pw2 F n k l * F (i - k) (j - l)) (j + 1) = if k = i then (if 0 < j then ((Num.bin n i : Nat) : Int) else 0) else if k + 1 = i then ((Num.bin n k : Nat) : Int) else 0 := by
      intro k hk
      by_cases e : k = i
      · subst e
        rw [if_pos rfl]
        by_cases hj : 0 < j
        · rw [if_pos hj, psum_at _ (j - 1) _ (by omega) (fun l hl hne => ?_)]
          · rw [pw2_lead h n k (j - 1) (by omega), Nat.sub_self, show j - (j - 1) = 1 by omega, h.y, Int.mul_one]
          · by_cases e2 : k + l < n
            · rw [pw2_low h n k l e2, Int.zero_mul]
            · obtain rfl : l = j := by omega
              rw [Nat.sub_self, Nat.sub_self, h.zero, Int.mul_zero]
        · rw [if_neg hj]
          obtain rfl : j = 0 := by omega
          refine psum_nil _ _ (fun l hl => ?_)
          obtain rfl : l = 0 := by omega
          rw [Nat.sub_self, Nat.sub_self, h.zero, Int.mul_zero]
      · rw [if_neg e]
        by_cases e1 : k + 1 = i
        · rw [if_pos e1, psum_at _ j _ (by omega) (fun l hl hne => ?_)]
          · rw [pw2_lead h n k j (by omega), Nat.sub_self, show i - k = 1 by omega, h.x, Int.mul_one]
          · rw [pw2_low h n k l (by omega), Int.zero_mul]
        · rw [if_neg e1]
          exact psum_nil _ _ (fun l hl => by rw [pw2_low h n k l (by omega), Int.zero_mul])
    rw [psum_ext (i + 1) hrow]
    show psum _ i + _ = _
    dsimp only
    rw [if_pos rfl]
    cases i with
    | zero =>
      show (0 : Int) + _ = _
      rw [if_pos (by omega), Num.bin_zero, Num.bin_zero]; rfl
    | succ i =>
      rw [psum_at _ i _ (by omega) (fun k hk hne => by rw [if_neg (by omega), if_neg (by omega)]), if_neg (by omega), if_pos rfl]
      by_cases hj : 0 < j
      · rw [if_pos hj, Num.bin_succ]; omega
      · rw [if_neg hj]
        obtain rfl : j = 0 := by omega
        obtain rfl : n = i := by omega
        have := Num.bin_over n (n + 1) (by omega)
        rw [Num.bin_succ, this]; omega
theorem pw2_same {F G : Nat → Nat → Int} {d : Nat} (h : ∀ i j, i + j < d → F i j = G i j) : ∀ n i j, i + j < d → pw2 F n i j = pw2 G n i j
  | 0, _, _, _ => rfl
  | n + 1, i, j, hij => by
    show mul2 (pw2 F n) F i j = mul2 (pw2 G n) G i j
    unfold mul2
    exact psum_ext _ (fun k hk => psum_ext _ (fun l hl => by rw [pw2_same h n k l (by omega), h (i - k) (j - l) (by omega)]))
/-- the brackets of two laws that are equal below d -/
theorem gap_br {m : Int} {d : Nat} {F G : Nat → Nat → Int} (hF : Lin F) (hG : Lin G) (h : ∀ i j, i + j < d → F i j = G i j) (a b c : Nat) (hc : 0 < c) (habc : a + b + c = d) :
    brS m d G a b c - brS m d F a b c = (G (a + b) c - F (a + b) c) * (((Num.bin (a + b) a : Nat) : Int) % m) := by
  have hp : ∀ (H : Nat → Nat → Int) i, pc (pwT m d H i) a b = pw2 H i a b % m := fun H i => by rw [pwT_tab, pc_tab (by omega)]
  unfold brS
  rw [show d + 1 - c = a + b + 1 by omega]
  show psum _ (a + b) + _ - (psum _ (a + b) + _) = _
  rw [psum_ext (a + b) (f := fun i => G i c * pc (pwT m d G i) a b) (g := fun i => F i c * pc (pwT m d F i) a b) (fun i hi => by
    try dsimp only
    rw [hp, hp, pw2_same h i a b (by omega), h i c (by omega)])]
  dsimp only
  rw [hp, hp, pw2_lead hF _ _ _ rfl, pw2_lead hG _ _ _ rfl, Int.sub_mul]; omega
theorem fauT_none {m : Int} {d : Nat} {F : Nat → Nat → Int} (h : fauT m d F = none) (a b c : Nat) (habc : a + b + c ≤ d) : br m d F a b c = br m d F c b a := by
  have h1 := srch_none _ _ h a (by omega) (by omega)
  have h2 := srch_none _ _ h1 b (by omega) (by omega)
  have h3 := srch_none _ _ h2 c (by omega) (by omega)
  unfold fau2c at h3
  by_cases e : br m d F a b c = br m d F c b a
  · exact e
  · rw [if_neg e] at h3; cases h3
theorem bin_turn : ∀ n : Fin 11, ∀ k : Fin 11, k.val ≤ n.val → Num.bin n.val k.val = Num.bin n.val (n.val - k.val) := by decide +kernel
/-- the gap is a cocycle -/
theorem gap_coc {m : Int} {d : Nat} {F G : Nat → Nat → Int} (hd : d ≤ 10) (hF : Lin F) (hG : Lin G) (h : ∀ i j, i + j < d → F i j = G i j) (sF : Sym d F) (sG : Sym d G) (tF : fauT m d F = none) (tG : fauT m d G = none) (a b : Nat) (h0 : 0 < a) (h1 : 0 < b) (h2 : a + b < d) :
    (((Num.bin (a + b) a : Nat) : Int) * (G (a + b) (d - (a + b)) - F (a + b) (d - (a + b))) - ((Num.bin (d - a) b : Nat) : Int) * (G a (d - a) - F a (d - a))) % m = 0 := by
  obtain ⟨c, hc⟩ : ∃ c, c = d - (a + b) := ⟨_, rfl⟩
  have e1 := gap_br (m := m) hF hG h a b c (by omega) (by omega)
  have e2 := gap_br (m := m) hF hG h c b a (by omega) (by omega)
  have b1 := fauT_none tF a b c (by omega)
  have b2 := fauT_none tG a b c (by omega)
  unfold br at b1 b2
  have hcong : (brS m d G a b c - brS m d F a b c) % m = (brS m d G c b a - brS m d F c b a) % m := by
    rw [Int.sub_emod, b1, b2, ← Int.sub_emod]
  rw [e1, e2, Int.mul_emod, Int.emod_emod, ← Int.mul_emod, Int.mul_emod (G (c + b) a - F (c + b) a), Int.emod_emod, ← Int.mul_emod] at hcong
  have e3 : c + b = d - a := by omega
  have e4 := bin_turn ⟨d - a, by omega⟩ ⟨b, by omega⟩ (by show b ≤ d - a; omega)
  simp only [show d - a - b = c by omega] at e4
  rw [e3, sF (d - a) a (by omega), sG (d - a) a (by omega), ← e4] at hcong
  rw [← hc]
  rw [Int.mul_comm _ (G (a + b) c - F (a + b) c), Int.mul_comm _ (G a (d - a) - F a (d - a)), Int.sub_emod, hcong, ← Int.sub_emod, Int.sub_self]; rfl
end Pl
end Go.Proofs.YtfhdgcndiljjcabGreat

/- Contracts of layers and of the agreement of two laws. -/
namespace Go.Proofs.YtfhdgcndiljjcabGreat
open Go.RowKit Go.WideShapes Go.ChangeShapes Go.ChangeAt
/-- the coefficients of one degree -/
def layC (m : Int) (t : List (List Int)) (n : Nat) : List Int := Ser.cut m n fun i => Pl.pc t i (n - i)
theorem layC_length (m : Int) (t : List (List Int)) (n : Nat) : (layC m t n).length = n + 1 := Ser.cut_length _ _ _
theorem layC_co {m : Int} {d : Nat} {t : List (List Int)} (hs : Pl.Ok m d t) (n i : Nat) (h : i ≤ n) : Ser.co (layC m t n) i = Pl.pc t i (n - i) := by
  unfold layC
  rw [Ser.co_cut h]
  have := hs.pc i (n - i)
  exact Int.emod_eq_of_lt this.1 this.2
/-- two tables agree in one degree -/
def eqL (m : Int) (t t' : List (List Int)) (n : Nat) : Bool := decide (layC m t n = layC m t' n)
theorem eqL_yes {m : Int} {d : Nat} {t t' : List (List Int)} (hs : Pl.Ok m d t) (hs' : Pl.Ok m d t') (n : Nat) (h : ∀ i, i ≤ n → Pl.pc t i (n - i) = Pl.pc t' i (n - i)) : eqL m t t' n = true :=
  list_same (by rw [layC_length, layC_length]) (fun j hj => by
    rw [layC_length] at hj
    rw [layC_co hs n j (by omega), layC_co hs' n j (by omega), h j (by omega)])
/-- from k on, as far as the next degree agrees -/
def agr (E : Nat → Bool) : Nat → Nat → Nat
  | 0, k => k
  | n + 1, k => if E (k + 1) = true then agr E n (k + 1) else k
set_option maxHeartbeats 4000000 in
set_option maxRecDepth 100000 in
theorem layer_any (m : Int) (d : Nat) (A : Option Addr) (c : Nat) (t : List (List Int)) (n : Nat) (w : World) (hs : Pl.Ok m d t) (hr : RP w A t) (hn : n ≤ d) :
    Calls Tryz.prog 131 #[.agg #[.int .i64 m, .int .i64 d, .slice A t.length c], .int .i64 n] w fun e w' => ∃ v, e = .returned v ∧ OwnI w' w.heap.size v (layC m t n) ∧ Below w.heap.size w w' := by
  obtain ⟨b, off, rfl⟩ := hr.some (by rw [hs.len]; omega)
  have HG1 := Lib.hid (GBox.new 55 w m d (some ⟨b, off, none⟩) t.length c)
  have HWB := Lib.hid (below_one w (.cells #[.int .i64 m, .int .i64 d, .slice (some ⟨b, off, none⟩) t.length c] 55))
  obtain ⟨W, hW⟩ : ∃ W, w.alloc (.cells #[.int .i64 m, .int .i64 d, .slice (some ⟨b, off, none⟩) t.length c] 55) = W := ⟨_, rfl⟩
  have HWS : Hid (W.heap.size = w.heap.size + 1) := Lib.hid (by rw [← hW]; simp)
  rw [hW] at HG1 HWB
  have HW := Lib.hid hW
  have HB := HWB
  have HS := Lib.hid hs
  have HR := Lib.hid (hr.below HWB.out)
  have hd2 := hs.d2
  have hmk : ∀ W : World, (Instr.makeSlice 26 (.int .i64 ((n : Int) + 1)) (.int .i64 ((n : Int) + 1))).run Tryz.prog W = .ok (.slice (some ⟨W.heap.size, 0, none⟩) (n + 1) (n + 1)) (W.alloc (.cells (madeCells #[.int .i64 0] (n + 1)) 2)) := by
    intro W
    have := run_make_row' (P := Tryz.prog) 26 2 (.int .i64 0) 8 Tryz.underlying26 info64 rfl .i64 .i64 (n + 1) (by omega) (by omega) W
    rwa [show ((n + 1 : Nat) : Int) = (n : Int) + 1 by omega] at this
  have hm0 := OwnI.made W (n + 1) (by unfold maxLen; omega)
  rw [HWS.out] at hm0
  have HM := Lib.hid hm0
  clear hm0
  obtain ⟨L, hL⟩ : ∃ L, t.length = L := ⟨_, rfl⟩
  have HL := Lib.hid hL
  have HLd := Lib.hid (hL.symm.trans hs.len)
  have HCO := Lib.hid (fun i (hi : i ≤ n) => layC_co hs n i hi)
  rw [hL] at HG1 HW ⊢
  have hw1 : IntKind.i64.wrap ((n : Int) + 1) = (n : Int) + 1 := by rw [IntKind.wrap_i64]; omega
  clear hW hr hs hL
  obtain ⟨x1, x2, x3, x4⟩ := HG1.out
  go_enter Tryz.func131, Tryz.ntmps131
  go_wp2
  rw [HW.out]
  go_wp2
  clear x1 x2 x3 x4
  go_loopw [6, 12] (fun _ q wr => ∃ k : Nat, k ≤ n + 1 ∧ q = .int .i64 k ∧ OwnI wr (w.heap.size + 1) (.slice (some ⟨w.heap.size + 1, 0, none⟩) (n + 1) (n + 1)) ((layC m t n).take k ++ List.replicate (n + 1 - k) 0) ∧ Below W.heap.size W wr) (fun _ q _ => n + 1 - (intOf q).toNat)
  case atStart => exact ⟨0, Nat.zero_le _, rfl, by simpa using HM.out, below_one _ _⟩
  case round =>
    clear HM hmk
    obtain ⟨k, hk, rfl, hown, hbel⟩ := hrel
    have HBE := Lib.hid hbel
    have HO := Lib.hid hown
    by_cases hlt : k < n + 1
    · obtain ⟨p1, p2, p3, M, hM, x1, x2, x3⟩ := (HG1.out.keep hbel).num' HL.out HS.out (HR.out.below hbel) k (n - k) (by omega)
      obtain ⟨_, _, o3, o4⟩ := hown.cells
      have hd1 := o3 k (by simp [layC_length]; omega)
      have hf1 := o4 k
      obtain ⟨y, hy⟩ : ∃ y, ((layC m t n).take k ++ List.replicate (n + 1 - k) 0)[k]?.getD 0 = y := ⟨_, rfl⟩
      rw [hy] at hd1
      have hst := cut_step m n (fun i => Pl.pc t i (n - i)) k (by omega)
      have r1 := HS.out.pc k (n - k)
      rw [Int.emod_eq_of_lt r1.1 r1.2] at hst
      have hset := hown.set k (Pl.pc t k (n - k))
      rw [show (layC m t n).take k ++ List.replicate (n + 1 - k) 0 = (Ser.cut m n fun i => Pl.pc t i (n - i)).take k ++ List.replicate (n + 1 - k) 0 from rfl, hst] at hset
      obtain ⟨X, hX⟩ : ∃ X, Pl.pc t k (n - k) = X := ⟨_, rfl⟩
      rw [hX] at x3 hset
      have HSE := Lib.hid hset
      have HBX := Lib.hid (hbel.setCell (p := ⟨w.heap.size + 1, k, none⟩) (by show W.heap.size ≤ w.heap.size + 1; rw [HWS.out]; exact Nat.le_refl _) (.int .i64 X))
      have hLd := HLd.out
      have j0 : (0 : Int) ≤ (k : Int) := by omega
      have j1 : (k : Int) < (L : Int) := by omega
      have j2 : (0 : Int) ≤ (n : Int) - (k : Int) := by omega
      have j3 : (n : Int) - (k : Int) < (M : Int) := by omega
      have j4 : ((n : Int) - (k : Int)).toNat = n - k := by omega
      have j5 : (k : Int) < (n : Int) + 1 := by omega
      clear hbel hown o3 o4 hy hst hset hX hM hLd r1
      go_wp2
      go_roundw
      case rel => exact ⟨k + 1, by omega, by go_num, HSE.out, HBX.out⟩
      case measure => simp only [intOf]; omega
    · obtain rfl : k = n + 1 := by omega
      have ho := HO.out
      rw [List.take_of_length_le (by rw [layC_length]; exact Nat.le_refl _), Nat.sub_self, List.replicate_zero, List.append_nil] at ho
      have HF := Lib.hid (ho.more (show w.heap.size ≤ w.heap.size + 1 by omega))
      clear hbel hown ho
      go_wp2
      go_ret
      exact ⟨_, rfl, HF.out, below_step HB.out HBE.out⟩
end Go.Proofs.YtfhdgcndiljjcabGreat

/- Plain facts: two laws that are equal below their degree differ by a cocycle. -/
namespace Go.Proofs.YtfhdgcndiljjcabGreat
open Go.RowKit
/-- the table of the second less the first -/
def gapT (m : Int) (d : Nat) (t t' : List (List Int)) : List (List Int) := Pl.tab m d fun i j => Pl.pc t' i j - Pl.pc t i j
theorem agr_ge (E : Nat → Bool) : ∀ n k, k ≤ agr E n k
  | 0, k => Nat.le_refl _
  | n + 1, k => by
    unfold agr
    split
    · have := agr_ge E n (k + 1); omega
    · exact Nat.le_refl _
theorem agr_all (E : Nat → Bool) : ∀ n k j, k < j → j ≤ agr E n k → E j = true
  | 0, k, j, h1, h2 => absurd h2 (by unfold agr; omega)
  | n + 1, k, j, h1, h2 => by
    unfold agr at h2
    by_cases e : E (k + 1) = true
    · rw [if_pos e] at h2
      by_cases ej : j = k + 1
      · rw [ej]; exact e
      · exact agr_all E n (k + 1) j (by omega) h2
    · rw [if_neg e] at h2; omega
theorem lin_norm {d : Nat} {F : Nat → Nat → Int} (h : Pl.Norm d F) (hd : 1 ≤ d) : Pl.Lin F :=
  ⟨(h.x 0 (by omega)).trans rfl, (h.x 1 hd).trans rfl, (h.y 1 hd).trans rfl⟩
theorem same_below {m : Int} {d : Nat} {t t' : List (List Int)} (ok : Pl.Ok m d t) (ok' : Pl.Ok m d t') (hn : Pl.Norm d (Pl.pc t)) (hn' : Pl.Norm d (Pl.pc t')) (ha : d - 1 ≤ agr (eqL m t t') d 0) :
    ∀ i j, i + j < d → Pl.pc t i j = Pl.pc t' i j := by
  intro i j hij
  by_cases h0 : i + j = 0
  · obtain rfl : i = 0 := by omega
    obtain rfl : j = 0 := by omega
    rw [hn.x 0 (by omega), hn'.x 0 (by omega)]
  · have h := agr_all _ _ _ (i + j) (by omega) (show i + j ≤ agr (eqL m t t') d 0 by omega)
    unfold eqL at h
    have h2 := of_decide_eq_true h
    have e1 := layC_co ok (i + j) i (by omega)
    have e2 := layC_co ok' (i + j) i (by omega)
    rw [show i + j - i = j by omega] at e1 e2
    rw [← e1, ← e2, h2]
theorem gap_some {m : Int} {d : Nat} {t t' : List (List Int)} (ok : Pl.Ok m d t) (ok' : Pl.Ok m d t') (d2 : 2 ≤ d) (hf : Pl.fau m d (Pl.pc t) = none) (hf' : Pl.fau m d (Pl.pc t') = none) (ha : d - 1 ≤ agr (eqL m t t') d 0) :
    (Cyc.facO m (layC m (gapT m d t t') d) d).isSome = true := by
  have hd2 := ok.d2
  have m1 := ok.m1
  have okg : Pl.Ok m d (gapT m d t t') := Pl.Ok.of_tab ok.m1 ok.m2 (by omega) hd2 _
  have hn := Pl.norm_law hf ok
  have hn' := Pl.norm_law hf' ok'
  have hs := same_below ok ok' hn hn' ha
  have p := Pl.fau_parts hf
  have p' := Pl.fau_parts hf'
  have sF := Pl.fauS_none p.2
  have sG := Pl.fauS_none p'.2
  have tF : Pl.fauT m d (Pl.pc t) = none := by
    unfold Pl.fau at hf
    rw [p.1, p.2] at hf
    exact hf
  have tG : Pl.fauT m d (Pl.pc t') = none := by
    unfold Pl.fau at hf'
    rw [p'.1, p'.2] at hf'
    exact hf'
  have hpc : ∀ i j, i + j ≤ d → Pl.pc (gapT m d t t') i j = (Pl.pc t' i j - Pl.pc t i j) % m := fun i j h => by unfold gapT; rw [Pl.pc_tab h]
  have hsym : Cyc.symZ (gapT m d t t') d = true := by
    rw [Cyc.symZ_iff]
    intro i hi
    refine ⟨by rw [hpc _ _ (by omega), hpc _ _ (by omega), sF i (d - i) (by omega), sG i (d - i) (by omega)], fun hx => ?_⟩
    rw [hpc _ _ (by omega)]
    rcases hx with rfl | rfl
    · rw [Nat.sub_zero, hn.y d (Nat.le_refl _), hn'.y d (Nat.le_refl _), Int.sub_self]; rfl
    · rw [Nat.sub_self, hn.x i (Nat.le_refl _), hn'.x i (Nat.le_refl _), Int.sub_self]; rfl
  have hcoc : Cyc.cocZ m (gapT m d t t') d = true := by
    rw [Cyc.cocZ_iff]
    intro a b ha hb hab
    have h := Pl.gap_coc (m := m) hd2 (lin_norm hn (by omega)) (lin_norm hn' (by omega)) hs sF sG tF tG a b ha hb hab
    rw [Cyc.cocN_emod m _ d a b hab, hpc _ _ (by omega), hpc _ _ (by omega)]
    rw [Int.sub_emod, Int.mul_emod, Int.emod_emod, ← Int.mul_emod, Int.mul_emod _ ((Pl.pc t' a (d - a) - Pl.pc t a (d - a)) % m), Int.emod_emod, ← Int.mul_emod, ← Int.sub_emod]
    exact h
  exact (Cyc.isC_iff ok.m1 ok.m2 okg d2 hd2 (l := layC m (gapT m d t t') d) (fun i hi => layC_co okg d i hi)).1 ⟨hsym, hcoc⟩
end Go.Proofs.YtfhdgcndiljjcabGreat

/- Contracts of equations as arrays. -/
namespace Go.Proofs.YtfhdgcndiljjcabGreat
open Go.RowKit Go.WideShapes Go.ChangeShapes Go.ChangeAt
/-- an equation's cells -/
def arrE (l : List Int) : Array Value := (l.map (Value.int .i64)).toArray
theorem arrE_at {l : List Int} {k : Nat} (h : k < l.length) : (arrE l)[k]? = some (.int .i64 (Ser.co l k)) := by
  unfold arrE Ser.co
  rw [List.getElem?_toArray, List.getElem?_map, List.getElem?_eq_getElem h]
  rfl
theorem arrE_size (l : List Int) : (arrE l).size = l.length := by simp [arrE]
set_option maxHeartbeats 1000000 in
theorem eqLast_any (m : Int) (e : List Int) (w : World) (h : Sys.Ok m e) :
    Calls Tryz.prog 172 #[.agg (arrE e)] w fun r w' => r = .returned (.int .i64 (Sys.lastE e)) ∧ Below w.heap.size w w' := by
  obtain ⟨W, hW⟩ : ∃ W, w.alloc (.cells (arrE e) 137) = W := ⟨_, rfl⟩
  have hv : VarC 137 W w.heap.size (arrE e) := by rw [← hW]; exact VarC.new _ _ _
  have HB := Lib.hid (show Below w.heap.size w W by rw [← hW]; exact below_one _ _)
  have HV := Lib.hid hv
  have HW := Lib.hid hW
  have HL := Lib.hid h.len
  have HF : Hid (∀ k, Sys.lastF e (k + 1) = if Ser.co e (k + 1) = 0 then Sys.lastF e k else k + 1) := Lib.hid (fun k => rfl)
  have HE : Hid (Sys.lastE e = Sys.lastF e 10) := Lib.hid rfl
  obtain ⟨cs, hcs⟩ : ∃ cs, arrE e = cs := ⟨_, rfl⟩
  rw [hcs] at HW ⊢
  clear hv hW
  go_enter Tryz.func172, Tryz.ntmps172
  go_wp2
  rw [HW.out]
  go_loopw [3] (fun i wr => ∃ k : Nat, k ≤ 10 ∧ i = .int .i64 k ∧ Sys.lastE e = Sys.lastF e k ∧ wr = W) (fun i _ => (intOf i).toNat)
  case atStart => exact ⟨10, Nat.le_refl _, rfl, HE.out, rfl⟩
  case round =>
    obtain ⟨k, hk, rfl, hl, rfl⟩ := hrel
    by_cases h0 : k = 0
    · subst h0
      have HR := Lib.hid hl
      clear hl
      go_wp2
      go_ret
      exact ⟨by rw [HR.out]; rfl, HB.out⟩
    · obtain ⟨q, hq⟩ : ∃ q, k = q + 1 := ⟨k - 1, by omega⟩
      have hc := HV.out.cell k _ (arrE_at (by rw [HL.out]; omega))
      have hf := HF.out q
      rw [← hq] at hf
      have j1 : (0 : Int) < (k : Int) := by omega
      have j2 : (k : Int) < 11 := by omega
      have j3 : (0 : Int) ≤ (k : Int) := by omega
      have hqk : q ≤ 10 ∧ (k : Int) - 1 = (q : Int) ∧ q < k := by omega
      obtain ⟨q1, q2, q3⟩ := hqk
      obtain ⟨X, hX⟩ : ∃ X, Ser.co e k = X := ⟨_, rfl⟩
      rw [hX] at hc hf
      have hL := Lib.hid hl
      clear hX hl hq h0
      by_cases hx : X = 0
      · rw [if_pos hx] at hf
        subst hx
        have Hf := Lib.hid hf
        clear hf
        go_wp2
        go_roundw
        case rel => exact ⟨q, q1, rfl, by rw [hL.out, Hf.out], by trivial⟩
        case measure => simp only [intOf]; omega
      · rw [if_neg hx] at hf
        obtain ⟨k1, k2⟩ := ne_facts hx
        have Hf := Lib.hid hf
        clear hf
        go_wp2
        go_ret
        exact ⟨by rw [hL.out, Hf.out]; rfl, HB.out⟩
/-! a whole equation out of and into its variable -/
section
theorem info_eqn : (Tryz.prog.info? 137).map (·.size) = some 11 := by kernel_rfl
theorem VarC.loadE {w : World} {g : Nat} {cs : Array Value} {T : TypeId} (h : VarC T w g cs) (hs : cs.size = 11) :
    (Instr.loadAt 137 (.pointer (some ⟨g, 0, none⟩))).run Tryz.prog w = .ok (.agg cs) w := by
  simp only [Instr.loadAt, Instr.sureAddr, Sem.run_bind, Sem.run_pure, Result.andThen]
  exact run_loadVar_row w g T 137 cs (0, 0) _ h Tryz.underlying137 rfl (by rw [hs]; exact info_eqn)
theorem VarC.storeE {w : World} {g : Nat} {cs cs' : Array Value} {T : TypeId} (h : VarC T w g cs) (hs : cs.size = 11) (hs' : cs'.size = 11) (h1 : cs'.all (·.oneCell') = true) :
    (Instr.storeAt 137 (.pointer (some ⟨g, 0, none⟩)) (.agg cs')).run Tryz.prog w = .ok () (w.setRow g cs') := by
  simp only [Instr.storeAt, Instr.sureAddr, Sem.run_bind, Sem.run_pure, Result.andThen]
  exact run_storeVar_row w g T 137 cs cs' h (by rw [hs']; exact info_eqn) (by rw [hs, hs']) h1
theorem VarC.varE {w : World} {g : Nat} {cs : Array Value} {T : TypeId} (h : VarC T w g cs) (hs : cs.size = 11) : (loadVar 137 ⟨g, 0, none⟩).run Tryz.prog w = .ok (.agg cs) w :=
  run_loadVar_row w g T 137 cs (0, 0) _ h Tryz.underlying137 rfl (by rw [hs]; exact info_eqn)
/-- a whole equation is loaded, in a plain region -/
theorem wpL_loadE {ops : Array Oper} {rest : List Oper} {op : Oper} {a : Act} {w : World} {Q : Exit → Act → World → Prop} (hgd : op.guard = none) (x : Operand) (ho : op.op = .load 137 x)
    (g : Nat) (cs : Array Value) (T : TypeId) (hx : a.eval x = .pointer (some ⟨g, 0, none⟩)) (hv : VarC T w g cs) (hs : cs.size = 11)
    (h : wpList Tryz.prog ops Q rest (a.put op.dst (.agg cs)) w) : wpList Tryz.prog ops Q (op :: rest) a w :=
  wpList_plain hgd fun _ hK => by
    unfold Oper.wp execOp
    simp only [ho, hx, Sem.run_bind, hv.loadE hs, Result.andThen_ok, Sem.run_pure]
    exact hK _ _ h
/-- a whole equation is stored, in a plain region -/
theorem wpL_storeE {ops : Array Oper} {rest : List Oper} {op : Oper} {a : Act} {w : World} {Q : Exit → Act → World → Prop} (hgd : op.guard = none) (x y : Operand) (ho : op.op = .store 137 x y)
    (g : Nat) (cs cs' : Array Value) (T : TypeId) (hx : a.eval x = .pointer (some ⟨g, 0, none⟩)) (hy : a.eval y = .agg cs') (hv : VarC T w g cs) (hs : cs.size = 11) (hs' : cs'.size = 11) (h1 : cs'.all (·.oneCell') = true)
    (h : wpList Tryz.prog ops Q rest (a.put op.dst undef) (w.setRow g cs')) : wpList Tryz.prog ops Q (op :: rest) a w :=
  wpList_plain hgd fun _ hK => by
    unfold Oper.wp execOp
    simp only [ho, hx, hy, Sem.run_bind, hv.storeE hs hs' h1, Result.andThen_ok, Sem.run_pure]
    exact hK _ _ h
theorem VarC.setRow {w : World} {g : Nat} {cs cs' : Array Value} {T : TypeId} (h : VarC T w g cs) : VarC T (w.setRow g cs') g cs' := setRow_heap w g cs cs' T (0, 0) h
theorem VarC.setRow_ne {w : World} {g g' : Nat} {cs cs' : Array Value} {T : TypeId} (h : VarC T w g cs) (hne : g ≠ g') : VarC T (w.setRow g' cs') g cs := (setRow_other w g' g cs' hne).trans h
theorem arrE_one (l : List Int) : (arrE l).all (·.oneCell') = true := by
  unfold arrE
  rw [Array.all_eq_true_iff_forall_mem]
  intro v hv
  simp at hv
  obtain ⟨x, -, rfl⟩ := hv
  rfl
theorem arrE_set (l : List Int) (k : Nat) (x : Int) : (arrE l).setIfInBounds k (.int .i64 x) = arrE (l.set k x) := by
  unfold arrE
  rw [List.setIfInBounds_toArray, List.map_set]
end
/-- the first k numbers of an equation lessened -/
def lessP (m q : Int) (e f : List Int) (k : Nat) : List Int := (List.range 11).map fun i => if i < k then (Ser.co e i - q * Ser.co f i) % m else Ser.co e i
theorem lessP_len (m q : Int) (e f : List Int) (k : Nat) : (lessP m q e f k).length = 11 := by simp [lessP]
theorem lessP_co {m q : Int} {e f : List Int} {k i : Nat} (h : i ≤ 10) : Ser.co (lessP m q e f k) i = if i < k then (Ser.co e i - q * Ser.co f i) % m else Ser.co e i := by
  unfold Ser.co lessP
  rw [List.getElem?_map, List.getElem?_range (by omega)]; rfl
theorem lessP_zero {m : Int} {e : List Int} (h : e.length = 11) (q : Int) (f : List Int) : lessP m q e f 0 = e := by
  refine Ser.list_ext (by rw [lessP_len, h]) (fun i hi => ?_)
  rw [lessP_len] at hi
  rw [lessP_co (by omega), if_neg (by omega)]
theorem lessP_end (m q : Int) (e f : List Int) : lessP m q e f 11 = Sys.lessE m q e f := by
  refine Ser.list_ext (by rw [lessP_len]; unfold Sys.lessE; rw [Ser.cut_length]) (fun i hi => ?_)
  rw [lessP_len] at hi
  unfold Sys.lessE
  rw [lessP_co (by omega), if_pos (by omega), Ser.co_cut (by omega)]
theorem lessP_step {m q : Int} {e f : List Int} {k : Nat} (h : k ≤ 10) : (lessP m q e f k).set k ((Ser.co e k - q * Ser.co f k) % m) = lessP m q e f (k + 1) := by
  refine Ser.list_ext (by rw [List.length_set, lessP_len, lessP_len]) (fun i hi => ?_)
  rw [List.length_set, lessP_len] at hi
  rw [Ser.co_set (by rw [lessP_len]; omega), lessP_co (by omega), lessP_co (by omega)]
  by_cases e : i = k
  · rw [if_pos e, if_pos (by omega), e]
  · rw [if_neg e]
    by_cases c : i < k
    · rw [if_pos c, if_pos (by omega)]
    · rw [if_neg c, if_neg (by omega)]
set_option maxHeartbeats 4000000 in
set_option maxRecDepth 100000 in
theorem eqLess_any (m q : Int) (e f : List Int) (w : World) (m1 : 2 ≤ m) (m2 : m ≤ 10000) (q1 : -10000 ≤ q) (q2 : q ≤ 10000) (he : e.length = 11) (hf : f.length = 11) (he2 : ∀ i, -10000 ≤ Ser.co e i ∧ Ser.co e i ≤ 10000) (hf2 : ∀ i, -10000 ≤ Ser.co f i ∧ Ser.co f i ≤ 10000) :
    Calls Tryz.prog 164 #[.agg (arrE e), .int .i64 m, .int .i64 q, .agg (arrE f)] w fun r w' => r = .returned (.agg (arrE (Sys.lessE m q e f))) ∧ Below w.heap.size w w' := by
  obtain ⟨Z, hZ⟩ : ∃ Z : Array Value, Z = #[.int .i64 0, .int .i64 0, .int .i64 0, .int .i64 0, .int .i64 0, .int .i64 0, .int .i64 0, .int .i64 0, .int .i64 0, .int .i64 0, .int .i64 0] := ⟨_, rfl⟩
  obtain ⟨W, hW⟩ : ∃ W, ((w.alloc (.cells (arrE e) 137)).alloc (.cells (arrE f) 137)).alloc (.cells Z 137) = W := ⟨_, rfl⟩
  have v1 : VarC 137 W w.heap.size (arrE e) := by rw [← hW]; exact ((VarC.new _ _ _).keep (below_one _ _)).keep (below_one _ _)
  have v2 : VarC 137 W (w.heap.size + 1) (arrE f) := by
    rw [← hW]
    have := (VarC.new 137 (w.alloc (.cells (arrE e) 137)) (arrE f)).keep (below_one _ (.cells Z 137))
    simpa using this
  have v3 : VarC 137 W (w.heap.size + 1 + 1) Z := by
    rw [← hW]
    have := VarC.new 137 ((w.alloc (.cells (arrE e) 137)).alloc (.cells (arrE f) 137)) Z
    simpa using this
  have HB := Lib.hid (show Below w.heap.size w W by rw [← hW]; exact below_alloc _ (below_alloc _ (below_one _ _)))
  have V1 := Lib.hid v1
  have V2 := Lib.hid v2
  have V3 := Lib.hid v3
  have hZs : Z.size = 11 := by rw [hZ]; rfl
  have HZ := Lib.hid hZs
  rw [hZ] at hW
  have HW := Lib.hid hW
  have HE := Lib.hid he
  have HFL := Lib.hid hf
  clear v1 v2 v3 hW hZ hZs
  obtain ⟨ce, hce⟩ : ∃ c, arrE e = c := ⟨_, rfl⟩
  obtain ⟨cf, hcf⟩ : ∃ c, arrE f = c := ⟨_, rfl⟩
  have HR := Lib.hid (show VarC 137 W w.heap.size (arrE (lessP m q e f 0)) by rw [lessP_zero he]; exact V1.out)
  rw [hce, hcf] at HW
  rw [hce, hcf]
  clear hce he hf
  go_enter Tryz.func164, Tryz.ntmps164
  go_wp2
  rw [HW.out]
  go_loopw [9, 10] (fun _ i wr => ∃ k : Nat, k ≤ 11 ∧ i = .int .i64 k ∧ VarC 137 wr w.heap.size (arrE (lessP m q e f k)) ∧ VarC 137 wr (w.heap.size + 1) (arrE f) ∧ VarC 137 wr (w.heap.size + 1 + 1) Z ∧ Below w.heap.size w wr) (fun _ i _ => 11 - (intOf i).toNat)
  case atStart => exact ⟨0, Nat.zero_le _, rfl, HR.out, V2.out, V3.out, HB.out⟩
  case round =>
    obtain ⟨k, hk, rfl, v1, v2, v3, hb⟩ := hrel
    have VV1 := Lib.hid v1
    have VV2 := Lib.hid v2
    have VV3 := Lib.hid v3
    have HBB := Lib.hid hb
    clear v1 v2 v3 hb HR V1 V2 V3
    by_cases hlt : k < 11
    · have j1 : (0 : Int) ≤ (k : Int) := by omega
      have j2 : (k : Int) < 11 := by omega
      have hst := lessP_step (m := m) (q := q) (e := e) (f := f) (k := k) (by omega)
      have c1 := VV1.out.cell k _ (arrE_at (by rw [lessP_len]; omega))
      rw [lessP_co (by omega), if_neg (by omega)] at c1
      have c2 := VV2.out.cell k _ (arrE_at (by rw [HFL.out]; omega))
      have bx := he2 k
      have bY := hf2 k
      obtain ⟨X, hX⟩ : ∃ X, Ser.co e k = X := ⟨_, rfl⟩
      obtain ⟨Y, hY⟩ : ∃ Y, Ser.co f k = Y := ⟨_, rfl⟩
      rw [hX, hY] at hst
      rw [hX] at c1 bx
      rw [hY] at c2 bY
      have hq : -100000000 ≤ q * Y ∧ q * Y ≤ 100000000 := by
        have a1 := Int.natAbs_mul q Y
        have a2 : q.natAbs * Y.natAbs ≤ 10000 * 10000 := Nat.mul_le_mul (by omega) (by omega)
        omega
      obtain ⟨P, hP⟩ : ∃ P, q * Y = P := ⟨_, rfl⟩
      rw [hP] at hq hst
      have hw1 : IntKind.i64.wrap (q * Y) = P := by rw [hP, IntKind.wrap_i64]; omega
      obtain ⟨D, hD⟩ : ∃ D, X - P = D := ⟨_, rfl⟩
      rw [hD] at hst
      have hw2 : IntKind.i64.wrap (X - P) = D := by rw [hD, IntKind.wrap_i64]; omega
      have HRM := Lib.hid (fun W0 => remainder_any m D W0 (by omega) m2 (by omega) (by omega))
      obtain ⟨R, hR⟩ : ∃ R, D % m = R := ⟨_, rfl⟩
      rw [hR] at hst HRM
      have fz := VV1.out.fz k
      have h1 := VV1.out.set k (.int .i64 R)
      rw [arrE_set, hst] at h1
      have H1 := Lib.hid (show VarC 137 (wr.drew.setCell ⟨w.heap.size, k, none⟩ (.int .i64 R)) w.heap.size (arrE (lessP m q e f (k + 1))) from h1)
      have H2 := Lib.hid (show VarC 137 (wr.drew.setCell ⟨w.heap.size, k, none⟩ (.int .i64 R)) (w.heap.size + 1) (arrE f) from VV2.out.drew.far _ _ _ (by omega))
      have H3 := Lib.hid (show VarC 137 (wr.drew.setCell ⟨w.heap.size, k, none⟩ (.int .i64 R)) (w.heap.size + 1 + 1) Z from VV3.out.drew.far _ _ _ (by omega))
      have H4 := Lib.hid (show Below w.heap.size w (wr.drew.setCell ⟨w.heap.size, k, none⟩ (.int .i64 R)) from (below_step HBB.out (below_drew0 wr)).setCell (Nat.le_refl _) _)
      have HS0 : Hid (wr.drew.cell? ⟨w.heap.size, k, none⟩ = some (.int .i64 X) ∧ wr.drew.cell? ⟨w.heap.size + 1, k, none⟩ = some (.int .i64 Y)) := Lib.hid ⟨c1, c2⟩
      have d1 := HS0.out.1
      have fz2 : wr.drew.frozen? ⟨w.heap.size, k, none⟩ = false := fz
      clear hst hX hY hP hD hR h1 c1 c2 fz bx bY hq
      go_upto_region 4 with fail
      refine region_till (fun w' => w'.cell? ⟨w.heap.size, k, none⟩ = some (.int .i64 X) ∧ w'.cell? ⟨w.heap.size + 1, k, none⟩ = some (.int .i64 Y)) 13 (by kernel_rfl) ?_
      refine till_take (i := 0) (dst := some 13) (.int .i64 k) rfl rfl (by kernel_rfl) (by kernel_rfl) (by kernel_rfl) (by kernel_rfl) (fun _ _ _ h => h) (Or.inl ⟨by rfl, ?_⟩) HS0.out ?_
      · rintro w' ⟨a1, a2⟩
        go_simp
      simp only [Act.put, List.setIfInBounds_toArray, List.set_cons_zero, List.set_cons_succ]
      refine till_take (i := 1) (dst := some 14) (.int .i64 m) rfl rfl (by kernel_rfl) (by kernel_rfl) (by kernel_rfl) (by kernel_rfl) (fun _ _ _ h => h) (Or.inl ⟨by rfl, ?_⟩) HS0.out ?_
      · rintro w' ⟨a1, a2⟩
        go_simp
      simp only [Act.put, List.setIfInBounds_toArray, List.set_cons_zero, List.set_cons_succ]
      refine till_take (i := 2) (dst := some 15) (.int .i64 k) rfl rfl (by kernel_rfl) (by kernel_rfl) (by kernel_rfl) (by kernel_rfl) (fun _ _ _ h => h) (Or.inl ⟨by rfl, ?_⟩) HS0.out ?_
      · rintro w' ⟨a1, a2⟩
        go_simp
      simp only [Act.put, List.setIfInBounds_toArray, List.set_cons_zero, List.set_cons_succ]
      refine till_take (i := 3) (dst := some 16) (.pointer (some ⟨w.heap.size, k, none⟩)) rfl rfl (by kernel_rfl) (by kernel_rfl) (by kernel_rfl) (by kernel_rfl) (fun _ _ _ h => h) (Or.inl ⟨by rfl, ?_⟩) HS0.out ?_
      · rintro w' ⟨a1, a2⟩
        go_simp
      simp only [Act.put, List.setIfInBounds_toArray, List.set_cons_zero, List.set_cons_succ]
      refine till_take (i := 4) (dst := some 17) (.int .i64 X) rfl rfl (by kernel_rfl) (by kernel_rfl) (by kernel_rfl) (by kernel_rfl) (fun _ _ _ h => h) (Or.inl ⟨by rfl, ?_⟩) HS0.out ?_
      · rintro w' ⟨a1, a2⟩
        go_simp
      simp only [Act.put, List.setIfInBounds_toArray, List.set_cons_zero, List.set_cons_succ]
      refine till_take (i := 5) (dst := some 18) (.int .i64 q) rfl rfl (by kernel_rfl) (by kernel_rfl) (by kernel_rfl) (by kernel_rfl) (fun _ _ _ h => h) (Or.inl ⟨by rfl, ?_⟩) HS0.out ?_
      · rintro w' ⟨a1, a2⟩
        go_simp
      simp only [Act.put, List.setIfInBounds_toArray, List.set_cons_zero, List.set_cons_succ]
      refine till_take (i := 6) (dst := some 19) (.int .i64 k) rfl rfl (by kernel_rfl) (by kernel_rfl) (by kernel_rfl) (by kernel_rfl) (fun _ _ _ h => h) (Or.inl ⟨by rfl, ?_⟩) HS0.out ?_
      · rintro w' ⟨a1, a2⟩
        go_simp
      simp only [Act.put, List.setIfInBounds_toArray, List.set_cons_zero, List.set_cons_succ]
      refine till_take (i := 7) (dst := some 20) (.pointer (some ⟨w.heap.size + 1, k, none⟩)) rfl rfl (by kernel_rfl) (by kernel_rfl) (by kernel_rfl) (by kernel_rfl) (fun _ _ _ h => h) (Or.inl ⟨by rfl, ?_⟩) HS0.out ?_
      · rintro w' ⟨a1, a2⟩
        go_simp
      simp only [Act.put, List.setIfInBounds_toArray, List.set_cons_zero, List.set_cons_succ]
      refine till_take (i := 8) (dst := some 21) (.int .i64 Y) rfl rfl (by kernel_rfl) (by kernel_rfl) (by kernel_rfl) (by kernel_rfl) (fun _ _ _ h => h) (Or.inl ⟨by rfl, ?_⟩) HS0.out ?_
      · rintro w' ⟨a1, a2⟩
        go_simp
      simp only [Act.put, List.setIfInBounds_toArray, List.set_cons_zero, List.set_cons_succ]
      refine till_take (i := 9) (dst := some 22) (.int .i64 P) rfl rfl (by kernel_rfl) (by kernel_rfl) (by kernel_rfl) (by kernel_rfl) (fun _ _ _ h => h) (Or.inl ⟨by rfl, ?_⟩) HS0.out ?_
      · rintro w' ⟨a1, a2⟩
        go_simp
      simp only [Act.put, List.setIfInBounds_toArray, List.set_cons_zero, List.set_cons_succ]
      refine till_take (i := 10) (dst := some 23) (.int .i64 D) rfl rfl (by kernel_rfl) (by kernel_rfl) (by kernel_rfl) (by kernel_rfl) (fun _ _ _ h => h) (Or.inl ⟨by rfl, ?_⟩) HS0.out ?_
      · rintro w' ⟨a1, a2⟩
        go_simp
      simp only [Act.put, List.setIfInBounds_toArray, List.set_cons_zero, List.set_cons_succ]
      refine till_one (i := 11) (by kernel_rfl) rfl (fun K hK => ?_)
      go_simp
      (go_at_call 142; with_reducible refine Calls.mono (HRM.out _) ?_; rintro e w5 ⟨rfl, rfl⟩)
      dsimp only
      refine hK.out _ _ (fun _ => HS0.out) ?_
      clear hK K
      try simp only [Act.put, List.setIfInBounds_toArray, List.set_cons_zero, List.set_cons_succ]
      refine till_one (i := 12) (by kernel_rfl) rfl (fun K hK => ?_)
      go_simp
      try dsimp only
      refine hK.out _ _ (fun _ => HS0.out) ?_
      clear hK K
      try simp only [Act.put, List.setIfInBounds_toArray, List.set_cons_zero, List.set_cons_succ]
      refine till_one (i := 13) (by kernel_rfl) rfl (fun K hK => ?_)
      go_simp
      refine hK.out _ _ (fun hne => absurd rfl hne) ?_
      clear hK K
      refine till_done (by kernel_rfl) ?_
      go_wp2
      go_roundw
      case rel => exact ⟨k + 1, by omega, by go_num, H1.out, H2.out, H3.out, H4.out⟩
      case measure => simp only [intOf]; omega
    · obtain rfl : k = 11 := by omega
      have j2 : ¬ ((11 : Nat) : Int) < 11 := by omega
      have v1 := VV1.out
      rw [lessP_end] at v1
      obtain ⟨R, hR⟩ : ∃ R, Sys.lessE m q e f = R := ⟨_, rfl⟩
      have hRl : R.length = 11 := by rw [← hR]; unfold Sys.lessE; rw [Ser.cut_length]
      rw [hR] at v1
      have HRR := Lib.hid hR
      have hs1 : (arrE R).size = 11 := by rw [arrE_size, hRl]
      have ho1 := arrE_one R
      obtain ⟨cR, hcR⟩ : ∃ c, arrE R = c := ⟨_, rfl⟩
      rw [hcR] at v1 hs1 ho1
      have HCR := Lib.hid hcR
      have VR := Lib.hid v1
      have HS1 := Lib.hid hs1
      have HO1 := Lib.hid ho1
      have V4 := Lib.hid (show VarC 137 (wr.setRow (w.heap.size + 1 + 1) cR) (w.heap.size + 1 + 1) cR from VV3.out.setRow)
      have HB9 := Lib.hid (below_setRow HBB.out (show w.heap.size ≤ w.heap.size + 1 + 1 by omega) cR)
      clear v1 hR hRl hcR hs1 ho1
      go_upto_region 6 with fail
      refine wp_region_list ?_
      refine wpL_loadE rfl _ rfl _ cR _ rfl VR.out HS1.out ?_
      refine wpL_storeE rfl _ _ rfl _ Z cR _ rfl rfl VV3.out HZ.out HS1.out HO1.out ?_
      go_wp2
      refine bodyPost_ret (v := .agg cR) (by simp [results, Tryz.results164, asAddr, V4.out.varE HS1.out]) rfl ⟨by rw [← HCR.out, HRR.out], HB9.out⟩
set_option maxHeartbeats 4000000 in
set_option maxRecDepth 100000 in
theorem eqTimes_any (m q : Int) (e : List Int) (w : World) (m1 : 2 ≤ m) (m2 : m ≤ 10000) (q1 : -10000 ≤ q) (q2 : q ≤ 10000) (he : e.length = 11) (he2 : ∀ i, -10000 ≤ Ser.co e i ∧ Ser.co e i ≤ 10000) :
    Calls Tryz.prog 154 #[.agg (arrE e), .int .i64 m, .int .i64 q] w fun r w' => r = .returned (.agg (arrE (Sys.timesE m q e))) ∧ Below w.heap.size w w' := by
  obtain ⟨Z, hZ⟩ : ∃ Z : Array Value, Z = #[.int .i64 0, .int .i64 0, .int .i64 0, .int .i64 0, .int .i64 0, .int .i64 0, .int .i64 0, .int .i64 0, .int .i64 0, .int .i64 0, .int .i64 0] := ⟨_, rfl⟩
  obtain ⟨W, hW⟩ : ∃ W, (w.alloc (.cells (arrE e) 137)).alloc (.cells Z 137) = W := ⟨_, rfl⟩
  have v1 : VarC 137 W w.heap.size (arrE e) := by rw [← hW]; exact (VarC.new _ _ _).keep (below_one _ _)
  have v2 : VarC 137 W (w.heap.size + 1) Z := by
    rw [← hW]
    have := VarC.new 137 (w.alloc (.cells (arrE e) 137)) Z
    simpa using this
  have HB := Lib.hid (show Below w.heap.size w W by rw [← hW]; exact below_alloc _ (below_one _ _))
  have V1 := Lib.hid v1
  have V2 := Lib.hid v2
  have hZs : Z.size = 11 := by rw [hZ]; rfl
  have HZ := Lib.hid hZs
  have hz0 : Z = arrE (List.replicate 11 0) := by rw [hZ]; rfl
  have HL := Lib.hid (eqLess_any m (-q) (List.replicate 11 0) e W m1 m2 (by omega) (by omega) (by simp) he (fun i => by rw [Ser.co_zeros]; omega) he2)
  rw [← hz0, hZ] at HL
  have hte : Sys.lessE m (-q) (List.replicate 11 0) e = Sys.timesE m q e := Ser.cut_congr (Ser.Eq.of m 10 (fun k _ => by rw [Ser.co_zeros]; congr 1; rw [Int.neg_mul]; omega))
  rw [hte] at HL
  rw [hZ] at hW
  have HW := Lib.hid hW
  have hse : (arrE e).size = 11 := by rw [arrE_size, he]
  have HSE := Lib.hid hse
  have hsr : (arrE (Sys.timesE m q e)).size = 11 := by rw [arrE_size]; unfold Sys.timesE; rw [Ser.cut_length]
  have HSR := Lib.hid hsr
  have HOR := Lib.hid (arrE_one (Sys.timesE m q e))
  obtain ⟨ce, hce⟩ : ∃ c, arrE e = c := ⟨_, rfl⟩
  obtain ⟨cr, hcr⟩ : ∃ c, arrE (Sys.timesE m q e) = c := ⟨_, rfl⟩
  rw [hce] at HW HL V1 HSE
  rw [hcr] at HL HSR HOR
  rw [hce, hcr]
  have w1 : IntKind.i64.wrap (-q) = -q := by rw [IntKind.wrap_i64]; omega
  clear v1 v2 hW hz0 hse hsr hce hcr hte he he2 hZ hZs
  go_enter Tryz.func154, Tryz.ntmps154
  go_upto_region 1 with fail
  rw [HW.out]
  go_wp2_with (first
    | (refine wpL_loadE rfl _ rfl _ ce _ rfl V1.out HSE.out ?_)
    | (go_at_call 164; with_reducible refine Calls.mono HL.out ?_; rintro r w2 ⟨rfl, hb2⟩)
    | (refine wpL_storeE rfl _ _ rfl _ Z cr _ rfl rfl (V2.out.keep hb2) HZ.out HSR.out HOR.out ?_))
  have V4 := Lib.hid (show VarC 137 (w2.setRow (w.heap.size + 1) cr) (w.heap.size + 1) cr from (V2.out.keep hb2).setRow)
  have HB9 := Lib.hid (below_setRow (below_step HB.out hb2) (show w.heap.size ≤ w.heap.size + 1 by omega) cr)
  clear hb2
  refine bodyPost_ret (v := .agg cr) (by simp [results, Tryz.results154, Act.put, asAddr, V4.out.varE HSR.out]) rfl ⟨rfl, HB9.out⟩
end Go.Proofs.YtfhdgcndiljjcabGreat

/- Contracts of sums over equations, and of divisions that may have no quotient. -/
namespace Go.Proofs.YtfhdgcndiljjcabGreat
open Go.RowKit Go.WideShapes Go.ChangeShapes Go.ChangeAt
/-- a solution's numbers, 1 at 0 -/
def solX (s : List Int) : Nat → Int := fun i => if i = 0 then 1 else Ser.co s i
theorem low_one (e s : List Int) : Sys.low e 1 (solX s) = Ser.co e 0 := by
  show (0 : Int) + Ser.co e 0 * 1 = _
  omega
theorem low_succ (e : List Int) {s : List Int} {k : Nat} (h : 0 < k) : Sys.low e (k + 1) (solX s) = Sys.low e k (solX s) + Ser.co e k * Ser.co s k := by
  show Sys.low e k (solX s) + Ser.co e k * solX s k = _
  unfold solX
  rw [if_neg (by omega)]
theorem mulB {x y : Int} (h1 : -10000 ≤ x ∧ x ≤ 10000) (h2 : -10000 ≤ y ∧ y ≤ 10000) : -100000000 ≤ x * y ∧ x * y ≤ 100000000 := by
  have a1 := Int.natAbs_mul x y
  have a2 : x.natAbs * y.natAbs ≤ 10000 * 10000 := Nat.mul_le_mul (by omega) (by omega)
  omega
theorem low_bd {e s : List Int} (he : ∀ i, -10000 ≤ Ser.co e i ∧ Ser.co e i ≤ 10000) (hs : ∀ i, -10000 ≤ Ser.co s i ∧ Ser.co s i ≤ 10000) : ∀ k : Nat, -(k : Int) * 100000000 ≤ Sys.low e k (solX s) ∧ Sys.low e k (solX s) ≤ (k : Int) * 100000000
  | 0 => by simp [Sys.low, Ser.psum]
  | k + 1 => by
    have ih := low_bd he hs k
    have hx : -100000000 ≤ Ser.co e k * solX s k ∧ Ser.co e k * solX s k ≤ 100000000 := mulB (he k) (by unfold solX; split; omega; exact hs k)
    have : Sys.low e (k + 1) (solX s) = Sys.low e k (solX s) + Ser.co e k * solX s k := rfl
    rw [this]
    omega
set_option maxHeartbeats 4000000 in
theorem valueBefore_any (m : Int) (e s : List Int) (k : Nat) (w : World) (m1 : 2 ≤ m) (m2 : m ≤ 10000) (hk0 : 1 ≤ k) (hk : k ≤ 10) (he : e.length = 11) (hs : s.length = 11) (he2 : ∀ i, -10000 ≤ Ser.co e i ∧ Ser.co e i ≤ 10000) (hs2 : ∀ i, -10000 ≤ Ser.co s i ∧ Ser.co s i ≤ 10000) :
    Calls Tryz.prog 168 #[.agg (arrE e), .int .i64 m, .agg (arrE s), .int .i64 k] w fun r w' => r = .returned (.int .i64 (Sys.low e k (solX s) % m)) ∧ Below w.heap.size w w' := by
  obtain ⟨W, hW⟩ : ∃ W, (w.alloc (.cells (arrE e) 137)).alloc (.cells (arrE s) 137) = W := ⟨_, rfl⟩
  have v1 : VarC 137 W w.heap.size (arrE e) := by rw [← hW]; exact (VarC.new _ _ _).keep (below_one _ _)
  have v2 : VarC 137 W (w.heap.size + 1) (arrE s) := by
    rw [← hW]
    have := VarC.new 137 (w.alloc (.cells (arrE e) 137)) (arrE s)
    simpa using this
  have HB := Lib.hid (show Below w.heap.size w W by rw [← hW]; exact below_alloc _ (below_one _ _))
  have V1 := Lib.hid v1
  have V2 := Lib.hid v2
  have HW := Lib.hid hW
  have HE := Lib.hid he
  have HSL := Lib.hid hs
  have c0 := v1.cell 0 _ (arrE_at (by omega))
  rw [← low_one e s] at c0
  obtain ⟨ce, hce⟩ : ∃ c, arrE e = c := ⟨_, rfl⟩
  obtain ⟨cs, hcs⟩ : ∃ c, arrE s = c := ⟨_, rfl⟩
  rw [hce, hcs] at HW
  rw [hce, hcs]
  clear v1 v2 hW he hs hce hcs
  go_enter Tryz.func168, Tryz.ntmps168
  go_upto_region 1 with fail
  rw [HW.out]
  go_wp2
  go_loopw [9, 10] (fun s9 s10 wr => ∃ i n : Nat, 1 ≤ i ∧ i ≤ k ∧ s9 = .int .i64 (Sys.low e i (solX s)) ∧ s10 = .int .i64 i ∧ wr = W.drewN n) (fun _ s10 _ => k + 1 - (intOf s10).toNat)
  case atStart => exact ⟨1, 0, Nat.le_refl _, hk0, rfl, rfl, rfl⟩
  case round =>
    obtain ⟨i, n, hi1, hik, rfl, rfl, hw⟩ := hrel
    have HWN := Lib.hid hw
    have hcell : ∀ p : Addr, wr.cell? p = W.cell? p := by intro p; rw [hw]; rfl
    clear hw c0
    have hb := low_bd (e := e) (s := s) he2 hs2 i
    by_cases hlt : i < k
    · have hlt2 : (i : Int) < (k : Int) := by omega
      have h1 := (hcell ⟨w.heap.size, i, none⟩).trans (V1.out.cell i _ (arrE_at (by rw [HE.out]; omega)))
      have h2 := (hcell ⟨w.heap.size + 1, i, none⟩).trans (V2.out.cell i _ (arrE_at (by rw [HSL.out]; omega)))
      have hst := low_succ e (s := s) (k := i) hi1
      have hm := mulB (he2 i) (hs2 i)
      obtain ⟨S, hS⟩ : ∃ S, Sys.low e i (solX s) = S := ⟨_, rfl⟩
      obtain ⟨X, hX⟩ : ∃ X, Ser.co e i = X := ⟨_, rfl⟩
      obtain ⟨Y, hY⟩ : ∃ Y, Ser.co s i = Y := ⟨_, rfl⟩
      rw [hS] at hst hb ⊢
      rw [hX] at hst hm h1
      rw [hY] at hst hm h2
      obtain ⟨P, hP⟩ : ∃ P, X * Y = P := ⟨_, rfl⟩
      rw [hP] at hst hm
      have hw1 : IntKind.i64.wrap (X * Y) = P := by rw [hP, IntKind.wrap_i64]; omega
      obtain ⟨D, hD⟩ : ∃ D, S + P = D := ⟨_, rfl⟩
      rw [hD] at hst
      have hw2 : IntKind.i64.wrap (S + P) = D := by rw [hD, IntKind.wrap_i64]; omega
      have j1 : (0 : Int) ≤ (i : Int) := by omega
      have j2 : (i : Int) < 11 := by omega
      have HST := Lib.hid hst
      clear hst hS hX hY hP hD hcell hm hb
      go_wp2
      go_quiet (fail)
      go_wp2
      go_roundw
      case rel => exact ⟨i + 1, n + nq, by omega, hlt, by rw [HST.out], by go_num, by rw [HWN.out, World.drewN_drewN]⟩
      case measure => simp only [intOf]; omega
    · obtain rfl : i = k := by omega
      have hlt2 : ¬ (i : Int) < (i : Int) := by omega
      obtain ⟨S, hS⟩ : ∃ S, Sys.low e i (solX s) = S := ⟨_, rfl⟩
      rw [hS] at hb ⊢
      have HRM := Lib.hid (fun W0 => remainder_any m S W0 (by omega) m2 (by omega) (by omega))
      have HSS := Lib.hid hS
      clear hcell hS
      go_wp2_with fail
      refine (HRM.out _).mono ?_
      rintro r w5 ⟨rfl, rfl⟩
      go_wp2
      go_ret
      exact ⟨by rw [HSS.out]; rfl, by rw [HWN.out]; exact below_drewN HB.out _⟩
set_option maxHeartbeats 2000000 in
theorem quot_yes (m a b : Int) (w : World) (h : (solM m b a).2 = 0) :
    Calls Tryz.prog 167 #[.int .i64 m, .int .i64 a, .int .i64 b] w fun r w' => r = .returned (.int .i64 (solM m b a).1) ∧ Below w.heap.size w w' := by
  have hs := fun W0 => SolveModulo_any m b a W0
  rw [h] at hs
  obtain ⟨X, hX⟩ : ∃ X, (solM m b a).1 = X := ⟨_, rfl⟩
  rw [hX] at hs ⊢
  have HS := Lib.hid hs
  clear hs hX h
  go_enter Tryz.func167, Tryz.ntmps167
  go_wp2_with fail
  refine (HS.out _).mono ?_
  rintro r w2 ⟨rfl, hb2⟩
  have HB := Lib.hid hb2
  clear hb2
  go_wp2
  go_ret
  exact ⟨rfl, HB.out⟩
set_option maxHeartbeats 2000000 in
theorem quot_no (m a b : Int) (w : World) (h : (solM m b a).2 ≠ 0) :
    Calls Tryz.prog 167 #[.int .i64 m, .int .i64 a, .int .i64 b] w fun r w' => (∃ s, r = .panicked [{ v := .iface 9 s, recovered := false }]) ∧ Below w.heap.size w w' := by
  have hs := fun W0 => SolveModulo_any m b a W0
  obtain ⟨X, hX⟩ : ∃ X, (solM m b a).1 = X := ⟨_, rfl⟩
  obtain ⟨C, hC⟩ : ∃ C, (solM m b a).2 = C := ⟨_, rfl⟩
  rw [hC] at hs h
  rw [hX] at hs
  obtain ⟨k1, k2⟩ := ne_facts h
  have HS := Lib.hid hs
  clear hs hX hC h
  go_enter Tryz.func167, Tryz.ntmps167
  go_wp2_with fail
  refine (HS.out _).mono ?_
  rintro r w2 ⟨rfl, hb2⟩
  have HB := Lib.hid hb2
  clear hb2
  go_wp2
  exact ⟨rfl, ⟨_, rfl⟩, HB.out⟩
end Go.Proofs.YtfhdgcndiljjcabGreat

