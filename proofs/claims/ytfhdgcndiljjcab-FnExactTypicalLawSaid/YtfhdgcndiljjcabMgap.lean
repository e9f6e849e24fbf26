/- Texts of contracts, joined. -/
import Derived.Test.YtfhdgcndiljjcabMgao
import Derived.Test.YtfhdgcndiljjcabMgae
import Derived.Test.YtfhdgcndiljjcabMgan
import Derived.Test.YtfhdgcndiljjcabMgam
import Derived.Test.YtfhdgcndiljjcabMgab
import Derived.Test.YtfhdgcndiljjcabMgac
import Derived.Test.YtfhdgcndiljjcabMgah
import Derived.Deep.RegionHeld3
/- Contract of typicalSeries: the sum of all A(k) x^(p^k), each times a weight that a function value tells. -/
namespace Go.Proofs.Ytfhdgcndiljjcab
open Go.RowKit Go.WideShapes Go.ChangeShapes Go.ChangeAt

/-- the sum of the first k terms, where f i stands at x^(p^i) -/
def tyF (p : Nat) (f : Nat → Int) (k n : Nat) : Int := Ser.psum (fun i => Ser.mon (p ^ i) (f i) n) k
def tyL (m : Int) (d p : Nat) (f : Nat → Int) (k : Nat) : List Int := Ser.cut m d (tyF p f k)
theorem tyL_step (m : Int) (d p : Nat) (f : Nat → Int) (k : Nat) :
    (Ser.cut m d fun n => Ser.co (tyL m d p f k) n + Ser.co (scaL m d (Ser.cut m d (Ser.mon (p ^ k) 1)) (f k)) n) = tyL m d p f (k + 1) := by
  unfold tyL scaL
  refine Ser.cut_congr (fun i hi => ?_)
  rw [Ser.co_cut hi, Ser.co_cut hi, Ser.co_cut hi]
  show _ = (tyF p f k i + Ser.mon (p ^ k) (f k) i) % m
  refine Ser.add_cong (Int.emod_emod _ _) ((Int.emod_emod _ _).trans ?_)
  refine (Ser.mul_cong (Int.emod_emod _ _) rfl).trans ?_
  congr 1
  unfold Ser.mon
  split <;> simp
theorem tyL_zero (m : Int) (d p : Nat) (f : Nat → Int) (l : List Int) : scaL m d l 0 = tyL m d p f 0 := by
  unfold scaL tyL tyF
  refine Ser.cut_congr (Ser.Eq.of m d (fun i _ => ?_))
  rw [Int.mul_zero]; rfl
theorem VarC.of2 {w : World} {g : Nat} {x y : Value} (h : VarC 62 w g #[x, y]) : Var2 w g x y := h
theorem numR_ndL (m : Int) (p : Nat) (l : List Int) (c : Nat) : Nmr.numR m p (Ser.co (ndL c l)) (c + 1) = Nmr.numR m p (Ser.co l) (c + 1) := by
  unfold Nmr.numR
  refine List.map_congr_left (fun i hi => ?_)
  rw [Nmr.num_ext c (fun j hj => by rw [ndL_co, if_pos hj]) i (by have := List.mem_range.1 hi; omega)]

set_option maxHeartbeats 16000000 in
set_option maxRecDepth 100000 in
theorem typicalSeries_any (m : Int) (d p fn : Nat) (cap : Array Value) (wt : Nat → Int) (A : Option Addr) (c : Nat) (l : List Int) (w : World) (m1 : 2 ≤ m) (m2 : m ≤ 100000000) (d1 : 1 ≤ d) (d2 : d ≤ 10) (hp : p = 2 ∨ p = 3 ∨ p = 5 ∨ p = 7)
    (hx : ∀ i, -1000000000 ≤ Ser.co l i ∧ Ser.co l i ≤ 1000000000) (hr : RI w A l)
    (hwt : ∀ k, k ≤ needN p d → 0 ≤ Nmr.num p (Ser.co l) k % m * wt k ∧ Nmr.num p (Ser.co l) k % m * wt k ≤ 100000000)
    (hen : ∀ (args : Array Value) (W : World), (callFunc fn args).run Try.prog W = .ok (.enter fn args) W)
    (hf : ∀ (k : Nat) (W : World), k ≤ needN p d → Below w.heap.size w W → Calls Try.prog fn (#[.int .i64 (p ^ k : Nat)] ++ cap) W fun e w' => e = .returned (.int .i64 (wt k)) ∧ Below W.heap.size W w') :
    Calls Try.prog 40 #[.agg #[.int .i64 m, .int .i64 d], .int .i64 p, .slice A l.length c, .func (.func fn) #[] cap] w fun e w' =>
      ∃ v, e = .returned (.agg #[.int .i64 m, v]) ∧ OwnI w' w.heap.size v (tyL m d p (fun k => Nmr.num p (Ser.co l) k % m * wt k) (needN p d + 1)) ∧ Below w.heap.size w w' := by
  obtain ⟨N, hN⟩ : ∃ N, needN p d = N := ⟨_, rfl⟩
  have hN3 : N ≤ 3 := by rw [← hN]; exact needN_le3 p (in4 hp) d (List.mem_range.2 (by omega))
  have HLN := Lib.hid (show (Ser.cut m d (Ser.mon 1 1)).length = d + 1 from Ser.cut_length _ _ _)
  have okl : SerOkG m d (Ser.cut m d (Ser.mon 1 1)) := SerOkG.of m1 m2 d1 d2 _
  have HMO := Lib.hid (fun W0 => monomial_anyG m d 1 1 W0 (by omega) m2 (by omega) (by omega) (by omega))
  have HSC0 := Lib.hid (fun (A1 : Option Addr) (c1 : Nat) (W0 : World) (h : RI W0 A1 (Ser.cut m d (Ser.mon 1 1))) => by
    have := scaled_anyG m d A1 c1 _ 0 W0 okl h (by omega) (by omega)
    rw [Ser.cut_length, tyL_zero m d p (fun k => Nmr.num p (Ser.co l) k % m * wt k)] at this
    exact this)
  have HND := Lib.hid (fun W0 (h : RI W0 A l) => by
    have := neededOf_any p d A c l W0 hp d2 h
    rw [hN] at this
    exact this)
  have HNM := Lib.hid (fun (A1 : Option Addr) (c1 : Nat) (W0 : World) (h : RI W0 A1 (ndL N l)) => by
    have := numeratorsModulo_any p m A1 c1 (ndL N l) W0 m1 m2 (by omega) (by omega) (by rw [ndL_length]; exact hN3) (fun i => by
      rw [ndL_co]; split
      · exact hx i
      · omega) h
    rw [ndL_length, numR_ndL] at this
    exact this)
  have HPW := Lib.hid (fun k (hk : k ≤ N) (A1 : Option Addr) (c1 : Nat) (W0 : World) (h : RI W0 A1 (Ser.cut m d (Ser.mon 1 1))) => by
    obtain ⟨j, hj⟩ : ∃ j, p ^ k = j + 1 := ⟨p ^ k - 1, by have := Nat.pow_pos (n := k) (show 0 < p by omega); omega⟩
    have hj2 : j + 1 ≤ 343 := by rw [← hj]; exact (pow_bd7 (p := p) (by omega) (i := k) (by omega) (by omega)).2
    have := powerS_any m d A1 c1 _ j W0 okl (by omega) h
    rw [Ser.cut_length, powG_line, ← hj, show ((j : Int) + 1) = ((p ^ k : Nat) : Int) by rw [hj]; omega] at this
    exact this)
  have HSC := Lib.hid (fun k (hk : k ≤ N) (A1 : Option Addr) (c1 : Nat) (W0 : World) (h : RI W0 A1 (Ser.cut m d (Ser.mon (p ^ k) 1))) => by
    have hb := hwt k (by omega)
    have := scaled_anyG m d A1 c1 _ (Nmr.num p (Ser.co l) k % m * wt k) W0 (SerOkG.of m1 m2 d1 d2 _) h (by omega) (by omega)
    rw [Ser.cut_length] at this
    exact this)
  have HPL := Lib.hid (fun k (A1 : Option Addr) (c1 : Nat) (A2 : Option Addr) (c2 : Nat) (W0 : World) (h1 : RI W0 A1 (tyL m d p (fun k => Nmr.num p (Ser.co l) k % m * wt k) k)) (h2 : RI W0 A2 (scaL m d (Ser.cut m d (Ser.mon (p ^ k) 1)) (Nmr.num p (Ser.co l) k % m * wt k))) => by
    have := plus_anyG m d A1 c1 (tyL m d p (fun k => Nmr.num p (Ser.co l) k % m * wt k) k) m A2 c2 (scaL m d (Ser.cut m d (Ser.mon (p ^ k) 1)) (Nmr.num p (Ser.co l) k % m * wt k)) W0 (SerOkG.of m1 m2 d1 d2 _) (SerOkG.of m1 m2 d1 d2 _) h1 h2
    rw [show (tyL m d p (fun k => Nmr.num p (Ser.co l) k % m * wt k) k).length = d + 1 from Ser.cut_length _ _ _, show (scaL m d (Ser.cut m d (Ser.mon (p ^ k) 1)) (Nmr.num p (Ser.co l) k % m * wt k)).length = d + 1 from Ser.cut_length _ _ _, tyL_step] at this
    exact this)
  have HTL := Lib.hid (fun k => (show (tyL m d p (fun k => Nmr.num p (Ser.co l) k % m * wt k) k).length = d + 1 from Ser.cut_length _ _ _))
  have HSL := Lib.hid (fun k => (show (scaL m d (Ser.cut m d (Ser.mon (p ^ k) 1)) (Nmr.num p (Ser.co l) k % m * wt k)).length = d + 1 from Ser.cut_length _ _ _))
  have HNL := Lib.hid (Nmr.numR_length m p (Ser.co l) (N + 1))
  have HNC := Lib.hid (fun k (hk : k < N + 1) => Nmr.numR_co (m := m) (p := p) (v := Ser.co l) hk)
  have HWT := Lib.hid (fun k (hk : k ≤ N) => hwt k (by omega))
  have HFN := Lib.hid (fun k W0 (hk : k ≤ N) (h : Below w.heap.size w W0) => hf k W0 (by omega) h)
  have HPB := Lib.hid (fun k (hk : k ≤ 3) => pow_bd7 (p := p) (by omega) (i := k) hk (by omega))
  have HR := Lib.hid hr
  have hp7 : p ≤ 7 ∧ 2 ≤ p := by omega
  obtain ⟨ll, hll⟩ : ∃ ll, l.length = ll := ⟨_, rfl⟩
  rw [hN]
  rw [hll] at HND ⊢
  obtain ⟨W, hW⟩ : ∃ W, (w.alloc (.cells #[.int .i64 m, .int .i64 d] 41)).alloc (.cells #[.int .i64 0, .slice none 0 0] 62) = W := ⟨_, rfl⟩
  have hwb : Below w.heap.size w W := by rw [← hW]; exact below_alloc _ (below_one _ _)
  have v4 : VarC 41 W w.heap.size #[.int .i64 m, .int .i64 d] := by rw [← hW]; exact (VarC.new _ _ _).keep (below_one _ _)
  have v8 : Var2 W (w.heap.size + 1) (.int .i64 0) (.slice none 0 0) := by
    rw [← hW]
    have := Var2.new (w.alloc (.cells #[.int .i64 m, .int .i64 d] 41)) (.int .i64 0) (.slice none 0 0)
    simpa using this
  have hwz : w.heap.size + 1 < W.heap.size := v8.lt
  have HW := Lib.hid hW
  have HB := Lib.hid hwb
  have V4 := Lib.hid v4
  have V8 := Lib.hid v8
  obtain ⟨a4, b4, -, -⟩ := v4.tells2
  clear hwb hW v4 v8 hr hx hwt hf hN okl hp hll
  go_enter Try.func40, Try.ntmps40
  go_wp2_with fail
  rw [HW.out]
  refine (HMO.out _).mono ?_
  rintro e w1 ⟨v, rfl, ho1, hb1⟩
  obtain ⟨A9, c9, hv9, -⟩ := ho1.form
  subst hv9
  rw [HLN.out] at ho1 ⊢
  obtain ⟨w2, hw2⟩ : ∃ w2, w1.alloc (.cells #[.int .i64 m, .slice A9 (d + 1) c9] 62) = w2 := ⟨_, rfl⟩
  have v9 : Var2 w2 w1.heap.size (.int .i64 m) (.slice A9 (d + 1) c9) := by rw [← hw2]; exact Var2.new _ _ _
  have hb2 : Below W.heap.size W w2 := by rw [← hw2]; exact below_alloc _ hb1
  have ho2 : OwnI w2 W.heap.size (.slice A9 (d + 1) c9) (Ser.cut m d (Ser.mon 1 1)) := by rw [← hw2]; exact ho1.keep (below_one _ _)
  obtain ⟨g9, hg9⟩ : ∃ g9, w1.heap.size = g9 := ⟨_, rfl⟩
  have hgw9 : W.heap.size ≤ g9 := by rw [← hg9]; exact hb1.size
  rw [hg9] at v9
  have a9 := v9.c0
  have b9 := v9.c1
  have HW2 := Lib.hid hw2
  have V9 := Lib.hid v9
  have HB2 := Lib.hid hb2
  have HO2 := Lib.hid ho2
  clear hw2 v9 hb2 ho2 ho1 hb1 a4 b4
  go_upto_region 2 with fail
  rw [HW2.out]
  clear HW2 hg9
  go_wp2_with fail
  refine (HSC0.out _ _ _ HO2.out.ri).mono ?_
  rintro e w3 ⟨v, rfl, ho3, hb3⟩
  obtain ⟨A0, c0, hv0, -⟩ := ho3.form
  subst hv0
  rw [HTL.out] at ho3 ⊢
  obtain ⟨w4, hw4⟩ : ∃ w4, w3.alloc (.cells #[.int .i64 m, .slice A0 (d + 1) c0] 62) = w4 := ⟨_, rfl⟩
  have v10 : Var2 w4 w3.heap.size (.int .i64 m) (.slice A0 (d + 1) c0) := by rw [← hw4]; exact Var2.new _ _ _
  have hb4 : Below w2.heap.size w2 w4 := by rw [← hw4]; exact below_alloc _ hb3
  have ho4 := (OwnI.more ho3 HB2.out.size).keep (below_one w3 (.cells #[.int .i64 m, .slice A0 (d + 1) c0] 62))
  rw [hw4] at ho4
  obtain ⟨g10, hg10⟩ : ∃ g10, w3.heap.size = g10 := ⟨_, rfl⟩
  have hgw10 : w2.heap.size ≤ g10 := by rw [← hg10]; exact hb3.size
  rw [hg10] at v10
  have HW4 := Lib.hid hw4
  have V10 := Lib.hid v10
  have HB4 := Lib.hid hb4
  have HO4 := Lib.hid ho4
  have HBW4 := Lib.hid (below_step HB.out (below_step HB2.out hb4))
  have V4' := V4.out.keep (below_step HB2.out hb4)
  obtain ⟨a4, b4, -, -⟩ := V4'.tells2
  clear hw4 v10 hb4 ho4 ho3 hb3 a9 b9
  go_upto_region 4 with fail
  rw [HW4.out]
  clear HW4 hg10
  have HK : Hid (∀ W0, Below w4.heap.size w4 W0 → W0.cell? ⟨w.heap.size, 0, none⟩ = some (.int .i64 m) ∧ W0.cell? ⟨w.heap.size, 1, none⟩ = some (.int .i64 d)) :=
    Lib.hid (fun W0 h => by obtain ⟨x, y, -, -⟩ := (V4'.keep h).tells2; exact ⟨x, y⟩)
  have HSK0 := Lib.hid (HK.out _ (below_drew0 w4))
  clear a4 b4 V4'
  refine region_tilN (fun w' => w'.cell? ⟨w.heap.size, 0, none⟩ = some (.int .i64 m) ∧ w'.cell? ⟨w.heap.size, 1, none⟩ = some (.int .i64 d)) 11 (by kernel_rfl) ?_
  refine tilN_take (i := 0) (dst := some 21) (.int .i64 p) rfl rfl (by kernel_rfl) (by kernel_rfl) (by kernel_rfl) (by kernel_rfl) (fun _ _ _ h => h) (Or.inl ⟨by rfl, ?_⟩) HSK0.out ?_
  · rintro w' ⟨z1, z2⟩
    go_simp
  simp only [Act.put, List.setIfInBounds_toArray, List.set_cons_zero, List.set_cons_succ]
  refine tilN_take (i := 1) (dst := some 22) (.pointer (some ⟨w.heap.size, 0, none⟩)) rfl rfl (by kernel_rfl) (by kernel_rfl) (by kernel_rfl) (by kernel_rfl) (fun _ _ _ h => h) (Or.inl ⟨by rfl, ?_⟩) HSK0.out ?_
  · rintro w' ⟨z1, z2⟩
    go_simp
  simp only [Act.put, List.setIfInBounds_toArray, List.set_cons_zero, List.set_cons_succ]
  refine tilN_take (i := 2) (dst := some 23) (.int .i64 m) rfl rfl (by kernel_rfl) (by kernel_rfl) (by kernel_rfl) (by kernel_rfl) (fun _ _ _ h => h) (Or.inl ⟨by rfl, ?_⟩) HSK0.out ?_
  · rintro w' ⟨z1, z2⟩
    go_simp
  simp only [Act.put, List.setIfInBounds_toArray, List.set_cons_zero, List.set_cons_succ]
  refine tilN_take (i := 3) (dst := some 24) (.int .i64 p) rfl rfl (by kernel_rfl) (by kernel_rfl) (by kernel_rfl) (by kernel_rfl) (fun _ _ _ h => h) (Or.inl ⟨by rfl, ?_⟩) HSK0.out ?_
  · rintro w' ⟨z1, z2⟩
    go_simp
  simp only [Act.put, List.setIfInBounds_toArray, List.set_cons_zero, List.set_cons_succ]
  refine tilN_take (i := 4) (dst := some 25) (.pointer (some ⟨w.heap.size, 1, none⟩)) rfl rfl (by kernel_rfl) (by kernel_rfl) (by kernel_rfl) (by kernel_rfl) (fun _ _ _ h => h) (Or.inl ⟨by rfl, ?_⟩) HSK0.out ?_
  · rintro w' ⟨z1, z2⟩
    go_simp
  simp only [Act.put, List.setIfInBounds_toArray, List.set_cons_zero, List.set_cons_succ]
  refine tilN_take (i := 5) (dst := some 26) (.int .i64 d) rfl rfl (by kernel_rfl) (by kernel_rfl) (by kernel_rfl) (by kernel_rfl) (fun _ _ _ h => h) (Or.inl ⟨by rfl, ?_⟩) HSK0.out ?_
  · rintro w' ⟨z1, z2⟩
    go_simp
  simp only [Act.put, List.setIfInBounds_toArray, List.set_cons_zero, List.set_cons_succ]
  refine tilN_take (i := 6) (dst := some 27) (.slice A ll c) rfl rfl (by kernel_rfl) (by kernel_rfl) (by kernel_rfl) (by kernel_rfl) (fun _ _ _ h => h) (Or.inl ⟨by rfl, ?_⟩) HSK0.out ?_
  · rintro w' ⟨z1, z2⟩
    go_simp
  simp only [Act.put, List.setIfInBounds_toArray, List.set_cons_zero, List.set_cons_succ]
  refine tilN_take (i := 10) (dst := some 31) (.int .i64 0) rfl rfl (by kernel_rfl) (by kernel_rfl) (by kernel_rfl) (by kernel_rfl) (fun _ _ _ h => h) (Or.inl ⟨by rfl, ?_⟩) HSK0.out ?_
  · rintro w' ⟨z1, z2⟩
    go_simp
  simp only [Act.put, List.setIfInBounds_toArray, List.set_cons_zero, List.set_cons_succ]
  refine tilN_one (i := 7) (by kernel_rfl) rfl (fun K hK => ?_)
  go_simp
  (go_at_call 58; with_reducible refine Calls.mono (HND.out _ (HR.out.below (below_step HBW4.out (below_drew0 w4)))) ?_; rintro e w5 ⟨v5, rfl, ho5, hb5⟩; have b5 := below_step (below_drew0 w4) hb5; obtain ⟨A5, c5, hv5, -⟩ := ho5.form; subst hv5; rw [ndL_length] at ho5 ⊢)
  dsimp only
  refine hK.out _ _ (fun _ => HK.out _ b5) ?_
  clear hK K
  try simp only [Act.put, List.setIfInBounds_toArray, List.set_cons_zero, List.set_cons_succ]
  refine tilN_one (i := 8) (by kernel_rfl) rfl (fun K hK => ?_)
  go_simp
  (go_at_call 57; with_reducible refine Calls.mono (HNM.out _ _ _ ho5.ri) ?_; rintro e w6 ⟨v6, rfl, ho6, hb6⟩; have b6 := below_step b5 hb6; obtain ⟨A6, c6, hv6, -⟩ := ho6.form; subst hv6; rw [HNL.out] at ho6 ⊢)
  dsimp only
  refine hK.out _ _ (fun _ => HK.out _ b6) ?_
  clear hK K
  try simp only [Act.put, List.setIfInBounds_toArray, List.set_cons_zero, List.set_cons_succ]
  refine tilN_one (i := 9) (by kernel_rfl) rfl (fun K hK => ?_)
  go_simp
  try dsimp only
  refine hK.out _ _ (fun _ => (HK.out _ b6)) ?_
  clear hK K
  try simp only [Act.put, List.setIfInBounds_toArray, List.set_cons_zero, List.set_cons_succ]
  refine tilN_done (by kernel_rfl) ?_
  have V10' := Lib.hid (V10.out.keep b6)
  have HO10 := Lib.hid (HO4.out.keep b6)
  have HON := Lib.hid ho6
  have HB6 := Lib.hid (HB4.out.trans (b6.mono HB4.out.size))
  have HL6 : g10 < w6.heap.size := V10'.out.lt
  clear b6 hb6 b5 hb5 ho5 ho6 HK HSK0 V10 HO4 HB4 HNM HND HSC0 HMO HNL
  go_wp2
  go_loopw [11, 13, 31] (fun s11 _ s31 wr => ∃ (k : Nat) (A1 : Option Addr) (c1 : Nat), k ≤ N + 1 ∧ s31 = .int .i64 k ∧ s11 = .int .i64 (p ^ k : Nat) ∧ Var2 wr g10 (.int .i64 m) (.slice A1 (d + 1) c1) ∧ OwnI wr W.heap.size (.slice A1 (d + 1) c1) (tyL m d p (fun k => Nmr.num p (Ser.co l) k % m * wt k) k) ∧ OwnI wr w5.heap.size (.slice A6 (N + 1) c6) (Nmr.numR m p (Ser.co l) (N + 1)) ∧ Below w2.heap.size w2 wr) (fun _ _ s31 _ => N + 2 - (intOf s31).toNat)
  case atStart => exact ⟨0, A0, c0, Nat.zero_le _, rfl, rfl, V10'.out, HO10.out, HON.out, HB6.out⟩
  case round =>
    clear V10' HO10 HON HB6
    obtain ⟨k, A1, c1, hk, rfl, rfl, v10, ho, hon, hb⟩ := hrel
    have V10 := Lib.hid v10
    have HO := Lib.hid ho
    have HON := Lib.hid hon
    have HB6 := Lib.hid hb
    by_cases hlt : k < N + 1
    · have i1 : (k : Int) < (N : Int) + 1 := by omega
      have i2 : (0 : Int) ≤ (k : Int) := by omega
      obtain ⟨gn, on, hgn, -, hcn⟩ := hon.ri.at k (by rw [Nmr.numR_length]; exact hlt)
      subst hgn
      rw [HNC.out k hlt] at hcn
      have hpk := HPB.out k (by omega)
      have hw := HWT.out k (by omega)
      have HFK := Lib.hid (fun W0 h => HFN.out k W0 (by omega) h)
      have HPK := Lib.hid (HPW.out k (by omega))
      have HSK := Lib.hid (HSC.out k (by omega))
      have HPLK := Lib.hid (HPL.out k)
      have HTK := Lib.hid (HTL.out (k + 1))
      have HSLK := Lib.hid (HSL.out k)
      obtain ⟨Q, hQ⟩ : ∃ Q, Nmr.num p (Ser.co l) k % m = Q := ⟨_, rfl⟩
      obtain ⟨T, hT⟩ : ∃ T, wt k = T := ⟨_, rfl⟩
      obtain ⟨K, hK9⟩ : ∃ K, p ^ k = K := ⟨_, rfl⟩
      obtain ⟨f, hf⟩ : ∃ f : Nat → Int, (fun k => Nmr.num p (Ser.co l) k % m * wt k) = f := ⟨_, rfl⟩
      rw [hQ, hT] at hw HSK HPLK HSLK
      rw [hQ] at hcn
      rw [hT] at HFK
      rw [hK9] at hpk HFK HPK HSK HPLK HSLK
      rw [hf] at HO HPLK HTK
      rw [hK9]
      have HK9 := Lib.hid hK9
      have HF9 := Lib.hid hf
      have hkp : 0 ≤ (K : Int) * (p : Int) ∧ (K : Int) * (p : Int) ≤ 2401 := by
        refine ⟨Int.mul_nonneg (by omega) (by omega), ?_⟩
        have := Int.mul_le_mul (show (K : Int) ≤ 343 by omega) (show (p : Int) ≤ 7 by omega) (by omega) (by omega)
        omega
      have HKP := Lib.hid (show (K : Int) * (p : Int) = ((p ^ (k + 1) : Nat) : Int) by rw [Nat.pow_succ, HK9.out, Int.natCast_mul])
      have HQT := Lib.hid (show IntKind.i64.wrap (Q * T) = Q * T by rw [IntKind.wrap_i64]; omega)
      have HKS : Hid (∀ W0, Below wr.heap.size wr W0 → (W0.cell? ⟨g10, 0, none⟩ = some (.int .i64 m) ∧ W0.cell? ⟨g10, 1, none⟩ = some (.slice A1 (d + 1) c1)) ∧ (W0.cell? ⟨g9, 0, none⟩ = some (.int .i64 m) ∧ W0.cell? ⟨g9, 1, none⟩ = some (.slice A9 (d + 1) c9))) :=
        Lib.hid (fun W0 h => by
          have x := v10.keep h
          have y := (V9.out.keep hb).keep h
          exact ⟨⟨x.c0, x.c1⟩, ⟨y.c0, y.c1⟩⟩)
      have HSK0 := Lib.hid (HKS.out _ (below_drew0 wr))
      have HRL := Lib.hid (HO2.out.ri.below hb)
      have HBW := Lib.hid (below_step HB.out (below_step HB2.out hb))
      clear v10 ho hon hb hQ hT hK9 hf HNC HPB HWT HFN HPW HSC HPL HTL HSL HLN
      go_upto_region 7 with fail
      clear hcn
      refine region_tilN (fun w' => (w'.cell? ⟨g10, 0, none⟩ = some (.int .i64 m) ∧ w'.cell? ⟨g10, 1, none⟩ = some (.slice A1 (d + 1) c1)) ∧ (w'.cell? ⟨g9, 0, none⟩ = some (.int .i64 m) ∧ w'.cell? ⟨g9, 1, none⟩ = some (.slice A9 (d + 1) c9))) 11 (by kernel_rfl) ?_
      refine tilN_take (i := 0) (dst := some 35) (.agg #[.int .i64 m, .slice A1 (d + 1) c1]) rfl rfl (by kernel_rfl) (by kernel_rfl) (by kernel_rfl) (by kernel_rfl) (fun _ _ _ h => h) (Or.inl ⟨by rfl, ?_⟩) HSK0.out ?_
      · rintro w' ⟨⟨z1, z2⟩, z3, z4⟩
        go_simp
      simp only [Act.put, List.setIfInBounds_toArray, List.set_cons_zero, List.set_cons_succ]
      refine tilN_take (i := 1) (dst := some 36) (.agg #[.int .i64 m, .slice A9 (d + 1) c9]) rfl rfl (by kernel_rfl) (by kernel_rfl) (by kernel_rfl) (by kernel_rfl) (fun _ _ _ h => h) (Or.inl ⟨by rfl, ?_⟩) HSK0.out ?_
      · rintro w' ⟨⟨z1, z2⟩, z3, z4⟩
        go_simp
      simp only [Act.put, List.setIfInBounds_toArray, List.set_cons_zero, List.set_cons_succ]
      refine tilN_take (i := 2) (dst := some 37) (.int .i64 K) rfl rfl (by kernel_rfl) (by kernel_rfl) (by kernel_rfl) (by kernel_rfl) (fun _ _ _ h => h) (Or.inl ⟨by rfl, ?_⟩) HSK0.out ?_
      · rintro w' ⟨⟨z1, z2⟩, z3, z4⟩
        go_simp
      simp only [Act.put, List.setIfInBounds_toArray, List.set_cons_zero, List.set_cons_succ]
      refine tilN_take (i := 4) (dst := some 39) (.int .i64 Q) rfl rfl (by kernel_rfl) (by kernel_rfl) (by kernel_rfl) (by kernel_rfl) (fun _ _ _ h => h) (Or.inl ⟨by rfl, ?_⟩) HSK0.out ?_
      · rintro w' ⟨⟨z1, z2⟩, z3, z4⟩
        go_simp
      simp only [Act.put, List.setIfInBounds_toArray, List.set_cons_zero, List.set_cons_succ]
      refine tilN_take (i := 5) (dst := some 40) (.func (.func fn) #[] cap) rfl rfl (by kernel_rfl) (by kernel_rfl) (by kernel_rfl) (by kernel_rfl) (fun _ _ _ h => h) (Or.inl ⟨by rfl, ?_⟩) HSK0.out ?_
      · rintro w' ⟨⟨z1, z2⟩, z3, z4⟩
        go_simp
      simp only [Act.put, List.setIfInBounds_toArray, List.set_cons_zero, List.set_cons_succ]
      refine tilN_take (i := 6) (dst := some 41) (.int .i64 K) rfl rfl (by kernel_rfl) (by kernel_rfl) (by kernel_rfl) (by kernel_rfl) (fun _ _ _ h => h) (Or.inl ⟨by rfl, ?_⟩) HSK0.out ?_
      · rintro w' ⟨⟨z1, z2⟩, z3, z4⟩
        go_simp
      simp only [Act.put, List.setIfInBounds_toArray, List.set_cons_zero, List.set_cons_succ]
      refine tilN_one (i := 3) (by kernel_rfl) rfl (fun K hK => ?_)
      go_simp
      (go_at_call 60; with_reducible refine Calls.mono (HPK.out _ _ _ (HRL.out.below (below_drew0 wr))) ?_; rintro e w7 ⟨A7, c7, rfl, hr7, hb7⟩; have b7 := below_step (below_drew0 wr) hb7)
      dsimp only
      refine hK.out _ _ (fun _ => HKS.out _ b7) ?_
      clear hK K
      try simp only [Act.put, List.setIfInBounds_toArray, List.set_cons_zero, List.set_cons_succ]
      refine tilN_one (i := 7) (by kernel_rfl) rfl (fun K hK => ?_)
      go_simp
      (with_reducible refine Calls.mono (HFK.out _ (below_step HBW.out b7)) ?_; rintro e w8 ⟨rfl, hb8⟩; have b8 := below_step b7 hb8)
      dsimp only
      refine hK.out _ _ (fun _ => HKS.out _ b8) ?_
      clear hK K
      try simp only [Act.put, List.setIfInBounds_toArray, List.set_cons_zero, List.set_cons_succ]
      refine tilN_one (i := 8) (by kernel_rfl) rfl (fun K hK => ?_)
      go_simp
      try dsimp only
      refine hK.out _ _ (fun _ => (HKS.out _ b8)) ?_
      clear hK K
      try simp only [Act.put, List.setIfInBounds_toArray, List.set_cons_zero, List.set_cons_succ]
      rw [HQT.out]
      refine tilN_one (i := 9) (by kernel_rfl) rfl (fun K hK => ?_)
      go_simp
      (go_at_call 56; with_reducible refine Calls.mono (HSK.out _ _ _ (hr7.below hb8)) ?_; rintro e w9 ⟨v9, rfl, ho9, hb9⟩; have b9 := below_step b8 hb9; obtain ⟨A11, c11, hv9, -⟩ := ho9.form; subst hv9; rw [HSLK.out] at ho9 ⊢)
      dsimp only
      refine hK.out _ _ (fun _ => HKS.out _ b9) ?_
      clear hK K
      try simp only [Act.put, List.setIfInBounds_toArray, List.set_cons_zero, List.set_cons_succ]
      refine tilN_one (i := 10) (by kernel_rfl) rfl (fun K hK => ?_)
      go_simp
      (go_at_call 59; with_reducible refine Calls.mono (HPLK.out _ _ _ _ _ (HO.out.ri.below b9) ho9.ri) ?_; rintro e w10 ⟨v10, rfl, ho10, hb10⟩; have b10 := below_step b9 hb10; obtain ⟨A12, c12, hv10, -⟩ := ho10.form; subst hv10; rw [HTK.out] at ho10 ⊢; have hv12 := V10.out.keep b10; have q0 := hv12.c0; have q1 := hv12.c1; have q2 := hv12.fz 0; have q3 := hv12.fz 1)
      dsimp only
      refine hK.out _ _ (fun _ => HKS.out _ b10) ?_
      clear hK K
      try simp only [Act.put, List.setIfInBounds_toArray, List.set_cons_zero, List.set_cons_succ]
      refine tilN_one (i := 11) (by kernel_rfl) rfl (fun K hK => ?_)
      go_simp
      refine hK.out _ _ (fun hlt => absurd hlt (by decide)) ?_
      clear hK K
      refine tilN_done (by kernel_rfl) ?_
      obtain ⟨Y, hY⟩ : ∃ Y, set2 w10 g10 (.int .i64 m) (.slice A12 (d + 1) c12) = Y := ⟨_, rfl⟩
      have nb : Below w2.heap.size w2 Y := by rw [← hY]; exact below_set2 (HB6.out.trans (b10.mono HB6.out.size)) hgw10 _ _
      have n10 : Var2 Y g10 (.int .i64 m) (.slice A12 (d + 1) c12) := by rw [← hY]; exact hv12.set2 _ _
      have no : OwnI Y W.heap.size (.slice A12 (d + 1) c12) (tyL m d p f (k + 1)) := by
        rw [← hY]
        refine OwnI.more (ho10.set2 hv12 _ _) ?_
        have h1 := HB2.out.size
        have h2 := HB6.out.size
        have h3 := b9.size
        omega
      have nn : OwnI Y w5.heap.size (.slice (some ⟨gn, on, none⟩) (N + 1) c6) (Nmr.numR m p (Ser.co l) (N + 1)) := by rw [← hY]; exact (HON.out.keep b10).set2 hv12 _ _
      have HY := Lib.hid hY
      have NB := Lib.hid nb
      have N10 := Lib.hid n10
      have NO := Lib.hid no
      have NN := Lib.hid nn
      unfold set2 at HY
      clear hY nb n10 no nn hv12 q0 q1 q2 q3 hb10 b10 ho10 hb9 b9 ho9 hb8 b8 hb7 b7 hr7 HKS HSK0 HFK HPK HSK HPLK HQT HBW HRL
      rw [HY.out]
      go_wp2
      go_roundw
      case rel => exact ⟨k + 1, A12, c12, by omega, by go_num, by rw [HKP.out], N10.out, by rw [HF9.out]; exact NO.out, NN.out, NB.out⟩
      case measure => simp only [intOf]; omega
    · obtain rfl : k = N + 1 := by omega
      have i1 : ¬ (((N + 1 : Nat) : Int) < (N : Int) + 1) := by omega
      have v8 := (V8.out.keep HB2.out).keep hb
      have e0 := v8.c0
      have e1 := v8.c1
      have e2 := v8.fz 0
      have e3 := v8.fz 1
      have a2 := v10.c0
      have b2 := v10.c1
      have n1 := v8.set2 (.int .i64 m) (.slice A1 (d + 1) c1)
      have f0 := n1.c0
      have f1 := n1.c1
      have HR := Lib.hid ((ho.set2 v8 (.int .i64 m) (.slice A1 (d + 1) c1)).more (show w.heap.size ≤ W.heap.size by omega))
      have HF := Lib.hid (below_set2 (below_step HB.out (below_step HB2.out hb)) (show w.heap.size ≤ w.heap.size + 1 by omega) (.int .i64 m) (.slice A1 (d + 1) c1))
      unfold set2 at f0 f1 HR HF
      clear v8 v10 ho hon hb n1
      go_wp2
      exact bodyPost_ret (v := .agg #[.int .i64 m, .slice A1 (d + 1) c1]) (by simp [results, Try.results40, go_sem, f0, f1]) rfl ⟨_, rfl, HR.out, HF.out⟩

end Go.Proofs.Ytfhdgcndiljjcab

/- Plain, for TypicalLaw: substitution into a composition. -/
namespace Go.Proofs.Ytfhdgcndiljjcab
namespace Tyc

theorem aft_pw (f : Nat → Int) {F : Nat → Nat → Int} (h : F 0 0 = 0) (d : Nat) : ∀ i, Up d (Pl.pw2 (Pl.aft f F (d + 1)) i) (Pl.aft (Ser.pw f i) F (d + 1))
  | 0 => by
    intro p q _
    show Pl.one2 1 p q = Pl.aft (Ser.mon 0 1) F (d + 1) p q
    rw [Pl.aft_c 1 F (d + 1) (by omega)]
  | i + 1 => by
    intro p q hpq
    show Pl.mul2 (Pl.pw2 (Pl.aft f F (d + 1)) i) (Pl.aft f F (d + 1)) p q = Pl.aft (Ser.mul (Ser.pw f i) f) F (d + 1) p q
    rw [← Pl.aft_mul (Ser.pw f i) f h d p q hpq]
    exact Up.mul (aft_pw f h d i) (fun _ _ _ => rfl) p q hpq
/-- substitution into a composition -/
theorem aft_comp (g : Nat → Int) {f : Nat → Int} (hf : f 0 = 0) {F : Nat → Nat → Int} (h : F 0 0 = 0) (d p q : Nat) (hpq : p + q ≤ d) :
    Pl.aft g (Pl.aft f F (d + 1)) (d + 1) p q = Pl.aft (Ser.comp g f) F (d + 1) p q := by
  have e1 : Pl.aft g (Pl.aft f F (d + 1)) (d + 1) p q = Ser.psum (fun i => Ser.psum (fun k => g i * Ser.pw f i k * Pl.pw2 F k p q) (d + 1)) (d + 1) := by
    refine Ser.psum_ext _ (fun i _ => ?_)
    show g i * Pl.pw2 (Pl.aft f F (d + 1)) i p q = _
    rw [aft_pw f h d i p q hpq]
    unfold Pl.aft
    rw [← Ser.psum_mul]
    exact Ser.psum_ext _ (fun k _ => by rw [Int.mul_assoc])
  rw [e1, Ser.psum_swap]
  refine Ser.psum_ext _ (fun k hk => ?_)
  rw [Ser.comp_pw hf g (N := d + 1) hk, ← Ser.psum_mul']
theorem pwF_pw2 (F : Nat → Nat → Int) : ∀ k, Pl.pwF F k = Pl.pw2 F k
  | 0 => rfl
  | k + 1 => by
    show Pl.mul2 (Pl.pwF F k) F = Pl.mul2 (Pl.pw2 F k) F
    rw [pwF_pw2 F k]
/-- substitution into a typical series: its terms of degree above d add nothing -/
theorem aft_ty (F : Nat → Nat → Int) (d p : Nat) (f : Nat → Int) (i j : Nat) : ∀ K, Pl.aft (tyF p f K) F (d + 1) i j = Ser.psum (fun e => if p ^ e ≤ d then f e * Pl.pw2 F (p ^ e) i j else 0) K
  | 0 => by
    refine psum_nil _ (fun k _ => ?_)
    show (0 : Int) * _ = 0
    rw [Int.zero_mul]
  | K + 1 => by
    have e1 : Pl.aft (tyF p f (K + 1)) F (d + 1) i j = Pl.aft (tyF p f K) F (d + 1) i j + Pl.aft (Ser.mon (p ^ K) (f K)) F (d + 1) i j :=
      congrFun (congrFun (Pl.aft_add (tyF p f K) (Ser.mon (p ^ K) (f K)) F (d + 1)) i) j
    rw [e1, aft_ty F d p f i j K]
    show _ = Ser.psum _ K + (if p ^ K ≤ d then f K * Pl.pw2 F (p ^ K) i j else 0)
    congr 1
    by_cases h : p ^ K ≤ d
    · rw [if_pos h, Pl.aft_mon (p ^ K) (f K) F (d + 1) (by omega)]
      rfl
    · rw [if_neg h]
      refine psum_nil _ (fun k hk => ?_)
      unfold Ser.mon
      rw [if_neg (by omega), Int.zero_mul]
theorem psum_cut {f : Nat → Int} {n : Nat} : ∀ k, (∀ i, n ≤ i → i < n + k → f i = 0) → Ser.psum f (n + k) = Ser.psum f n
  | 0, _ => rfl
  | k + 1, h => by
    show Ser.psum f (n + k) + f (n + k) = _
    rw [psum_cut k (fun i h1 h2 => h i h1 (by omega)), h (n + k) (by omega) (by omega), Int.add_zero]
theorem needN_n10 : ∀ p ∈ [2, 3, 5, 7], ∀ d ∈ List.range 11, needN p d ≤ n10 p := by decide
theorem famS_00 {p : Nat} (hp : p = 2 ∨ p = 3 ∨ p = 5 ∨ p = 7) (v : Nat → Int) : famS p v 0 0 = 0 := by
  unfold famS
  rw [fam_00 hp, Int.zero_mul]
/-- the stretched logarithm of the stretched law has no mixed terms -/
theorem ty_inner {p : Nat} (hp : p = 2 ∨ p = 3 ∨ p = 5 ∨ p = 7) (v : Nat → Int) {d i j : Nat} (d2 : d ≤ 10) (h1 : 1 ≤ i) (h2 : 1 ≤ j) (h3 : i + j ≤ d) :
    Pl.aft (tyF p (fun e => Nmr.num p v e * (wtS p e : Int)) (needN p d + 1)) (famS p v) (d + 1) i j = 0 := by
  have hin : p ∈ [2, 3, 5, 7] := by simp; exact hp
  have hd : d ∈ List.range 11 := List.mem_range.2 (by omega)
  have hN := needN_n10 p hin d hd
  have hn := n10_le p hin
  have hs := stretched hp v h1 h2 (show i + j ≤ 10 by omega)
  rw [show n10 p + 1 = (needN p d + 1) + (n10 p - needN p d) by omega, psum_cut _ (fun e e1 e2 => by
    have : d < p ^ e := by
      have := (needN_at p hin d hd e (List.mem_range.2 (by omega)))
      apply Classical.byContradiction
      intro hc
      have := this.2 ⟨by omega, by omega⟩
      omega
    rw [Pl.pwF_low (famS_00 hp v) _ _ _ (by omega), Int.mul_zero])] at hs
  rw [aft_ty, ← hs]
  refine Ser.psum_ext _ (fun e he => ?_)
  have hle : p ^ e ≤ d := by
    rcases Nat.eq_zero_or_pos e with rfl | h0
    · rw [Nat.pow_zero]; omega
    · exact ((needN_at p hin d hd e (List.mem_range.2 (by omega))).1 ⟨h0, by omega⟩).2
  rw [if_pos hle, pwF_pw2]
end Tyc
end Go.Proofs.Ytfhdgcndiljjcab

/- Contract of stretch. -/
namespace Go.Proofs.Ytfhdgcndiljjcab
open Go.RowKit Go.WideShapes Go.ChangeShapes Go.ChangeAt

/-- the whole power of p that the degree n is stretched by -/
def strN (p n : Nat) : Nat := p ^ ((n - 1) / (p - 1))
theorem strN_is : ∀ p ∈ [2, 3, 5, 7], ∀ n ∈ List.range 11, ∀ k ∈ List.range 10, (k = 0 ∨ k * (p - 1) + 1 ≤ n) → n < (k + 1) * (p - 1) + 1 → strN p n = p ^ k := by decide
theorem strN_pow : ∀ p ∈ [2, 3, 5, 7], ∀ n ∈ List.range 11, ∀ k ∈ List.range 10, (k = 0 ∨ k * (p - 1) + 1 ≤ n) → p ^ k ≤ 512 := by decide
theorem strN_bd : ∀ p ∈ [2, 3, 5, 7], ∀ n ∈ List.range 11, 1 ≤ strN p n ∧ strN p n ≤ 512 := by decide
theorem strN_k {p : Nat} (h : p = 2 ∨ p = 3 ∨ p = 5 ∨ p = 7) {k n : Nat} (hn : n ≤ 10) (hk : k * (p - 1) + 1 ≤ n) : k ≤ 9 := by
  have : k * 1 ≤ k * (p - 1) := Nat.mul_le_mul_left k (by omega)
  omega
set_option maxHeartbeats 1000000 in
theorem stretch_any (p n : Nat) (w : World) (hp : p = 2 ∨ p = 3 ∨ p = 5 ∨ p = 7) (hn : n ≤ 10) :
    Calls Try.prog 39 #[.int .i64 p, .int .i64 n] w fun e w' => e = .returned (.int .i64 (strN p n)) ∧ w = w' := by
  have HL := Lib.hid (fun k (h : k * (p - 1) + 1 ≤ n) => strN_k hp hn h)
  have HE := Lib.hid (fun k (hk : k ≤ 9) => strN_is p (in4 hp) n (List.mem_range.2 (by omega)) k (List.mem_range.2 (by omega)))
  have HB := Lib.hid (fun k (hk : k ≤ 9) => strN_pow p (in4 hp) n (List.mem_range.2 (by omega)) k (List.mem_range.2 (by omega)))
  have hp7 : p ≤ 7 := by omega
  have hp2 : 2 ≤ p := by omega
  clear hp
  obtain ⟨r, hr⟩ : ∃ r, p - 1 = r := ⟨_, rfl⟩
  rw [hr] at HL HE HB
  go_enter Try.func39, Try.ntmps39
  go_wp2
  go_loop [5, 6] (fun s3 s4 => ∃ k : Nat, k ≤ 9 ∧ (k = 0 ∨ k * r + 1 ≤ n) ∧ s3 = .int .i64 (p ^ k : Nat) ∧ s4 = .int .i64 ((n : Int) - 1 - ((k * r : Nat) : Int))) (fun _ s4 => (intOf s4 + 1).toNat)
  case atStart => exact ⟨0, by omega, .inl rfl, rfl, by rw [Nat.zero_mul]; go_num⟩
  case round =>
    obtain ⟨k, hk, hk2, rfl, rfl⟩ := hrel
    have HK := Lib.hid hk2
    have hb := HB.out k hk hk2
    obtain ⟨q, hq⟩ : ∃ q, p ^ k = q := ⟨_, rfl⟩
    have HQ := Lib.hid hq
    obtain ⟨t, ht⟩ : ∃ t, k * r = t := ⟨_, rfl⟩
    have HT := Lib.hid ht
    rw [hq] at hb ⊢
    rw [ht] at hk2 ⊢
    clear hq ht
    by_cases hlt : r + t + 1 ≤ n
    · have i1 : (n : Int) - 1 - (t : Int) ≥ (p : Int) - 1 := by omega
      have h1 : (k + 1) * r = t + r := by rw [Nat.succ_mul, HT.out]
      have h3 := HL.out (k + 1) (by rw [h1]; omega)
      have hm : 0 ≤ (q : Int) * (p : Int) ∧ (q : Int) * (p : Int) ≤ 4000 := by
        refine ⟨Int.mul_nonneg (by omega) (by omega), ?_⟩
        have := Int.mul_le_mul (show (q : Int) ≤ 512 by omega) (show (p : Int) ≤ 7 by omega) (by omega) (by omega)
        omega
      have HM := Lib.hid (show (q : Int) * (p : Int) = ((p ^ (k + 1) : Nat) : Int) by rw [Nat.pow_succ, HQ.out, Int.natCast_mul])
      have H1 := Lib.hid h1
      clear h1
      go_wp2
      go_round
      case rel => exact ⟨k + 1, by omega, .inr (by rw [H1.out]; omega), by rw [HM.out], by rw [H1.out]; go_num⟩
      case measure => simp only [intOf]; omega
    · have i1 : ¬ (n : Int) - 1 - (t : Int) ≥ (p : Int) - 1 := by omega
      have HN := Lib.hid (HE.out k hk HK.out (by rw [Nat.succ_mul, HT.out]; omega))
      go_wp2
      go_ret
      exact ⟨ret_int (by rw [HN.out, HQ.out]), rfl⟩
end Go.Proofs.Ytfhdgcndiljjcab

/- Copies with great moduli, up to 10^8: written by wip/tools/mk_bga.py out of Fil, Gtu, Gop, Gse. -/
namespace Go.Proofs.Ytfhdgcndiljjcab
open Go.RowKit Go.WideShapes Go.ChangeShapes Go.ChangeAt

set_option maxHeartbeats 4000000 in
set_option maxRecDepth 100000 in
theorem filled_anyG (m : Int) (d fn : Nat) (cap : Array Value) (f : Nat → Nat → Int) (w : World) (h1 : 1 ≤ m) (h2 : m ≤ 100000000) (hd : d ≤ 1000) (hlo : ∀ i j, i + j ≤ d → -4000000000000000000 ≤ f i j ∧ f i j ≤ 4000000000000000000)
    (hen : ∀ (args : Array Value) (W : World), (callFunc fn args).run Try.prog W = .ok (.enter fn args) W)
    (hf : ∀ (i j : Nat) (W : World), i + j ≤ d → Below w.heap.size w W → Calls Try.prog fn (#[.int .i64 i, .int .i64 j] ++ cap) W fun e w' => e = .returned (.int .i64 (f i j)) ∧ Below W.heap.size W w') :
    Calls Try.prog 44 #[.agg #[.int .i64 m, .int .i64 d], .func (.func fn) #[] cap] w fun e w' => ∃ v, e = .returned (.agg #[.int .i64 m, .int .i64 d, v]) ∧ OwnR w' w.heap.size w'.heap.size v (Pl.tab m d f) ∧ Below w.heap.size w w' := by
  have HF := Lib.hid hf
  have HL := Lib.hid hlo
  clear hf hlo
  have hmk : ∀ W : World, (Instr.makeSlice 23 (.int .i64 ((d : Int) + 1)) (.int .i64 ((d : Int) + 1))).run Try.prog W = .ok (.slice (some ⟨W.heap.size, 0, none⟩) (d + 1) (d + 1)) (W.alloc (.cells (madeCells #[Value.slice none 0 0] (d + 1)) 22)) := by
    intro W
    have := run_make_row' (P := Try.prog) 23 22 (.slice none 0 0) 24 Try.underlying23 infoRow rfl .i64 .i64 (d + 1) (by omega) (by omega) W
    rwa [show ((d + 1 : Nat) : Int) = (d : Int) + 1 by omega] at this
  have hmk2 : ∀ (n : Nat) (W : World), n ≤ 1001 → (Instr.makeSlice 22 (.int .i64 (n : Int)) (.int .i64 (n : Int))).run Try.prog W = .ok (.slice (some ⟨W.heap.size, 0, none⟩) n n) (W.alloc (.cells (madeCells #[.int .i64 0] n) 2)) := by
    intro n W hn
    exact run_make_row' (P := Try.prog) 22 2 (.int .i64 0) 8 Try.underlying22 info64 rfl .i64 .i64 n (by omega) (by omega) W
  have HM2 := Lib.hid hmk2
  clear hmk2
  go_enter Try.func44, Try.ntmps44
  go_wp2
  go_loopw [15] (fun i wr => ∃ k : Nat, k ≤ d + 1 ∧ i = .int .i64 k ∧ OwnR wr (w.heap.size + 2) wr.heap.size (.slice (some ⟨w.heap.size + 1 + 1, 0, none⟩) (d + 1) (d + 1)) ((Pl.tab m d f).take k ++ List.replicate (d + 1 - k) []) ∧ FilV w wr m d ∧ Below w.heap.size w wr) (fun i _ => d + 1 - (intOf i).toNat)
  case atStart =>
    refine ⟨0, Nat.zero_le _, rfl, ?_, ⟨?_, ?_⟩, below_alloc _ (below_alloc _ (below_one _ _))⟩
    · have h := OwnR.made ((w.alloc (.cells #[.int .i64 m, .int .i64 d] 41)).alloc (.cells #[.int .i64 0, .int .i64 0, .slice none 0 0] 43)) (d + 1) (by unfold maxLen; omega)
      simpa using h
    · exact ((VarC.new 41 w _).keep (below_one _ _)).keep (below_one _ _)
    · have h := (VarC.new 43 (w.alloc (.cells #[.int .i64 m, .int .i64 d] 41)) #[.int .i64 0, .int .i64 0, .slice none 0 0]).keep (below_one _ (.cells (madeCells #[Value.slice none 0 0] (d + 1)) 22))
      simpa using h
  case round =>
    clear hmk
    obtain ⟨k, hk, rfl, hown, hvar, hbel⟩ := hrel
    have HV := Lib.hid hvar
    have HB := Lib.hid hbel
    have HO := Lib.hid hown
    clear hown hbel hvar
    by_cases hlt : k < d + 1
    · obtain ⟨v0, v1⟩ := HV.out.c
      have hkd : (k : Int) < (d : Int) + 1 := by omega
      go_wp2_with fail
      refine (lenRow_any m d k _ hd (by omega)).mono ?_
      rintro e w1 ⟨rfl, hb1⟩
      obtain ⟨N, hN⟩ : ∃ N, d - k + 1 = N := ⟨_, rfl⟩
      have hN1 : N ≤ 1001 := by omega
      have hmk := fun W => HM2.out N W hN1
      rw [hN]
      have HN := Lib.hid hN
      have HB1 := Lib.hid (HB.out.trans (hb1.mono HB.out.size))
      have hb2 := below_one w1 (.cells (madeCells #[.int .i64 0] N) 2)
      have hsz1 := hb1.size
      have ho1 := HO.out.keep (hb1.trans (hb2.mono hsz1))
      have hlen : k < ((Pl.tab m d f).take k ++ List.replicate (d + 1 - k) []).length := by have := Pl.tab_length m d f; simp; omega
      obtain ⟨_, o2, _, o4, _, _, o5, _⟩ := ho1.cell k hlen
      have hput := ho1.put k hlen (.slice (some ⟨w1.heap.size, 0, none⟩) N N) (List.replicate N 0) ((OwnI.made w1 N (by unfold maxLen; omega)).more (by omega))
        (hi' := w1.heap.size + 1) (fun b hb => by have : b = w1.heap.size := by simpa [Value.ownBlock] using hb.symm
                                                  omega) (by omega)
      rw [Pl.tab_step m d f k (by omega)] at hput
      have hv1 := ((HV.out.keep hb1).keep hb2).far (w.heap.size + 1 + 1) k (.slice (some ⟨w1.heap.size, 0, none⟩) N N) (by omega)
      have hbw : Below w.heap.size w ((w1.alloc (.cells (madeCells #[.int .i64 0] N) 2)).setCell ⟨w.heap.size + 1 + 1, k, none⟩ (.slice (some ⟨w1.heap.size, 0, none⟩) N N)) :=
        (below_step HB1.out hb2).setCell (by show w.heap.size ≤ w.heap.size + 1 + 1; omega) _
      obtain ⟨x0, x1⟩ := hv1.c
      obtain ⟨w3, hw3⟩ : ∃ w3, (w1.alloc (.cells (madeCells #[.int .i64 0] N) 2)).setCell ⟨w.heap.size + 1 + 1, k, none⟩ (.slice (some ⟨w1.heap.size, 0, none⟩) N N) = w3 := ⟨_, rfl⟩
      have hs3 : w1.heap.size + 1 = w3.heap.size := by rw [← hw3]; simp [World.setCell]
      rw [hw3] at hput hv1 hbw
      rw [hs3] at hput
      have HP := Lib.hid hput
      have HV3 := Lib.hid hv1
      have HB3 := Lib.hid hbw
      have HW3 := Lib.hid hw3
      clear hN hput hv1 hbw hw3 ho1 hb2 hlen hs3 hsz1 HB1 HV HB HO
      go_wp2_with fail
      rw [HW3.out]
      refine (lenRow_any m d k _ hd (by omega)).mono ?_
      rintro e w4 ⟨rfl, hb4⟩
      rw [HN.out]
      have HP4 := Lib.hid ((HP.out.keep hb4).more hb4.size)
      have HV4 := Lib.hid (HV3.out.keep hb4)
      have HB4 := Lib.hid (below_step HB3.out hb4)
      clear HP HV3 HB3 hb4 HW3 hmk v0 v1 x0 x1 hb1
      go_wp2
      go_loopw [28] (fun i wr => ∃ j : Nat, j ≤ N ∧ i = .int .i64 j ∧ OwnR wr (w.heap.size + 2) wr.heap.size (.slice (some ⟨w.heap.size + 1 + 1, 0, none⟩) (d + 1) (d + 1)) ((Pl.tab m d f).take k ++ (((Ser.cut m (d - k) (f k)).take j ++ List.replicate (N - j) 0) :: List.replicate (d + 1 - (k + 1)) [])) ∧ FilV w wr m d ∧ Below w.heap.size w wr) (fun i _ => N - (intOf i).toNat)
      case atStart => exact ⟨0, Nat.zero_le _, rfl, by simpa using HP4.out, HV4.out, HB4.out⟩
      case round =>
        clear HP4 HV4 HB4
        obtain ⟨j, hj, rfl, hown, hvar, hbel⟩ := hrel
        have HV := Lib.hid hvar
        have HB := Lib.hid hbel
        have HO := Lib.hid hown
        clear hown hbel hvar
        by_cases hjt : j < N
        · obtain ⟨v0, v1⟩ := HV.out.c
          have hNk := HN.out
          obtain ⟨q1, q2⟩ := HL.out k j (by omega)
          obtain ⟨F, hF⟩ : ∃ F, f k j = F := ⟨_, rfl⟩
          have hcl : ∀ W : World, Below wr.heap.size wr W → _ := fun W hW => HF.out k j W (by omega) (HB.out.trans (hW.mono HB.out.size))
          rw [hF] at q1 q2 hcl
          have HC := Lib.hid hcl
          have hTl : k < ((Pl.tab m d f).take k ++ (((Ser.cut m (d - k) (f k)).take j ++ List.replicate (N - j) 0) :: List.replicate (d + 1 - (k + 1)) [])).length := by rw [Pl.tab_mid_length m d f k (by omega)]; omega
          obtain ⟨b, c', g1, g2, g3, g4, hcel⟩ := HO.out.numB k j N hTl (by rw [Pl.tab_mid m d f k (by omega)]; have := row_len m (d - k) (f k) j (by omega); rw [hNk] at this; exact this) hjt
          have hset : ∀ _ : Nat, ((Pl.tab m d f).take k ++ (((Ser.cut m (d - k) (f k)).take j ++ List.replicate (N - j) 0) :: List.replicate (d + 1 - (k + 1)) [])).set k ((Pl.rw' ((Pl.tab m d f).take k ++ (((Ser.cut m (d - k) (f k)).take j ++ List.replicate (N - j) 0) :: List.replicate (d + 1 - (k + 1)) [])) k).set j (F % m)) =
              (Pl.tab m d f).take k ++ (((Ser.cut m (d - k) (f k)).take (j + 1) ++ List.replicate (N - (j + 1)) 0) :: List.replicate (d + 1 - (k + 1)) []) := by
            intro _
            rw [Pl.tab_mid m d f k (by omega), Pl.tab_step2 m d f k (by omega), ← hF, cut_stepL m (d - k) (f k) j N hNk.symm (by omega)]
          have hcell2 : ∀ W, Below wr.heap.size wr W → (W.cell? ⟨w.heap.size + 1 + 1, k, none⟩ = some (.slice (some ⟨b, 0, none⟩) N c') ∧ (∃ y, W.cell? ⟨b, j, none⟩ = some (.int .i64 y)) ∧ W.frozen? ⟨b, j, none⟩ = false ∧
              OwnR (W.setCell ⟨b, j, none⟩ (.int .i64 (F % m))) (w.heap.size + 2) wr.heap.size (.slice (some ⟨w.heap.size + 1 + 1, 0, none⟩) (d + 1) (d + 1)) ((Pl.tab m d f).take k ++ (((Ser.cut m (d - k) (f k)).take (j + 1) ++ List.replicate (N - (j + 1)) 0) :: List.replicate (d + 1 - (k + 1)) []))) := by
            intro W hW
            obtain ⟨c1, c2, c3, c4⟩ := hcel W hW
            have := c4 (F % m)
            rw [hset 0] at this
            exact ⟨c1, ⟨_, c2⟩, c3, this⟩
          have HCE := Lib.hid hcell2
          obtain ⟨c1, _⟩ := hcell2 wr (Below.refl _ _)
          have i1 : (0 : Int) ≤ (j : Int) := by omega
          have i2 : (j : Int) < (N : Int) := by omega
          have i3 : (0 : Int) ≤ (k : Int) := by omega
          have l1 : w.heap.size < wr.heap.size := HV.out.1.lt
          clear hF hcl hTl hcel hset hcell2 hNk
          go_wp2
          go_region_held3 (fun w' => w'.cell? ⟨w.heap.size, 0, none⟩ = some (.int .i64 m) ∧ w'.cell? ⟨w.heap.size + 1 + 1, k, none⟩ = some (.slice (some ⟨b, 0, none⟩) N c')) (first | exact ⟨v0, c1⟩ | exact kp_call hb5 ⟨v0, c1⟩ | exact kp_store (by show b ≠ w.heap.size; omega) g4 (by assumption)) (first
            | (go_at_call 67; refine (remB_any _ _ _ h1 h2 q1 q2).mono ?_; rintro e w' ⟨rfl, rfl⟩)
            | (refine (HC.out _ (below_drew0 _)).mono ?_; rintro e w5 ⟨rfl, hb5⟩; obtain ⟨_, ⟨y0, s2⟩, s3, s4⟩ := HCE.out w5 (below_step (below_drew0 _) hb5)))
          all_goals
            have k1 := s4.more (show wr.heap.size ≤ (w5.setCell ⟨b, j, none⟩ (.int .i64 (F % m))).heap.size by have := hb5.size; simp only [World.setCell, Array.size_modify]; exact this)
            have k2 := (HV.out.keep (below_step (below_drew0 _) hb5)).far b j (.int .i64 (F % m)) g2
            have k3 := (below_step HB.out (below_step (below_drew0 wr) hb5)).setCell (p := ⟨b, j, none⟩) (by show w.heap.size ≤ b; omega) (.int .i64 (F % m))
            have K1 := Lib.hid k1
            have K2 := Lib.hid k2
            have K3 := Lib.hid k3
            clear k1 k2 k3 s4 HCE HC hb5 s2 s3
            go_wp2
            go_roundw
            case rel => exact ⟨j + 1, by omega, by go_num, K1.out, K2.out, K3.out⟩
            case measure => simp only [intOf]; omega
        · obtain rfl : j = N := by omega
          have ho := HO.out
          have hNk := HN.out
          rw [List.take_of_length_le (l := Ser.cut m (d - k) (f k)) (by rw [Ser.cut_length]; omega), Nat.sub_self, List.replicate_zero, List.append_nil, Pl.tab_done m d f k (by omega)] at ho
          have HO2 := Lib.hid ho
          clear ho HO hNk
          go_wp2
          go_roundw
          case rel => exact ⟨k + 1, by omega, by go_num, HO2.out, HV.out, HB.out⟩
          case measure => simp only [intOf]; omega
    · obtain rfl : k = d + 1 := by omega
      have ho := HO.out
      rw [Pl.tab_take_all, Nat.sub_self, List.replicate_zero, List.append_nil] at ho
      obtain ⟨v0, v1⟩ := HV.out.c
      have hv := HV.out.2
      have q3 := hv.fz 0
      have q4 := hv.fz 1
      have q5 := hv.fz 2
      have q6 := hv.cell 0 _ rfl
      have q7 := hv.cell 1 _ rfl
      have q8 := hv.cell 2 _ rfl
      simp only [List.getElem_toArray, List.getElem_cons_zero, List.getElem_cons_succ] at q6 q7 q8
      obtain ⟨f0, f1, f2, f3, f4⟩ := fin_grid (w := w) hv ho (by omega) (by omega) (Nat.le_refl _) HB.out (.int .i64 m) (.int .i64 d) (.slice (some ⟨w.heap.size + 1 + 1, 0, none⟩) (d + 1) (d + 1))
      have F3 := Lib.hid f3
      have F4 := Lib.hid f4
      unfold set3 at f0 f1 f2
      clear f3 f4 ho hv HO HV HB
      go_wp2
      refine bodyPost_ret (v := .agg #[.int .i64 m, .int .i64 d, .slice (some ⟨w.heap.size + 1 + 1, 0, none⟩) (d + 1) (d + 1)]) (by simp [results, Try.results44, go_sem, f0, f1, f2]) rfl ⟨_, rfl, F3.out.low (by omega), F4.out⟩
set_option maxHeartbeats 1000000 in
theorem turnedC_anyG (i j g : Nat) (m : Int) (d : Nat) (A : Option Addr) (c : Nat) (t : List (List Int)) (W : World) (hb : GBox W g m d A t.length c) (hs : Pl.OkG m d t) (hr : RP W A t) (hij : i + j ≤ d) :
    Calls Try.prog 88 #[.int .i64 i, .int .i64 j, .pointer (some ⟨g, 0, none⟩)] W fun e w' => e = .returned (.int .i64 (Pl.pc t j i)) ∧ Below W.heap.size W w' := by
  obtain ⟨_, _, x2, _⟩ := hb
  obtain ⟨b, off, b', off', c', rfl, -, k1, -, k2⟩ := hr.num j i (by rw [hs.len]; omega) (by rw [hs.row j (by omega)]; omega)
  have hl := hs.len
  have hrw := hs.row j (by omega)
  obtain ⟨N, hN⟩ : ∃ N, d - j + 1 = N := ⟨_, rfl⟩
  obtain ⟨L, hL⟩ : ∃ L, t.length = L := ⟨_, rfl⟩
  obtain ⟨X, hX⟩ : ∃ X, Pl.pc t j i = X := ⟨_, rfl⟩
  rw [hrw, hN] at k1
  rw [hX] at k2 ⊢
  rw [hL] at x2
  have j1 : (0 : Int) ≤ (j : Int) := by omega
  have j2 : (j : Int) < (L : Int) := by omega
  have j3 : (0 : Int) ≤ (i : Int) := by omega
  have j4 : (i : Int) < (N : Int) := by omega
  clear hl hrw hN hL hX hr hs
  go_enter Try.func88, Try.ntmps88
  go_wp2
  go_ret
  exact ⟨rfl, Below.refl _ _⟩
set_option maxHeartbeats 2000000 in
set_option maxRecDepth 100000 in
theorem turned_anyG (m : Int) (d : Nat) (A : Option Addr) (c : Nat) (t : List (List Int)) (w : World) (hs : Pl.OkG m d t) (hr : RP w A t) :
    Calls Try.prog 82 #[.agg #[.int .i64 m, .int .i64 d, .slice A t.length c]] w fun e w' => ∃ v, e = .returned (.agg #[.int .i64 m, .int .i64 d, v]) ∧ OwnR w' w.heap.size w'.heap.size v (Pl.tab m d (fun i j => Pl.pc t j i)) ∧ Below w.heap.size w w' := by
  obtain ⟨W, hW, b1, v3, hwb⟩ := gpro1 w m d A t.length c
  have HS := Lib.hid (filled_anyG m d 88 #[.pointer (some ⟨w.heap.size, 0, none⟩)] (fun i j => Pl.pc t j i) W (by have := hs.m1; omega) hs.m2 (by have := hs.d2; omega)
    (fun i j hij => by have := hs.pc j i; have := hs.m2; omega) (enters_fn Try.func88 (of_decide_eq_true (by kernel_rfl)) rfl)
    (fun i j W1 hij hb => turnedC_anyG i j _ m d A c t W1 (b1.keep hb) hs ((hr.below hwb).below hb) hij))
  have HB := Lib.hid hwb
  have HW := Lib.hid hW
  have V3 := Lib.hid v3
  obtain ⟨T, hT⟩ : ∃ T, Pl.tab m d (fun i j => Pl.pc t j i) = T := ⟨_, rfl⟩
  rw [hT] at HS ⊢
  obtain ⟨L, hL⟩ : ∃ L, t.length = L := ⟨_, rfl⟩
  rw [hL] at HW ⊢
  clear b1 v3 hwb hW hr hs hT hL
  go_enter Try.func82, Try.ntmps82
  go_wp2_with fail
  rw [HW.out]
  refine HS.out.mono ?_
  rintro e w2 ⟨v, rfl, ho, hb⟩
  obtain ⟨A2, c2, rfl, -⟩ := ho.len
  have hv := V3.out.keep hb
  obtain ⟨q0, q1, q2, q3, q4, q5⟩ := hv.tells3
  obtain ⟨f0, f1, f2, f3, f4⟩ := fin_grid (w := w) hv ho (by have := V3.out.lt; omega) (by omega) (Nat.le_refl _) (below_step HB.out hb) (.int .i64 m) (.int .i64 d) (.slice A2 T.length c2)
  have F3 := Lib.hid (f3.low (show w.heap.size ≤ W.heap.size from HB.out.size))
  have F4 := Lib.hid f4
  unfold set3 at f0 f1 f2
  clear f3 f4 ho hv hb
  go_wp2
  exact bodyPost_ret (v := .agg #[.int .i64 m, .int .i64 d, .slice A2 T.length c2]) (by simp [results, Try.results82, go_sem, f0, f1, f2]) rfl ⟨_, rfl, F3.out, F4.out⟩
/-- one number of a grid: what the walk reads -/
theorem GBox.numG {W : World} {g : Nat} {m : Int} {d b off c : Nat} {t : List (List Int)} (hb : GBox W g m d (some ⟨b, off, none⟩) t.length c) (hs : Pl.OkG m d t) (hr : RP W (some ⟨b, off, none⟩) t) (i j : Nat) (hij : i + j ≤ d) :
    ∃ b' off' c' L N, L = d + 1 ∧ N = d - i + 1 ∧ W.cell? ⟨g, 2, none⟩ = some (.slice (some ⟨b, off, none⟩) L c) ∧ W.cell? ⟨b, off + i, none⟩ = some (.slice (some ⟨b', off', none⟩) N c') ∧ W.cell? ⟨b', off' + j, none⟩ = some (.int .i64 (Pl.pc t i j)) := by
  obtain ⟨_, _, x2, _⟩ := hb
  obtain ⟨b0, off0, b', off', c', e, -, k1, -, k2⟩ := hr.num i j (by rw [hs.len]; omega) (by rw [hs.row i (by omega)]; omega)
  injection e with e
  injection e with e1 e2
  subst e1 e2
  exact ⟨b', off', c', t.length, _, hs.len, hs.row i (by omega), x2, k1, k2⟩
set_option maxHeartbeats 1000000 in
theorem gplusC_anyG (i j g g' : Nat) (m : Int) (d : Nat) (A : Option Addr) (c : Nat) (t : List (List Int)) (A' : Option Addr) (c' : Nat) (t' : List (List Int)) (W : World) (hb : GBox W g m d A t.length c) (hb' : GBox W g' m d A' t'.length c') (hs : Pl.OkG m d t) (hs' : Pl.OkG m d t') (hr : RP W A t) (hr' : RP W A' t') (hij : i + j ≤ d) :
    Calls Try.prog 83 #[.int .i64 i, .int .i64 j, .pointer (some ⟨g, 0, none⟩), .pointer (some ⟨g', 0, none⟩)] W fun e w' => e = .returned (.int .i64 (Pl.pc t i j + Pl.pc t' i j)) ∧ Below W.heap.size W w' := by
  obtain ⟨b, off, rfl⟩ := hr.some (by rw [hs.len]; omega)
  obtain ⟨b', off', rfl⟩ := hr'.some (by rw [hs'.len]; omega)
  obtain ⟨p1, p2, p3, L, N, hL, hN, x1, x2, x3⟩ := hb.numG hs hr i j hij
  obtain ⟨q1, q2, q3, L', N', hL', hN', y1, y2, y3⟩ := hb'.numG hs' hr' i j hij
  have r1 := hs.pc i j
  have r2 := hs'.pc i j
  have hm := hs.m2
  obtain ⟨X, hX⟩ : ∃ X, Pl.pc t i j = X := ⟨_, rfl⟩
  obtain ⟨Y, hY⟩ : ∃ Y, Pl.pc t' i j = Y := ⟨_, rfl⟩
  rw [hX] at x3 r1 ⊢
  rw [hY] at y3 r2 ⊢
  obtain ⟨r1, r3⟩ := r1
  obtain ⟨r2, r4⟩ := r2
  have j1 : (0 : Int) ≤ (i : Int) := by omega
  have j2 : (i : Int) < (L : Int) := by omega
  have j3 : (0 : Int) ≤ (j : Int) := by omega
  have j4 : (j : Int) < (N : Int) := by omega
  have j5 : (i : Int) < (L' : Int) := by omega
  have j6 : (j : Int) < (N' : Int) := by omega
  clear hb hb' hr hr' hs hs' hX hY hL hN hL' hN'
  go_enter Try.func83, Try.ntmps83
  go_wp2
  go_quiet (fail)
  go_wp2
  go_ret
  exact ⟨rfl, below_drewN (Below.refl _ _) _⟩
set_option maxHeartbeats 2000000 in
set_option maxRecDepth 100000 in
theorem gplus_anyG (m : Int) (d : Nat) (A : Option Addr) (c : Nat) (t : List (List Int)) (A' : Option Addr) (c' : Nat) (t' : List (List Int)) (w : World) (hs : Pl.OkG m d t) (hs' : Pl.OkG m d t') (hr : RP w A t) (hr' : RP w A' t') :
    Calls Try.prog 62 #[.agg #[.int .i64 m, .int .i64 d, .slice A t.length c], .agg #[.int .i64 m, .int .i64 d, .slice A' t'.length c']] w fun e w' => ∃ v, e = .returned (.agg #[.int .i64 m, .int .i64 d, v]) ∧ OwnR w' w.heap.size w'.heap.size v (Pl.tab m d (fun i j => Pl.pc t i j + Pl.pc t' i j)) ∧ Below w.heap.size w w' := by
  obtain ⟨W, hW, b1, b2, v3, hwb⟩ := gpro2 w m d A t.length c m d A' t'.length c'
  have HS := Lib.hid (filled_anyG m d 83 #[.pointer (some ⟨w.heap.size, 0, none⟩), .pointer (some ⟨w.heap.size + 1, 0, none⟩)] (fun i j => Pl.pc t i j + Pl.pc t' i j) W (by have := hs.m1; omega) hs.m2 (by have := hs.d2; omega)
    (fun i j hij => by have := hs.pc i j; have := hs'.pc i j; have := hs.m2; omega) (enters_fn Try.func83 (of_decide_eq_true (by kernel_rfl)) rfl)
    (fun i j W1 hij hb => gplusC_anyG i j _ _ m d A c t A' c' t' W1 (b1.keep hb) (b2.keep hb) hs hs' ((hr.below hwb).below hb) ((hr'.below hwb).below hb) hij))
  have HB := Lib.hid hwb
  have HW := Lib.hid hW
  have V3 := Lib.hid v3
  obtain ⟨T, hT⟩ : ∃ T, Pl.tab m d (fun i j => Pl.pc t i j + Pl.pc t' i j) = T := ⟨_, rfl⟩
  rw [hT] at HS ⊢
  clear b1 b2 v3 hwb hW hr hr' hs hs' hT
  go_enter Try.func62, Try.ntmps62
  go_wp2_with fail
  rw [HW.out]
  refine HS.out.mono ?_
  rintro e w2 ⟨v, rfl, ho, hb⟩
  obtain ⟨A2, c2, rfl, -⟩ := ho.len
  have hv := V3.out.keep hb
  obtain ⟨q0, q1, q2, q3, q4, q5⟩ := hv.tells3
  obtain ⟨f0, f1, f2, f3, f4⟩ := fin_grid (w := w) hv ho (by have := V3.out.lt; omega) (by omega) (Nat.le_refl _) (below_step HB.out hb) (.int .i64 m) (.int .i64 d) (.slice A2 T.length c2)
  have F3 := Lib.hid (f3.low (show w.heap.size ≤ W.heap.size from HB.out.size))
  have F4 := Lib.hid f4
  unfold set3 at f0 f1 f2
  clear f3 f4 ho hv hb
  go_wp2
  exact bodyPost_ret (v := .agg #[.int .i64 m, .int .i64 d, .slice A2 T.length c2]) (by simp [results, Try.results62, go_sem, f0, f1, f2]) rfl ⟨_, rfl, F3.out, F4.out⟩
theorem gosC_anyG (i j g : Nat) (m : Int) (d : Nat) (A : Option Addr) (c : Nat) (l : List Int) (W : World) (hb : Box W g m A l.length c) (hs : SerOkG m d l) (hr : RI W A l) (hij : i + j ≤ d) :
    Calls Try.prog 81 #[.int .i64 i, .int .i64 j, .pointer (some ⟨g, 0, none⟩)] W fun e w' => e = .returned (.int .i64 (if i = 0 then Ser.co l j else 0)) ∧ Below W.heap.size W w' := by
  obtain ⟨_, x2, _⟩ := hb
  by_cases hi : i = 0
  · rw [if_pos hi]
    subst hi
    obtain ⟨b, off, rfl, hlt, hc⟩ := hr.at j (by rw [hs.len]; omega)
    obtain ⟨X, hX⟩ : ∃ X, Ser.co l j = X := ⟨_, rfl⟩
    rw [hX] at hc ⊢
    have j0 : (0 : Int) ≤ (j : Int) := by omega
    have j1 : (j : Int) < (l.length : Int) := by have := hs.len; omega
    clear hX hr hs
    go_enter Try.func81, Try.ntmps81
    go_wp2
    go_ret
    exact ⟨rfl, Below.refl _ _⟩
  · rw [if_neg hi]
    have hi2 : ¬ (i : Int) = 0 := by omega
    obtain ⟨n1, n2⟩ := ne_facts hi2
    clear hi hr hs
    go_enter Try.func81, Try.ntmps81
    go_wp2
    go_ret
    exact ⟨rfl, Below.refl _ _⟩
set_option maxHeartbeats 2000000 in
set_option maxRecDepth 100000 in
theorem gridOfSeries_anyG (m : Int) (d : Nat) (A : Option Addr) (c : Nat) (l : List Int) (k : Int) (w : World) (hs : SerOkG m d l) (hr : RI w A l) :
    Calls Try.prog 61 #[.agg #[.int .i64 m, .slice A l.length c], .int .i64 k] w fun e w' => ∃ v, e = .returned (.agg #[.int .i64 m, .int .i64 d, v]) ∧ OwnR w' w.heap.size w'.heap.size v (Pl.tab m d (gosF l k)) ∧ Below w.heap.size w w' := by
  obtain ⟨W, hW⟩ : ∃ W, (w.alloc (.cells #[.int .i64 m, .slice A l.length c] 62)).alloc (.cells #[.int .i64 0, .int .i64 0, .slice none 0 0] 43) = W := ⟨_, rfl⟩
  have hwb : Below w.heap.size w W := by rw [← hW]; exact below_alloc _ (below_one _ _)
  have b1 : Box W w.heap.size m A l.length c := by rw [← hW]; exact (Box.newT _ _ _ _ _ _).keep (below_one _ _)
  have v2 : VarC 43 W (w.heap.size + 1) #[.int .i64 0, .int .i64 0, .slice none 0 0] := by
    rw [← hW]
    have := VarC.new 43 (w.alloc (.cells #[.int .i64 m, .slice A l.length c] 62)) #[.int .i64 0, .int .i64 0, .slice none 0 0]
    simpa using this
  have HG := Lib.hid (fun W0 => frameOfSeries_any m A l.length c d W0 hs.len (by have := hs.d2; omega))
  have hm1 := hs.m1
  have HS := Lib.hid (fun W0 (h : Below W.heap.size W W0) => filled_anyG m d 81 #[.pointer (some ⟨w.heap.size, 0, none⟩)] (fun i j => if i = 0 then Ser.co l j else 0) W0 (by omega) hs.m2 (by have := hs.d2; omega)
    (fun i j hij => by have := hs.red j; have := hs.m2; split <;> omega) (enters_fn Try.func81 (of_decide_eq_true (by kernel_rfl)) rfl)
    (fun i j W1 hij hb => gosC_anyG i j _ m d A c l W1 ((b1.keep h).keep hb) hs (((hr.below hwb).below h).below hb) hij))
  have HT := Lib.hid (fun (W0 : World) (A0 : Option Addr) (c0 : Nat) (h : RP W0 A0 (Pl.tab m d fun i j => if i = 0 then Ser.co l j else 0)) => turned_anyG m d A0 c0 _ W0 (Pl.OkG.of_tab hs.m1 hs.m2 hs.d1 hs.d2 _) h)
  have HB := Lib.hid hwb
  have HW := Lib.hid hW
  have V3 := Lib.hid v2
  obtain ⟨x1, x2, x3⟩ := b1
  by_cases hk : k = 0
  · subst hk
    rw [gosF_turned] at HT
    obtain ⟨T0, hT0⟩ : ∃ T0, (Pl.tab m d fun i j => if i = 0 then Ser.co l j else 0) = T0 := ⟨_, rfl⟩
    obtain ⟨T, hT⟩ : ∃ T, Pl.tab m d (gosF l 0) = T := ⟨_, rfl⟩
    rw [hT0] at HS HT
    rw [hT] at HT ⊢
    clear hwb hW v2 hr hs hT hT0
    go_enter Try.func61, Try.ntmps61
    go_wp2_with fail
    rw [HW.out]
    refine (HG.out _).mono ?_
    rintro e w1 ⟨rfl, hb1⟩
    go_wp2_with fail
    refine (HS.out _ hb1).mono ?_
    rintro e w2 ⟨v, rfl, ho2, hb2⟩
    obtain ⟨A1, c1, rfl, hp⟩ := ho2.len
    have HP := Lib.hid (hp.below (below_one w2 (.cells #[.int .i64 m, .int .i64 d, .slice A1 T0.length c1] 43)))
    have hb12 := below_alloc (.cells #[.int .i64 m, .int .i64 d, .slice A1 T0.length c1] 43) (below_step hb1 hb2)
    clear ho2 hp
    go_wp2_with fail
    refine (HT.out _ _ _ HP.out).mono ?_
    rintro e w3 ⟨v, rfl, ho, hb3⟩
    obtain ⟨A2, c2, rfl, -⟩ := ho.len
    have hb := below_step hb12 hb3
    have hv := V3.out.keep hb
    obtain ⟨q0, q1, q2, q3, q4, q5⟩ := hv.tells3
    obtain ⟨f0, f1, f2, f3, f4⟩ := fin_grid (w := w) hv ho (by have := V3.out.lt; have := hb12.size; omega) (by omega) (Nat.le_refl _) (below_step HB.out hb) (.int .i64 m) (.int .i64 d) (.slice A2 T.length c2)
    have F3 := Lib.hid (f3.low (lo' := w.heap.size) (by have := V3.out.lt; have := hb12.size; omega))
    have F4 := Lib.hid f4
    unfold set3 at f0 f1 f2
    clear f3 f4 ho hv hb hb12
    go_wp2
    exact bodyPost_ret (v := .agg #[.int .i64 m, .int .i64 d, .slice A2 T.length c2]) (by simp [results, Try.results61, go_sem, f0, f1, f2]) rfl ⟨_, rfl, F3.out, F4.out⟩
  · obtain ⟨n1, n2⟩ := ne_facts hk
    rw [← gosF_plain m d l k hk]
    obtain ⟨T, hT⟩ : ∃ T0, (Pl.tab m d fun i j => if i = 0 then Ser.co l j else 0) = T0 := ⟨_, rfl⟩
    rw [hT] at HS ⊢
    clear hwb hW v2 hr hs hT HT
    go_enter Try.func61, Try.ntmps61
    go_wp2_with fail
    rw [HW.out]
    refine (HG.out _).mono ?_
    rintro e w1 ⟨rfl, hb1⟩
    go_wp2_with fail
    refine (HS.out _ hb1).mono ?_
    rintro e w2 ⟨v, rfl, ho2, hb2⟩
    obtain ⟨A2, c2, rfl, hp⟩ := ho2.len
    have hb := below_alloc (.cells #[.int .i64 m, .int .i64 d, .slice A2 T.length c2] 43) (below_step hb1 hb2)
    have ho := ho2.keep (below_one w2 (.cells #[.int .i64 m, .int .i64 d, .slice A2 T.length c2] 43))
    have hv := V3.out.keep hb
    obtain ⟨q0, q1, q2, q3, q4, q5⟩ := hv.tells3
    obtain ⟨f0, f1, f2, f3, f4⟩ := fin_grid (w := w) hv ho (by have := V3.out.lt; have := hb1.size; omega) (by omega) (below_one w2 _).size (below_step HB.out hb) (.int .i64 m) (.int .i64 d) (.slice A2 T.length c2)
    have F3 := Lib.hid (f3.low (lo' := w.heap.size) (by have := V3.out.lt; have := hb1.size; omega))
    have F4 := Lib.hid f4
    unfold set3 at f0 f1 f2
    clear f3 f4 ho hv hb ho2 hp
    go_wp2
    exact bodyPost_ret (v := .agg #[.int .i64 m, .int .i64 d, .slice A2 T.length c2]) (by simp [results, Try.results61, go_sem, f0, f1, f2]) rfl ⟨_, rfl, F3.out, F4.out⟩
end Go.Proofs.Ytfhdgcndiljjcab

/- The two closures of typicalLaw. -/
namespace Go.Proofs.Ytfhdgcndiljjcab
open Go.RowKit Go.WideShapes Go.ChangeShapes Go.ChangeAt

theorem strN_div : ∀ p ∈ [2, 3, 5, 7], ∀ k ∈ List.range 4, p ^ k ≤ 10 → strN p (p ^ k) / p ^ k ≤ 16 := by decide
set_option maxHeartbeats 1000000 in
theorem typicalLawA_any (p k g : Nat) (W : World) (hb : Cel W g p) (hp : p = 2 ∨ p = 3 ∨ p = 5 ∨ p = 7) (hk : p ^ k ≤ 10) :
    Calls Try.prog 41 #[.int .i64 (p ^ k : Nat), .pointer (some ⟨g, 0, none⟩)] W fun e w' => e = .returned (.int .i64 (strN p (p ^ k) / p ^ k : Nat)) ∧ Below W.heap.size W w' := by
  have HS := Lib.hid (fun W0 => stretch_any p (p ^ k) W0 hp hk)
  have hq1 : 1 ≤ p ^ k := Nat.pow_pos (by omega)
  have hs := strN_bd p (in4 hp) (p ^ k) (List.mem_range.2 (by omega))
  obtain ⟨q, hq⟩ : ∃ q, p ^ k = q := ⟨_, rfl⟩
  rw [hq] at HS hq1 hs hk ⊢
  obtain ⟨s, hss⟩ : ∃ s, strN p q = s := ⟨_, rfl⟩
  rw [hss] at HS hs ⊢
  obtain ⟨y1, _⟩ := hb
  clear hq hss
  have hz : s / q ≤ s := Nat.div_le_self s q
  have hd : (s : Int) / (q : Int) = ((s / q : Nat) : Int) := (Int.natCast_ediv s q).symm
  obtain ⟨z, hzz⟩ : ∃ z, s / q = z := ⟨_, rfl⟩
  rw [hzz] at hz hd ⊢
  have HD := Lib.hid hd
  clear hd hzz
  go_enter Try.func41, Try.ntmps41
  go_wp2_with fail
  refine (HS.out _).mono ?_
  rintro e w2 ⟨rfl, rfl⟩
  have hz1 : 0 ≤ (s : Int) / (q : Int) ∧ (s : Int) / (q : Int) ≤ 512 := by rw [HD.out]; omega
  go_wp2
  go_ret
  exact ⟨ret_int HD.out, Below.refl _ _⟩
set_option maxHeartbeats 1000000 in
theorem typicalLawB_any (p i j g g' : Nat) (m : Int) (d : Nat) (A : Option Addr) (c : Nat) (t : List (List Int)) (W : World) (hb : GBox W g m d A t.length c) (hb' : Cel W g' p) (hs : Pl.OkG m d t) (hr : RP W A t) (hij : i + j ≤ d) (hp : p = 2 ∨ p = 3 ∨ p = 5 ∨ p = 7) :
    Calls Try.prog 45 #[.int .i64 i, .int .i64 j, .pointer (some ⟨g, 0, none⟩), .pointer (some ⟨g', 0, none⟩)] W fun e w' => e = .returned (.int .i64 (Pl.pc t i j / strN p (i + j))) ∧ Below W.heap.size W w' := by
  have hd := hs.d2
  have HS := Lib.hid (fun W0 => (by have := stretch_any p (i + j) W0 hp (by omega); rw [Int.natCast_add] at this; exact this : Calls Try.prog 39 #[.int .i64 p, .int .i64 ((i : Int) + (j : Int))] W0 fun e w' => e = .returned (.int .i64 (strN p (i + j))) ∧ W0 = w'))
  have hst := strN_bd p (in4 hp) (i + j) (List.mem_range.2 (by omega))
  obtain ⟨b, off, rfl⟩ := hr.some (by rw [hs.len]; omega)
  obtain ⟨p1, p2, p3, L, N, hL, hN, x1, x2, x3⟩ := hb.numG hs hr i j hij
  obtain ⟨y1, _⟩ := hb'
  have r1 := hs.pc i j
  have hm := hs.m2
  obtain ⟨X, hX⟩ : ∃ X, Pl.pc t i j = X := ⟨_, rfl⟩
  rw [hX] at x3 r1 ⊢
  obtain ⟨r1, r3⟩ := r1
  obtain ⟨s, hss⟩ : ∃ s, strN p (i + j) = s := ⟨_, rfl⟩
  rw [hss] at HS hst ⊢
  have j1 : (0 : Int) ≤ (i : Int) := by omega
  have j2 : (i : Int) < (L : Int) := by omega
  have j3 : (0 : Int) ≤ (j : Int) := by omega
  have j4 : (j : Int) < (N : Int) := by omega
  clear hb hr hs hX hL hN hss
  go_enter Try.func45, Try.ntmps45
  have y9 : W.drew.cell? ⟨g', 0, none⟩ = some (.int .i64 p) := y1
  have z1 : W.drew.cell? ⟨g, 2, none⟩ = some (.slice (some ⟨b, off, none⟩) L c) := x1
  have z2 : W.drew.cell? ⟨b, off + i, none⟩ = some (.slice (some ⟨p1, p2, none⟩) N p3) := x2
  have z3 : W.drew.cell? ⟨p1, p2 + j, none⟩ = some (.int .i64 X) := x3
  have HB := Lib.hid (below_drew0 W)
  go_upto_region 1 with fail
  obtain ⟨w9, hw9⟩ : ∃ w9, W.drew = w9 := ⟨_, rfl⟩
  have hS0 : w9 = w9 := rfl
  refine region_tilN (fun w' => w' = w9) 14 (by kernel_rfl) ?_
  rw [hw9] at y9 z1 z2 z3 HB ⊢
  clear hw9 x1 x2 x3 y1
  refine tilN_take (i := 0) (dst := some 7) (.pointer (some ⟨g, 2, none⟩)) rfl rfl (by kernel_rfl) (by kernel_rfl) (by kernel_rfl) (by kernel_rfl) (fun _ _ _ h => h) (Or.inl ⟨by rfl, ?_⟩) hS0 ?_
  · rintro w' rfl
    go_simp
  simp only [Act.put, List.setIfInBounds_toArray, List.set_cons_zero, List.set_cons_succ]
  refine tilN_take (i := 1) (dst := some 8) (.slice (some ⟨b, off, none⟩) L c) rfl rfl (by kernel_rfl) (by kernel_rfl) (by kernel_rfl) (by kernel_rfl) (fun _ _ _ h => h) (Or.inl ⟨by rfl, ?_⟩) hS0 ?_
  · rintro w' rfl
    go_simp
  simp only [Act.put, List.setIfInBounds_toArray, List.set_cons_zero, List.set_cons_succ]
  refine tilN_take (i := 2) (dst := some 9) (.int .i64 i) rfl rfl (by kernel_rfl) (by kernel_rfl) (by kernel_rfl) (by kernel_rfl) (fun _ _ _ h => h) (Or.inl ⟨by rfl, ?_⟩) hS0 ?_
  · rintro w' rfl
    go_simp
  simp only [Act.put, List.setIfInBounds_toArray, List.set_cons_zero, List.set_cons_succ]
  refine tilN_take (i := 3) (dst := some 10) (.pointer (some ⟨b, off + i, none⟩)) rfl rfl (by kernel_rfl) (by kernel_rfl) (by kernel_rfl) (by kernel_rfl) (fun _ _ _ h => h) (Or.inl ⟨by rfl, ?_⟩) hS0 ?_
  · rintro w' rfl
    go_simp
  simp only [Act.put, List.setIfInBounds_toArray, List.set_cons_zero, List.set_cons_succ]
  refine tilN_take (i := 4) (dst := some 11) (.slice (some ⟨p1, p2, none⟩) N p3) rfl rfl (by kernel_rfl) (by kernel_rfl) (by kernel_rfl) (by kernel_rfl) (fun _ _ _ h => h) (Or.inl ⟨by rfl, ?_⟩) hS0 ?_
  · rintro w' rfl
    go_simp
  simp only [Act.put, List.setIfInBounds_toArray, List.set_cons_zero, List.set_cons_succ]
  refine tilN_take (i := 5) (dst := some 12) (.int .i64 j) rfl rfl (by kernel_rfl) (by kernel_rfl) (by kernel_rfl) (by kernel_rfl) (fun _ _ _ h => h) (Or.inl ⟨by rfl, ?_⟩) hS0 ?_
  · rintro w' rfl
    go_simp
  simp only [Act.put, List.setIfInBounds_toArray, List.set_cons_zero, List.set_cons_succ]
  refine tilN_take (i := 6) (dst := some 13) (.pointer (some ⟨p1, p2 + j, none⟩)) rfl rfl (by kernel_rfl) (by kernel_rfl) (by kernel_rfl) (by kernel_rfl) (fun _ _ _ h => h) (Or.inl ⟨by rfl, ?_⟩) hS0 ?_
  · rintro w' rfl
    go_simp
  simp only [Act.put, List.setIfInBounds_toArray, List.set_cons_zero, List.set_cons_succ]
  refine tilN_take (i := 7) (dst := some 14) (.int .i64 X) rfl rfl (by kernel_rfl) (by kernel_rfl) (by kernel_rfl) (by kernel_rfl) (fun _ _ _ h => h) (Or.inl ⟨by rfl, ?_⟩) hS0 ?_
  · rintro w' rfl
    go_simp
  simp only [Act.put, List.setIfInBounds_toArray, List.set_cons_zero, List.set_cons_succ]
  refine tilN_take (i := 8) (dst := some 15) (.int .i64 p) rfl rfl (by kernel_rfl) (by kernel_rfl) (by kernel_rfl) (by kernel_rfl) (fun _ _ _ h => h) (Or.inl ⟨by rfl, ?_⟩) hS0 ?_
  · rintro w' rfl
    go_simp
  simp only [Act.put, List.setIfInBounds_toArray, List.set_cons_zero, List.set_cons_succ]
  refine tilN_take (i := 9) (dst := some 16) (.int .i64 i) rfl rfl (by kernel_rfl) (by kernel_rfl) (by kernel_rfl) (by kernel_rfl) (fun _ _ _ h => h) (Or.inl ⟨by rfl, ?_⟩) hS0 ?_
  · rintro w' rfl
    go_simp
  simp only [Act.put, List.setIfInBounds_toArray, List.set_cons_zero, List.set_cons_succ]
  refine tilN_take (i := 10) (dst := some 17) (.int .i64 j) rfl rfl (by kernel_rfl) (by kernel_rfl) (by kernel_rfl) (by kernel_rfl) (fun _ _ _ h => h) (Or.inl ⟨by rfl, ?_⟩) hS0 ?_
  · rintro w' rfl
    go_simp
  simp only [Act.put, List.setIfInBounds_toArray, List.set_cons_zero, List.set_cons_succ]
  have w1 : IntKind.i64.wrap ((i : Int) + (j : Int)) = (i : Int) + (j : Int) := by rw [IntKind.wrap_i64]; omega
  refine tilN_take (i := 11) (dst := some 18) (.int .i64 ((i : Int) + (j : Int))) rfl rfl (by kernel_rfl) (by kernel_rfl) (by kernel_rfl) (by kernel_rfl) (fun _ _ _ h => h) (Or.inl ⟨by rfl, ?_⟩) hS0 ?_
  · rintro w' rfl
    go_simp
  simp only [Act.put, List.setIfInBounds_toArray, List.set_cons_zero, List.set_cons_succ]
  refine tilN_one (i := 12) (by kernel_rfl) rfl (fun K hK => ?_)
  go_simp
  (go_at_call 39; with_reducible refine Calls.mono (HS.out _) ?_; rintro e w5 ⟨rfl, hb5⟩; subst hb5)
  dsimp only
  refine hK.out _ _ (fun _ => rfl) ?_
  clear hK K
  try simp only [Act.put, List.setIfInBounds_toArray, List.set_cons_zero, List.set_cons_succ]
  have h0 : ¬ s = 0 := by omega
  have hV : IntKind.i64.wrap (X.tdiv (s : Int)) = X / (s : Int) := by
    rw [Int.tdiv_eq_ediv_of_nonneg r1]
    have b1 : 0 ≤ X / (s : Int) := Int.ediv_nonneg r1 (by omega)
    have b2 : X / (s : Int) ≤ X := Int.ediv_le_self _ r1
    obtain ⟨Z, hZ⟩ : ∃ Z, X / (s : Int) = Z := ⟨_, rfl⟩
    rw [hZ] at b1 b2 ⊢
    rw [IntKind.wrap_i64]; omega
  refine tilN_one (i := 13) (by kernel_rfl) rfl (fun K hK => ?_)
  go_simp
  refine hK.out _ _ (fun _ => rfl) ?_
  clear hK K
  refine tilN_one (i := 14) (by kernel_rfl) rfl (fun K hK => ?_)
  go_simp
  refine hK.out _ _ (fun hlt => absurd hlt (by decide)) ?_
  clear hK K
  refine tilN_done (by kernel_rfl) ?_
  go_wp2
  go_ret
  exact ⟨rfl, HB.out⟩
end Go.Proofs.Ytfhdgcndiljjcab

