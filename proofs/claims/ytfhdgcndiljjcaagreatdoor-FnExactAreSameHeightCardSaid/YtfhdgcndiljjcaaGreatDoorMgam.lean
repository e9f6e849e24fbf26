/- Texts of contracts, joined. -/
import Derived.Test.YtfhdgcndiljjcaaGreatDoorMgaa
import Derived.Test.YtfhdgcndiljjcaaGreatDoorMgak
import Derived.Test.YtfhdgcndiljjcaaGreatDoorMgal
import Derived.Test.YtfhdgcndiljjcaaGreatDoorMgah
/- Dividing by a number as often as possible: the plain function, and contracts of takeOut and of the model's valuation. -/
namespace Go.Proofs.YtfhdgcndiljjcaaGreatDoor
open Go.RowKit Go.WideShapes Go.ChangeShapes Go.ChangeAt

/-- dividing n by p as often as possible: how often, and what is left -/
def tk (p n : Int) : Int × Int :=
  if _h : 2 ≤ p ∧ n ≠ 0 ∧ n.tmod p = 0 then ((tk p (n.tdiv p)).1 + 1, (tk p (n.tdiv p)).2) else (0, n)
termination_by n.natAbs
decreasing_by all_goals rw [Int.natAbs_tdiv]; exact Nat.div_lt_self (by omega) (by omega)
theorem tk_yes {p n : Int} (hp : 2 ≤ p) (hn : n ≠ 0) (h : n.tmod p = 0) : tk p n = ((tk p (n.tdiv p)).1 + 1, (tk p (n.tdiv p)).2) := by
  rw [tk, dif_pos ⟨hp, hn, h⟩]
theorem tk_no {p n : Int} (h : ¬ n.tmod p = 0) : tk p n = (0, n) := by rw [tk, dif_neg (fun c => h c.2.2)]
theorem tk_step {p n : Int} (hp : 2 ≤ p) (hn : n ≠ 0) (h : n.tmod p = 0) : n.tdiv p ≠ 0 ∧ (n.tdiv p).natAbs < n.natAbs := by
  refine ⟨fun h0 => ?_, by rw [Int.natAbs_tdiv]; exact Nat.div_lt_self (by omega) (by omega)⟩
  have := Int.tmod_add_mul_tdiv n p
  rw [h, h0] at this
  simp at this
  exact hn this.symm

set_option maxHeartbeats 1000000 in
theorem takeOut_any (p n : Int) (w : World) (hp : 2 ≤ p) (hp2 : p ≤ 1000000000000) (hn : n ≠ 0) (h1 : -1000000000000 ≤ n) (h2 : n ≤ 1000000000000) :
    Calls Tryz.prog 54 #[.int .i64 p, .int .i64 n] w fun e w' => e = .returned (.tuple #[.int .i64 (tk p n).1, .int .i64 (tk p n).2]) ∧ w = w' := by
  have hp0 : ¬ p = 0 := by omega
  go_enter Tryz.func54, Tryz.ntmps54
  go_wp2
  go_loop [6, 1] (fun k x => ∃ (K : Nat) (X : Int), k = .int .i64 K ∧ x = .int .i64 X ∧ X ≠ 0 ∧ K + X.natAbs ≤ 1000000000000 ∧ K + (tk p X).1 = (tk p n).1 ∧ (tk p X).2 = (tk p n).2) (fun _ x => (intOf x).natAbs)
  case atStart => exact ⟨0, n, rfl, rfl, hn, by omega, by omega, rfl⟩
  case round =>
    obtain ⟨K, X, rfl, rfl, hX, hb, e1, e2⟩ := hrel
    have H1 := Lib.hid e1
    have H2 := Lib.hid e2
    clear e1 e2
    by_cases hz : X.tmod p = 0
    · obtain ⟨s1, s2⟩ := tk_step hp hX hz
      have HY := Lib.hid (tk_yes hp hX hz)
      have S1 := Lib.hid s1
      obtain ⟨c1, c2⟩ : -1000000000000 ≤ X.tdiv p ∧ X.tdiv p ≤ 1000000000000 := by omega
      have S2 := Lib.hid s2
      clear s1 s2
      go_wp2
      go_round
      case rel =>
        have h1 := H1.out
        have h2 := H2.out
        rw [HY.out] at h1 h2
        exact ⟨K + 1, X.tdiv p, by go_num, rfl, S1.out, by have := S2.out; omega, by push_cast; omega, h2⟩
      case measure => simp only [intOf]; exact S2.out
    · have HY := Lib.hid (tk_no hz)
      obtain ⟨n1, n2⟩ := ne_facts hz
      go_wp2
      go_ret2
      have h1 := H1.out
      have h2 := H2.out
      rw [HY.out] at h1 h2
      exact ⟨ret_ii (by omega) h2, rfl⟩


end Go.Proofs.YtfhdgcndiljjcaaGreatDoor

/- Contracts of stature, of the program. -/
namespace Go.Proofs.YtfhdgcndiljjcaaGreatDoor
open Go Go.RowKit Go.WideShapes Go.ChangeShapes Go.ChangeAt

/-- the first so many numbers at multiples of n -/
def serH (R : List Int) (n : Nat) : Nat → List Int
  | 0 => []
  | k + 1 => serH R n k ++ [Ser.co R ((k + 1) * n)]
theorem serH_len (R : List Int) (n : Nat) : ∀ k, (serH R n k).length = k
  | 0 => rfl
  | k + 1 => by rw [serH, List.length_append, serH_len R n k]; rfl
theorem serH_head (R : List Int) (n : Nat) : ∀ k, Ser.co (serH R n (k + 1)) 0 = Ser.co R n
  | 0 => by show Ser.co R ((0 + 1) * n) = _; rw [Nat.zero_add, Nat.one_mul]
  | k + 1 => by
    have h := serH_head R n k
    have hl := serH_len R n (k + 1)
    rw [serH]
    unfold Ser.co at h ⊢
    rw [List.getElem?_append_left (by omega)]
    exact h
theorem fin_stat {T : TypeId} {w w2 : World} {g base : Nat} {v x y z : Value} {l : List Int} (hv : VarC T w2 g #[x, y, z]) (ho : OwnI w2 base v l) (hg : g < base) (hwg : w.heap.size ≤ g) (hb : Below w.heap.size w w2) (p q r : Value) :
    (set3 w2 g p q r).cell? ⟨g, 0, none⟩ = some p ∧ (set3 w2 g p q r).cell? ⟨g, 1, none⟩ = some q ∧ (set3 w2 g p q r).cell? ⟨g, 2, none⟩ = some r ∧ OwnI (set3 w2 g p q r) base v l ∧ Below w.heap.size w (set3 w2 g p q r) := by
  have h := hv.set3 p q r
  refine ⟨h.cell 0 _ rfl, h.cell 1 _ rfl, h.cell 2 _ rfl, ho.other (grown_set3 w2 g p q r) ?_, below_set3 hb hwg p q r⟩
  rcases hc : v.ownBlock with _ | b
  · exact .inl rfl
  · refine .inr (fun e => ?_)
    injection e with e
    have := (ho.lt b hc).1
    omega
theorem pro_lawT (w : World) (m : Int) (d : Nat) (A : Option Addr) (n c : Nat) : ∃ W, (w.alloc (.cells #[.int .i64 m, .int .i64 d, .slice A n c] 65)).alloc (.cells #[.int .i64 0, .int .i64 0, .slice none 0 0] 49) = W ∧
    GBox W w.heap.size m d A n c ∧ VarC 49 W (w.heap.size + 1) #[.int .i64 0, .int .i64 0, .slice none 0 0] ∧ Below w.heap.size w W := by
  refine ⟨_, rfl, (GBox.new _ _ _ _ _ _ _).keep (below_one _ _), ?_, below_alloc _ (below_one _ _)⟩
  have := VarC.new 49 (w.alloc (.cells #[.int .i64 m, .int .i64 d, .slice A n c] 65)) #[.int .i64 0, .int .i64 0, .slice none 0 0]
  simpa using this
set_option maxHeartbeats 8000000 in
set_option maxRecDepth 100000 in
/-- nothing can be read: the error is handed on -/
theorem stature_err (m : Int) (d : Nat) (A : Option Addr) (n c : Nat) (T : TypeId) (x : Value) (w : World)
    (h : ∀ W0, Below w.heap.size w W0 → Calls Tryz.prog 48 #[.agg #[.int .i64 m, .int .i64 d, .slice A n c], .int .i64 m] W0 fun e w' => e = .returned (.tuple #[.agg #[.int .i64 0, .slice none 0 0], .int .i64 0, .iface T x]) ∧ Below W0.heap.size W0 w') :
    Calls Tryz.prog 40 #[.agg #[.int .i64 m, .int .i64 d, .slice A n c]] w fun e w' => e = .returned (.tuple #[.agg #[.int .i64 0, .int .i64 0, .slice none 0 0], .iface T x]) ∧ Below w.heap.size w w' := by
  obtain ⟨W, hW, b1, v2, hwb⟩ := pro_lawT w m d A n c
  have V2 := Lib.hid v2
  have HB := Lib.hid hwb
  have HW := Lib.hid hW
  have HM := Lib.hid (h W hwb)
  obtain ⟨x1, x2, x3, -⟩ := b1
  clear v2 hwb hW h
  go_enter Tryz.func40, Tryz.ntmps40
  go_wp2_with fail
  rw [HW.out]
  go_wp2_with fail
  refine HM.out.mono ?_
  rintro e w1 ⟨rfl, hb1⟩
  obtain ⟨X, hX⟩ : ∃ X, w1.alloc (.cells #[.int .i64 0, .slice none 0 0] 71) = X := ⟨_, rfl⟩
  have hbX : Below W.heap.size W X := by rw [← hX]; exact below_alloc _ hb1
  have HX := Lib.hid hX
  have hv := V2.out.keep hbX
  obtain ⟨q0, q1, q2, q3, q4, q5⟩ := hv.tells3
  obtain ⟨f0, f1, f2, f3, f4⟩ := fin_stat (w := w) hv (OwnI.nil _ (w.heap.size + 1 + 1)) (by omega) (by omega) (below_step HB.out hbX) (.int .i64 0) (.int .i64 0) (.slice none 0 0)
  unfold set3 at f0 f1 f2 f4
  have F3 := Lib.hid f4
  clear f3 f4 hv hX hbX hb1 x1 x2 x3
  go_upto_region 2 with fail
  rw [HX.out]
  go_wp2
  exact bodyPost_ret (v := .tuple #[.agg #[.int .i64 0, .int .i64 0, .slice none 0 0], .iface T x]) (by simp [results, Tryz.results40, go_sem, f0, f1, f2]) rfl ⟨rfl, F3.out⟩
theorem next_mult {j n k : Nat} (h : j = (k + 1) * n) : j + n = (k + 1 + 1) * n := by rw [h]; grind
set_option maxHeartbeats 16000000 in
set_option maxRecDepth 100000 in
theorem stature_ok (m : Int) (d : Nat) (A : Option Addr) (c : Nat) (t : List (List Int)) (n : Nat) (w : World) (hs : Pl.Ok m d t) (hf : Pl.fau m d (Pl.pc t) = none) (hp : isP4 m = true) (hr : RP w A t) (R : List Int) (hR : mulC m d t m (Pl.lin m d 1) = R)
    (hC : ordM m R = ((n : Int), 0)) (n1 : 1 ≤ n) (n2 : n ≤ d) :
    Calls Tryz.prog 40 #[.agg #[.int .i64 m, .int .i64 d, .slice A t.length c]] w fun e w' => ∃ v, e = .returned (.tuple #[.agg #[.int .i64 (tk m n).1, .int .i64 (Ser.co R n), v], .nilIface]) ∧ OwnI w' w.heap.size v (serH R n (d / n)) ∧ Below w.heap.size w w' := by
  obtain ⟨W, hW, b1, v2, hwb⟩ := pro_lawT w m d A t.length c
  have V2 := Lib.hid v2
  have HB := Lib.hid hwb
  have HW := Lib.hid hW
  have hp4 := (isP4_iff m).1 hp
  have HM := Lib.hid (andOrder_ok m d A c t m n W hs hf hp (by omega) (by omega) (hr.below hwb) (by rw [hR]; exact hC))
  have hRl := (mulC_cv hs (Pl.norm_law hf hs) m (lin_cv hs 1)).1.len
  have hd2 := hs.d2
  rw [hR] at HM hRl
  have HTK := Lib.hid (fun W0 => takeOut_any m n W0 (by omega) (by omega) (by omega) (by omega) (by omega))
  obtain ⟨H, hH⟩ : ∃ H, tk m n = H := ⟨_, rfl⟩
  rw [hH] at HTK ⊢
  obtain ⟨L, hL⟩ : ∃ L, t.length = L := ⟨_, rfl⟩
  rw [hL] at HM HW b1 ⊢
  have B1 := Lib.hid b1
  have HRL := Lib.hid hRl
  obtain ⟨x1, x2, x3, -⟩ := b1
  clear v2 hwb hW hr hs hf hp hR hL hC hH hp4
  go_enter Tryz.func40, Tryz.ntmps40
  go_wp2_with fail
  rw [HW.out]
  go_wp2_with fail
  refine HM.out.mono ?_
  rintro e w1 ⟨u, rfl, ho, hb1⟩
  obtain ⟨A1, c1, rfl, -⟩ := ho.form
  rw [hRl] at ho ⊢
  obtain ⟨X, hX⟩ : ∃ X, w1.alloc (.cells #[.int .i64 m, .slice A1 (d + 1) c1] 71) = X := ⟨_, rfl⟩
  have hbX : Below W.heap.size W X := by rw [← hX]; exact below_alloc _ hb1
  have v7 : VarC 71 X w1.heap.size #[.int .i64 m, .slice A1 (d + 1) c1] := by rw [← hX]; exact VarC.new _ _ _
  have hoX : RI X A1 R := by rw [← hX]; exact ho.ri.below (below_one _ _)
  have HX := Lib.hid hX
  have HBX := Lib.hid hbX
  have HRX := Lib.hid hoX
  obtain ⟨g7, hg7⟩ : ∃ g, w1.heap.size = g := ⟨_, rfl⟩
  rw [hg7] at v7
  have HG := Lib.hid hg7
  have V7 := Lib.hid v7
  obtain ⟨y1, y2, -, -⟩ := v7.tells2
  have b2 := B1.out.keep hbX
  have B2 := Lib.hid b2
  obtain ⟨z1, z2, z3, -⟩ := b2
  clear hX hbX hb1 ho v7 hoX hg7 x1 x2 x3 hRl
  go_upto_region 2 with fail
  rw [HX.out, HG.out]
  go_wp2_with fail
  refine (HTK.out _).mono ?_
  rintro e w' ⟨rfl, rfl⟩
  clear z1 z2 z3 y1 y2
  have N1 := Lib.hid n1
  have N2 := Lib.hid n2
  go_wp2_with fail
  go_loopw [9, 10] (fun v i wr => ∃ k j : Nat, j = (k + 1) * n ∧ i = .int .i64 j ∧ k * n ≤ d ∧ OwnI wr X.heap.size v (serH R n k) ∧ Below X.heap.size X wr) (fun _ i _ => 2 * d + 1 - (intOf i).toNat)
  case atStart => exact ⟨0, n, by omega, rfl, by omega, OwnI.nil _ _, Below.refl _ _⟩
  case round =>
    obtain ⟨k, j, hkj, rfl, hkd, hown, hbel⟩ := hrel
    have HO := Lib.hid hown
    have HBW := Lib.hid hbel
    have hsz := hbel.size
    obtain ⟨z1, z2, z3, -⟩ := B2.out.keep hbel
    obtain ⟨y1, y2, -, -⟩ := V7.out.keep hbel |>.tells2
    have HKJ := Lib.hid hkj
    have HKD := Lib.hid hkd
    clear hown hbel hkj hkd
    by_cases hlt : j ≤ d
    · obtain ⟨b, off, rfl, hb, hc⟩ := HRX.out.at j (by have := HRL.out; omega)
      have cc := (HBW.out.cell (p := ⟨b, off + j, none⟩) hb).trans hc
      have j0 : (0 : Int) ≤ (j : Int) := by omega
      have j1 : (j : Int) < (d : Int) + 1 := by omega
      have j2 : (j : Int) ≤ (d : Int) := by omega
      obtain ⟨Y, hY⟩ : ∃ Y, Ser.co R j = Y := ⟨_, rfl⟩
      rw [hY] at cc
      have HST := Lib.hid (show serH R n (k + 1) = serH R n k ++ [Y] by rw [serH, ← HKJ.out, hY])
      have hwr : IntKind.i64.wrap ((j : Int) + (n : Int)) = ((j + n : Nat) : Int) := by rw [IntKind.wrap_i64]; have := N2.out; omega
      have HLN := Lib.hid (serH_len R n k)
      have hk9 : k ≤ d := by
        have h1 := HKJ.out
        have h2 := N1.out
        have : k * 1 ≤ k * n := Nat.mul_le_mul_left k h2
        have := HKD.out
        omega
      clear hY hc
      go_wp2_with (at_builtin; refine wp_push _ _ _ (by rfl) (by rfl) Tryz.underlying32 X.heap.size _ _ (by rfl) HO.out Y (by rfl) (by have := HLN.out; omega) hsz ?_; intro v' w4 ho1 hpb)
      have HP := Lib.hid (HBW.out.trans hpb)
      have HQ := Lib.hid ho1
      clear hpb ho1 hk9
      go_wp2
      go_roundw
      case rel => exact ⟨k + 1, j + n, next_mult HKJ.out, by first | rfl | rw [Int.natCast_add] | rw [hwr], by rw [← HKJ.out]; exact hlt, by rw [HST.out]; exact HQ.out, HP.out⟩
      case measure => simp only [intOf]; have := N1.out; omega
    · have hq : k = d / n := by
        have h1 := HKJ.out
        have h2 := HKD.out
        have h3 : d < (k + 1) * n := by omega
        have h4 := Nat.div_lt_of_lt_mul (show d < n * (k + 1) by rw [Nat.mul_comm]; exact h3)
        have h5 := (Nat.le_div_iff_mul_le (show 0 < n from N1.out)).2 h2
        omega
      subst hq
      have j2 : ¬ (j : Int) ≤ (d : Int) := by omega
      have hpos : 1 ≤ d / n := Nat.div_pos N2.out N1.out
      obtain ⟨q, hq⟩ : ∃ q, d / n = q + 1 := ⟨d / n - 1, by omega⟩
      have hl := serH_len R n (d / n)
      have hhd : Ser.co (serH R n (d / n)) 0 = Ser.co R n := by rw [hq]; exact serH_head R n q
      obtain ⟨S, hS⟩ : ∃ S, serH R n (d / n) = S := ⟨_, rfl⟩
      rw [hS] at HO hl hhd
      have HS := Lib.hid hS
      obtain ⟨Av, cv9, rfl, -⟩ := HO.out.form
      obtain ⟨b, off, rfl, hb, hc⟩ := HO.out.ri.at 0 (by omega)
      rw [hhd, Nat.add_zero] at hc
      have hv := V2.out.keep (below_step HBX.out HBW.out)
      obtain ⟨q0, q1, q2, q3, q4, q5⟩ := hv.tells3
      have hsW : W.heap.size ≤ X.heap.size := HBX.out.size
      have hv2 := V2.out.lt
      obtain ⟨f0, f1, f2, f3, f4⟩ := fin_stat (w := w) hv HO.out (by omega) (by omega) (below_step HB.out (below_step HBX.out HBW.out)) (.int .i64 H.1) (.int .i64 (Ser.co R n)) (.slice (some ⟨b, off, none⟩) S.length cv9)
      unfold set3 at f0 f1 f2 f3 f4
      have F3 := Lib.hid (OwnI.more (b' := w.heap.size) f3 (by omega))
      have F4 := Lib.hid f4
      have hS1 : (0 : Int) < (S.length : Int) := by omega
      clear f3 f4 hv hhd hS hq hpos hl z1 y1 y2
      go_wp2
      exact bodyPost_ret (v := .tuple #[.agg #[.int .i64 H.1, .int .i64 (Ser.co R n), .slice (some ⟨b, off, none⟩) S.length cv9], .nilIface]) (by simp [results, Tryz.results40, go_sem, f0, f1, f2]) rfl ⟨_, rfl, by rw [HS.out]; exact F3.out, F4.out⟩
end Go.Proofs.YtfhdgcndiljjcaaGreatDoor

/- Plain: laws with tables in both places, homomorphisms of a law to itself, and the degree in which they begin. -/
namespace Go.Proofs.YtfhdgcndiljjcaaGreatDoor
namespace Pl
open Ser (psum pw)

/-- a series of tables at a table -/
def aftR (f : Nat → Nat → Nat → Int) (A : Nat → Nat → Int) (n : Nat) : Nat → Nat → Int := fun p q => psum (fun i => mul2 (f i) (pw2 A i) p q) n
theorem aftR_congr {m : Int} {d : Nat} {f g : Nat → Nat → Nat → Int} {A A' : Nat → Nat → Int} (n : Nat) (h : ∀ i, i < n → Eq m d (f i) (g i)) (k : Eq m d A A') : Eq m d (aftR f A n) (aftR g A' n) :=
  fun p q hpq => Ser.psum_congr _ (fun i hi => mul2_congr (h i hi) (pw2_congr k i) p q hpq)
/-- nothing below the degree k -/
def LowT (k : Nat) (X : Nat → Nat → Int) : Prop := ∀ p q, p + q < k → X p q = 0
theorem LowT.mul {k l : Nat} {X Y : Nat → Nat → Int} (h : LowT k X) (g : LowT l Y) : LowT (k + l) (mul2 X Y) := by
  intro p q hpq
  unfold mul2
  refine psum_nil _ _ (fun x hx => psum_nil _ _ (fun y hy => ?_))
  by_cases e : x + y < k
  · rw [h x y e, Int.zero_mul]
  · rw [g (p - x) (q - y) (by omega), Int.mul_zero]
theorem LowT.pw {A : Nat → Nat → Int} (h : A 0 0 = 0) (k : Nat) : LowT k (pw2 A k) := fun p q hpq => pw2_lowW h k p q hpq
theorem LowT.none (X : Nat → Nat → Int) : LowT 0 X := fun p q h => absurd h (by omega)
theorem aftR_mul (f g : Nat → Nat → Nat → Int) {A : Nat → Nat → Int} (h : A 0 0 = 0) (d p q : Nat) (hpq : p + q ≤ d) :
    mul2 (aftR f A (d + 1)) (aftR g A (d + 1)) p q = aftR (fun n p q => psum (fun i => mul2 (f i) (g (n - i)) p q) (n + 1)) A (d + 1) p q := by
  have e1 : mul2 (aftR f A (d + 1)) (aftR g A (d + 1)) p q = psum (fun i => psum (fun j => mul2 (mul2 (f i) (g j)) (pw2 A (i + j)) p q) (d + 1)) (d + 1) := by
    unfold aftR
    rw [mul2_psum (fun i => mul2 (f i) (pw2 A i))]
    refine Ser.psum_ext _ (fun i _ => ?_)
    rw [mul2_psum' (fun j => mul2 (g j) (pw2 A j))]
    refine Ser.psum_ext _ (fun j _ => ?_)
    rw [← pw2_add, mul2_assoc (f i), mul2_assoc (f i), mul2_lc (pw2 A i)]
  have e2 : psum (fun i => psum (fun j => mul2 (mul2 (f i) (g j)) (pw2 A (i + j)) p q) (d + 1)) (d + 1) = psum (fun i => psum (fun j => mul2 (mul2 (f i) (g j)) (pw2 A (i + j)) p q) (d - i + 1)) (d + 1) := by
    refine Ser.psum_ext _ (fun i hi => ?_)
    exact psum_cut _ (d - i + 1) (d + 1) (by omega) (fun j h1 _ => ((LowT.none _).mul (LowT.pw h (i + j))) p q (by omega))
  rw [e1, e2, ← Ser.psum_tri d (fun i j _ => mul2 (mul2 (f i) (g j)) (pw2 A (i + j)) p q)]
  unfold aftR
  refine Ser.psum_ext _ (fun n hn => ?_)
  rw [mul2_psum (fun i => mul2 (f i) (g (n - i)))]
  refine Ser.psum_ext _ (fun i hi => ?_)
  rw [show i + (n - i) = n by omega]
theorem aft_psum (f : Nat → Nat → Int) (k : Nat) (B : Nat → Nat → Int) (n p q : Nat) : aft (fun j => psum (fun x => f x j) k) B n p q = psum (fun x => aft (f x) B n p q) k := by
  unfold aft
  rw [Ser.psum_swap]
  exact Ser.psum_ext _ (fun i _ => (Ser.psum_mul' _ _ _).symm)
theorem mul2_aft (f : Nat → Int) (B X : Nat → Nat → Int) (n p q : Nat) : mul2 (aft f B n) X p q = psum (fun j => f j * mul2 (pw2 B j) X p q) n := by
  unfold aft
  rw [mul2_psum (fun j p q => f j * pw2 B j p q)]
  exact Ser.psum_ext _ (fun j _ => mul2_smul _ _ _ _ _)
/-- G with a table in each place -/
def sb (G A B : Nat → Nat → Int) (n : Nat) : Nat → Nat → Int := aftR (fun i => aft (G i) B n) A n
theorem sb_congr {m : Int} {d : Nat} (G : Nat → Nat → Int) {A A' B B' : Nat → Nat → Int} (n : Nat) (h : Eq m d A A') (k : Eq m d B B') : Eq m d (sb G A B n) (sb G A' B' n) :=
  aftR_congr n (fun _ _ => aft_congr n (fun _ _ => rfl) k) h
theorem sb_at (G A B : Nat → Nat → Int) (n p q : Nat) : sb G A B n p q = psum (fun i => psum (fun j => G i j * mul2 (pw2 B j) (pw2 A i) p q) n) n :=
  Ser.psum_ext _ (fun _ _ => mul2_aft _ _ _ _ _ _)
theorem sb_mul {A B : Nat → Nat → Int} (hA : A 0 0 = 0) (hB : B 0 0 = 0) (m : Int) (d : Nat) (G H : Nat → Nat → Int) : Eq m d (sb (mul2 G H) A B (d + 1)) (mul2 (sb G A B (d + 1)) (sb H A B (d + 1))) := by
  have e : Eq m d (aftR (fun i => aft (mul2 G H i) B (d + 1)) A (d + 1)) (aftR (fun n p q => psum (fun k => mul2 (aft (G k) B (d + 1)) (aft (H (n - k)) B (d + 1)) p q) (n + 1)) A (d + 1)) :=
    aftR_congr _ (fun i _ p q hpq => by
      have e1 : mul2 G H i = fun j => psum (fun k => Ser.mul (G k) (H (i - k)) j) (i + 1) := by
        funext j; unfold mul2; exact Ser.psum_ext _ (fun k _ => by rw [Ser.mul_at, Ser.cv_psum])
      show aft (mul2 G H i) B (d + 1) p q % m = _
      rw [e1, aft_psum]
      have e2 : psum (fun k => aft (Ser.mul (G k) (H (i - k))) B (d + 1) p q) (i + 1) = psum (fun k => mul2 (aft (G k) B (d + 1)) (aft (H (i - k)) B (d + 1)) p q) (i + 1) :=
        Ser.psum_ext _ (fun k _ => (aft_mul (G k) (H (i - k)) hB d p q hpq).symm)
      rw [e2]) (Eq.refl _ _ _)
  intro p q hpq
  have h2 := aftR_mul (fun i => aft (G i) B (d + 1)) (fun i => aft (H i) B (d + 1)) hA d p q hpq
  have h3 : mul2 (sb G A B (d + 1)) (sb H A B (d + 1)) p q = aftR (fun n p q => psum (fun k => mul2 (aft (G k) B (d + 1)) (aft (H (n - k)) B (d + 1)) p q) (n + 1)) A (d + 1) p q := h2
  rw [h3]
  exact e p q hpq
theorem aft_zero (B : Nat → Nat → Int) (n : Nat) : aft (fun _ => 0) B n = fun _ _ => 0 := by
  funext p q
  exact psum_nil _ _ (fun i _ => Int.zero_mul _)
theorem sb_one (A B : Nat → Nat → Int) (d : Nat) : sb (one2 1) A B (d + 1) = one2 1 := by
  funext p q
  unfold sb aftR
  rw [psum_at _ 0 (d + 1) (by omega) (fun i _ hi => by
    have : one2 1 i = fun _ => 0 := by funext j; unfold one2; rw [if_neg (by omega)]
    show mul2 (aft (one2 1 i) B (d + 1)) _ p q = 0
    rw [this, aft_zero, zero_mul2])]
  have h0 : one2 1 0 = Ser.mon 0 1 := by funext j; unfold one2 Ser.mon; simp
  show mul2 (aft (one2 1 0) B (d + 1)) (one2 1) p q = _
  rw [h0, aft_c 1 B (d + 1) (by omega), mul2_one2, one_sm]
theorem sb_pw {A B : Nat → Nat → Int} (hA : A 0 0 = 0) (hB : B 0 0 = 0) (m : Int) (d : Nat) (F : Nat → Nat → Int) : ∀ i, Eq m d (sb (pw2 F i) A B (d + 1)) (pw2 (sb F A B (d + 1)) i)
  | 0 => Eq.fn (sb_one A B d)
  | i + 1 => (sb_mul hA hB m d (pw2 F i) F).trans (Eq.mul2 (sb_pw hA hB m d F i) (Eq.refl _ _ _))
/-- three tables -/
def T3 (β : Nat → Nat → Nat → Int) (A B C : Nat → Nat → Int) (n : Nat) : Nat → Nat → Int := fun p q => psum (fun a => psum (fun b => psum (fun c => β a b c * mul2 (mul2 (pw2 A a) (pw2 B b)) (pw2 C c) p q) n) n) n
theorem T3_congr {m : Int} {d : Nat} {β β' : Nat → Nat → Nat → Int} {A B C : Nat → Nat → Int} (hA : A 0 0 = 0) (hB : B 0 0 = 0) (hC : C 0 0 = 0) (n : Nat) (h : ∀ a b c, a + b + c ≤ d → β a b c % m = β' a b c % m) : Eq m d (T3 β A B C n) (T3 β' A B C n) := by
  intro p q hpq
  refine Ser.psum_congr _ (fun a _ => Ser.psum_congr _ (fun b _ => Ser.psum_congr _ (fun c _ => ?_)))
  by_cases e : a + b + c ≤ d
  · exact Ser.mul_cong (h a b c e) rfl
  · rw [(((LowT.pw hA a).mul (LowT.pw hB b)).mul (LowT.pw hC c)) p q (by omega), Int.mul_zero, Int.mul_zero]
theorem T3_swap (β : Nat → Nat → Nat → Int) (A B C : Nat → Nat → Int) (n : Nat) : T3 β A B C n = T3 (fun a b c => β c b a) C B A n := by
  funext p q
  unfold T3
  have e : ∀ a, psum (fun b => psum (fun c => β a b c * mul2 (mul2 (pw2 A a) (pw2 B b)) (pw2 C c) p q) n) n = psum (fun c => psum (fun b => β a b c * mul2 (mul2 (pw2 A a) (pw2 B b)) (pw2 C c) p q) n) n := fun a => Ser.psum_swap _ _ _
  rw [Ser.psum_ext n (fun a _ => e a), Ser.psum_swap]
  refine Ser.psum_ext _ (fun c _ => ?_)
  rw [Ser.psum_swap]
  refine Ser.psum_ext _ (fun b _ => Ser.psum_ext _ (fun a _ => ?_))
  have : mul2 (mul2 (pw2 A a) (pw2 B b)) (pw2 C c) = mul2 (mul2 (pw2 C c) (pw2 B b)) (pw2 A a) := by
    rw [mul2_comm (mul2 (pw2 A a) (pw2 B b)), mul2_comm (pw2 A a), ← mul2_assoc]
  rw [this]
/-- the coefficients of F(F(x, y), z) -/
def beF (F : Nat → Nat → Int) (n a b c : Nat) : Int := psum (fun i => F i c * pw2 F i a b) n
theorem sb_sb {A B : Nat → Nat → Int} (hA : A 0 0 = 0) (hB : B 0 0 = 0) (m : Int) (d : Nat) (F C : Nat → Nat → Int) : Eq m d (sb F (sb F A B (d + 1)) C (d + 1)) (T3 (beF F (d + 1)) A B C (d + 1)) := by
  intro p q hpq
  have e1 : sb F (sb F A B (d + 1)) C (d + 1) p q % m = psum (fun i => mul2 (aft (F i) C (d + 1)) (sb (pw2 F i) A B (d + 1)) p q) (d + 1) % m :=
    Ser.psum_congr _ (fun i _ => mul2_congr (Eq.refl _ _ _) (sb_pw hA hB m d F i).symm p q hpq)
  rw [e1]
  congr 1
  have e2 : ∀ i, mul2 (aft (F i) C (d + 1)) (sb (pw2 F i) A B (d + 1)) p q = psum (fun a => psum (fun b => psum (fun c => F i c * pw2 F i a b * mul2 (mul2 (pw2 A a) (pw2 B b)) (pw2 C c) p q) (d + 1)) (d + 1)) (d + 1) := by
    intro i
    unfold sb aftR
    rw [mul2_psum' (fun a => mul2 (aft (pw2 F i a) B (d + 1)) (pw2 A a))]
    refine Ser.psum_ext _ (fun a _ => ?_)
    rw [mul2_lc, mul2_aft]
    refine Ser.psum_ext _ (fun b _ => ?_)
    rw [mul2_lc, mul2_aft, ← Ser.psum_mul]
    refine Ser.psum_ext _ (fun c _ => ?_)
    have : mul2 (pw2 C c) (mul2 (pw2 B b) (pw2 A a)) = mul2 (mul2 (pw2 A a) (pw2 B b)) (pw2 C c) := by
      rw [mul2_comm (pw2 C c), mul2_comm (pw2 B b)]
    rw [this, ← Int.mul_assoc, Int.mul_comm (pw2 F i a b)]
  rw [Ser.psum_ext _ (fun i _ => e2 i), Ser.psum_swap]
  refine Ser.psum_ext _ (fun a _ => ?_)
  rw [Ser.psum_swap]
  refine Ser.psum_ext _ (fun b _ => ?_)
  rw [Ser.psum_swap]
  refine Ser.psum_ext _ (fun c _ => ?_)
  exact Ser.psum_mul' _ _ _
theorem beF_br {m : Int} {d : Nat} {F : Nat → Nat → Int} (hN : Norm d F) {a b c : Nat} (h : a + b + c ≤ d) : beF F (d + 1) a b c % m = br m d F a b c := by
  unfold beF br brS
  rw [psum_cut _ (d + 1 - c) (d + 1) (by omega) (fun i h1 _ => by rw [hN.over i c (by omega), Int.zero_mul])]
  refine Ser.psum_congr _ (fun i _ => Ser.mul_cong rfl ?_)
  rw [pwT_tab, pc_tab (by omega), Int.emod_emod]
/-- a law: its table, and that it is associative -/
structure LawF (m : Int) (d : Nat) (F : Nat → Nat → Int) : Prop where
  norm : Norm d F
  ass : ∀ a b c, a + b + c ≤ d → br m d F a b c = br m d F c b a
theorem sb_turn {m : Int} {d : Nat} {F A B C : Nat → Nat → Int} (hF : LawF m d F) (hA : A 0 0 = 0) (hB : B 0 0 = 0) (hC : C 0 0 = 0) :
    Eq m d (sb F (sb F A B (d + 1)) C (d + 1)) (sb F (sb F C B (d + 1)) A (d + 1)) := by
  refine (sb_sb hA hB m d F C).trans (Eq.trans ?_ (sb_sb hC hB m d F A).symm)
  refine (T3_congr hA hB hC (β' := fun a b c => beF F (d + 1) c b a) _ (fun a b c h => ?_)).trans (Eq.fn ?_)
  · rw [beF_br hF.norm h, beF_br hF.norm (show c + b + a ≤ d by omega), hF.ass a b c h]
  · rw [T3_swap]
theorem norm_00 {d : Nat} {F : Nat → Nat → Int} (h : Norm d F) : F 0 0 = 0 := h.x 0 (Nat.zero_le _)
theorem sb_00 {d : Nat} {F A B : Nat → Nat → Int} (h : Norm d F) (hA : A 0 0 = 0) (hB : B 0 0 = 0) : sb F A B (d + 1) 0 0 = 0 := by
  rw [sb_at]
  refine psum_nil _ _ (fun i _ => psum_nil _ _ (fun j _ => ?_))
  by_cases e : 0 < j + i
  · rw [((LowT.pw hB j).mul (LowT.pw hA i)) 0 0 (by omega), Int.mul_zero]
  · obtain ⟨rfl, rfl⟩ : i = 0 ∧ j = 0 := by omega
    rw [norm_00 h, Int.zero_mul]
/-- four in the places: the two in the middle change -/
theorem sb_four {m : Int} {d : Nat} {F A B C D : Nat → Nat → Int} (hF : LawF m d F) (hA : A 0 0 = 0) (hB : B 0 0 = 0) (hC : C 0 0 = 0) (hD : D 0 0 = 0) :
    Eq m d (sb F (sb F A B (d + 1)) (sb F C D (d + 1)) (d + 1)) (sb F (sb F A C (d + 1)) (sb F B D (d + 1)) (d + 1)) := by
  have hCD := sb_00 hF.norm hC hD
  have hBD := sb_00 hF.norm hB hD
  refine (sb_turn hF hA hB hCD).trans ?_
  refine (sb_congr F _ (sb_turn hF hC hD hB) (Eq.refl _ _ A)).trans ?_
  exact sb_turn hF hBD hC hA
theorem aft_pwE {G : Nat → Nat → Int} (hG : G 0 0 = 0) (m : Int) (d : Nat) (f : Nat → Int) : ∀ i, Eq m d (aft (pw f i) G (d + 1)) (pw2 (aft f G (d + 1)) i)
  | 0 => Eq.fn (aft_c 1 G (d + 1) (by omega))
  | i + 1 => (Eq.of m d (fun p q hpq => (aft_mul (pw f i) f hG d p q hpq).symm)).trans (Eq.mul2 (aft_pwE hG m d f i) (Eq.refl _ _ _))
/-- a sum of curves at a table -/
theorem aft_put {G : Nat → Nat → Int} (hG : G 0 0 = 0) (m : Int) (d : Nat) (F : Nat → Nat → Int) (b c : Nat → Int) :
    Eq m d (aft (putF F b c (d + 1)) G (d + 1)) (sb F (aft b G (d + 1)) (aft c G (d + 1)) (d + 1)) := by
  intro p q hpq
  have e1 : aft (putF F b c (d + 1)) G (d + 1) p q = psum (fun i => psum (fun j => F i j * aft (Ser.mul (pw b i) (pw c j)) G (d + 1) p q) (d + 1)) (d + 1) := by
    have h1 := aft_psum (fun i n => psum (fun j => F i j * Ser.cv n (pw b i) (pw c j)) (d + 1)) (d + 1) G (d + 1) p q
    refine h1.trans (Ser.psum_ext _ (fun i _ => ?_))
    have h2 := aft_psum (fun j n => F i j * Ser.cv n (pw b i) (pw c j)) (d + 1) G (d + 1) p q
    refine h2.trans (Ser.psum_ext _ (fun j _ => ?_))
    exact congrFun (congrFun (aft_smul (F i j) (fun n => Ser.cv n (pw b i) (pw c j)) G (d + 1)) p) q
  rw [e1, sb_at]
  refine Ser.psum_congr _ (fun i _ => Ser.psum_congr _ (fun j _ => Ser.mul_cong rfl ?_))
  rw [← aft_mul (pw b i) (pw c j) hG d p q hpq, mul2_comm]
  exact mul2_congr (aft_pwE hG m d c j) (aft_pwE hG m d b i) p q hpq
/-- a homomorphism of the law to itself -/
def Endo (m : Int) (d : Nat) (F : Nat → Nat → Int) (a : Nat → Int) : Prop := Eq m d (aft a F (d + 1)) (sb F (aft a (mon2 1 0) (d + 1)) (aft a (mon2 0 1) (d + 1)) (d + 1))
theorem Endo.congr {m : Int} {d : Nat} {F : Nat → Nat → Int} {a b : Nat → Int} (h : ∀ i, i ≤ d → a i % m = b i % m) (ha : Endo m d F a) : Endo m d F b := by
  have k : ∀ G, Eq m d (aft a G (d + 1)) (aft b G (d + 1)) := fun G => aft_congr (d + 1) (fun i hi => h i (by omega)) (Eq.refl _ _ _)
  exact (k F).symm.trans (Eq.trans ha (sb_congr F _ (k _) (k _)))
theorem aft_00 {G : Nat → Nat → Int} (hG : G 0 0 = 0) {a : Nat → Int} (ha : a 0 = 0) (n : Nat) : aft a G n 0 0 = 0 := by
  refine psum_nil _ _ (fun i _ => ?_)
  by_cases e : i = 0
  · rw [e, ha, Int.zero_mul]
  · rw [(LowT.pw hG i) 0 0 (by omega), Int.mul_zero]
theorem Endo.put {m : Int} {d : Nat} {F : Nat → Nat → Int} {b c : Nat → Int} (hF : LawF m d F) (b0 : b 0 = 0) (c0 : c 0 = 0) (hb : Endo m d F b) (hc : Endo m d F c) : Endo m d F (putF F b c (d + 1)) := by
  have hx : mon2 1 0 0 0 = 0 := rfl
  have hy : mon2 0 1 0 0 = 0 := rfl
  refine (aft_put (norm_00 hF.norm) m d F b c).trans ?_
  refine (sb_congr F _ hb hc).trans ?_
  refine (sb_four hF (aft_00 hx b0 _) (aft_00 hy b0 _) (aft_00 hx c0 _) (aft_00 hy c0 _)).trans ?_
  exact sb_congr F _ (aft_put hx m d F b c).symm (aft_put hy m d F b c).symm
theorem pw2_zeroT : ∀ j, 0 < j → pw2 (fun _ _ => 0) j = fun _ _ => 0
  | j + 1, _ => by
    show mul2 (pw2 (fun _ _ => 0) j) (fun _ _ => 0) = _
    rw [mul2_comm, zero_mul2]
theorem Endo.zero {m : Int} {d : Nat} {F : Nat → Nat → Int} (hF : LawF m d F) : Endo m d F (fun _ => 0) := by
  unfold Endo
  rw [aft_zero, aft_zero, aft_zero]
  refine Eq.of m d (fun p q _ => ?_)
  rw [sb_at]
  refine (psum_nil _ _ (fun i _ => psum_nil _ _ (fun j _ => ?_))).symm
  by_cases hi : i = 0
  · by_cases hj : j = 0
    · rw [hi, hj, norm_00 hF.norm, Int.zero_mul]
    · rw [pw2_zeroT j (by omega), zero_mul2, Int.mul_zero]
  · rw [pw2_zeroT i (by omega), mul2_comm, zero_mul2, Int.mul_zero]
theorem Endo.one {m : Int} {d : Nat} (d1 : 1 ≤ d) (F : Nat → Nat → Int) : Endo m d F (Ser.mon 1 1) := by
  unfold Endo
  rw [aft_t 1 F (d + 1) (by omega), aft_t 1 _ (d + 1) (by omega), aft_t 1 _ (d + 1) (by omega), one_sm, one_sm, one_sm]
  refine Eq.of m d (fun p q hpq => ?_)
  unfold sb aftR
  have e : ∀ i, mul2 (aft (F i) (mon2 0 1) (d + 1)) (pw2 (mon2 1 0) i) p q = if i = p then F i q else 0 := by
    intro i
    rw [pw2_x, mul2_mon2, aft_y _ _ _ _ (by omega)]
    by_cases h : i = p
    · rw [if_pos h, if_pos ⟨by omega, by omega⟩, if_pos (by omega), Nat.sub_zero]
    · rw [if_neg h]
      by_cases h2 : i ≤ p ∧ 0 ≤ q
      · rw [if_pos h2, if_neg (by omega)]
      · rw [if_neg h2]
  rw [psum_at _ p (d + 1) (by omega) (fun i _ hi => by rw [e, if_neg hi]), e, if_pos rfl]
/-- with curves of both variables -/
theorem sb_xy (m : Int) (d : Nat) (F : Nat → Nat → Int) (a b : Nat → Int) : Eq m d (sb F (aft a (mon2 1 0) (d + 1)) (aft b (mon2 0 1) (d + 1)) (d + 1)) (subB F a b (d + 1)) := by
  intro p q hpq
  rw [sb_at]
  refine Ser.psum_congr _ (fun i _ => Ser.psum_congr _ (fun j _ => Ser.mul_cong rfl ?_))
  rw [mul2_congr (aft_pwE (G := mon2 0 1) rfl m d b j).symm (aft_pwE (G := mon2 1 0) rfl m d a i).symm p q hpq]
  congr 1
  unfold mul2
  rw [psum_at _ 0 (p + 1) (by omega) (fun x hx h0 => psum_nil _ _ (fun y hy => by rw [aft_y _ _ _ _ (by omega), if_neg h0, Int.zero_mul])),
    psum_at _ q (q + 1) (by omega) (fun y hy h0 => by rw [aft_x _ _ _ _ (by omega), if_neg (show ¬ q - y = 0 by omega), Int.mul_zero]),
    aft_y _ _ _ _ (by omega), if_pos rfl, aft_x _ _ _ _ (by omega), if_pos (by omega), Nat.sub_zero, Int.mul_comm]
theorem pw_lowM {m : Int} {a : Nat → Int} {n : Nat} (h : ∀ i, i < n → a i % m = 0) : ∀ j k, 0 < j → k < n → pw a j k % m = 0
  | j + 1, k, _, hk => by
    show Ser.mul (pw a j) a k % m = 0
    rw [Ser.mul_at, Ser.cv_psum]
    have e := Ser.psum_congr (m := m) (f := fun i => pw a j i * a (k - i)) (g := fun _ => 0) (k + 1) (fun i _ => by
      have := Ser.mul_cong (m := m) (x := pw a j i) (y := pw a j i) rfl (show a (k - i) % m = 0 % m by rw [h (k - i) (by omega), Int.zero_emod])
      rw [this, Int.mul_zero])
    rw [e, Ser.psum_zero, Int.zero_emod]
/-- the first coefficient, times the binomial numbers of its degree, is nothing -/
theorem Endo.lead {m : Int} {d : Nat} {F : Nat → Nat → Int} {a : Nat → Int} (hL : Lin F) (he : Endo m d F a) {n k : Nat} (hk0 : 0 < k) (hkn : k < n) (hnd : n ≤ d) (hl : ∀ i, i < n → a i % m = 0) :
    (a n * ((Num.bin n k : Nat) : Int)) % m = 0 := by
  have h := he k (n - k) (by omega)
  rw [sb_xy m d F a a k (n - k) (by omega)] at h
  have e1 : aft a F (d + 1) k (n - k) % m = (a n * ((Num.bin n k : Nat) : Int)) % m := by
    have := Ser.psum_congr (m := m) (f := fun i => a i * pw2 F i k (n - k)) (g := fun i => if i = n then a n * ((Num.bin n k : Nat) : Int) else 0) (d + 1) (fun i _ => by
      by_cases e : i = n
      · subst e
        rw [if_pos rfl, pw2_lead hL i k (i - k) (by omega)]
      · rw [if_neg e]
        by_cases e2 : i < n
        · have := Ser.mul_cong (m := m) (show a i % m = 0 % m by rw [hl i e2, Int.zero_emod]) (show pw2 F i k (n - k) % m = pw2 F i k (n - k) % m from rfl)
          rw [this, Int.zero_mul]
        · rw [pw2_low hL i k (n - k) (by omega), Int.mul_zero])
    refine this.trans ?_
    rw [psum_at _ n (d + 1) (by omega) (fun i _ hi => if_neg hi), if_pos rfl]
  have e2 : subB F a a (d + 1) k (n - k) % m = 0 := by
    have := Ser.psum_congr (m := m) (f := fun i => psum (fun j => F i j * (pw a i k * pw a j (n - k))) (d + 1)) (g := fun _ => 0) (d + 1) (fun i _ => by
      by_cases e : i = 0
      · subst e
        rw [psum_nil _ _ (fun j _ => by
          have : pw a 0 k = 0 := by show Ser.mon 0 1 k = 0; unfold Ser.mon; rw [if_neg (by omega)]
          rw [this, Int.zero_mul, Int.mul_zero])]
      · have h0 := pw_lowM hl i k (by omega) hkn
        rw [Ser.psum_congr (m := m) (g := fun _ => 0) (d + 1) (fun j _ => by
          have h1 := Ser.mul_cong (m := m) (show pw a i k % m = 0 % m by rw [h0, Int.zero_emod]) (show pw a j (n - k) % m = pw a j (n - k) % m from rfl)
          rw [Int.zero_mul] at h1
          have h2 := Ser.mul_cong (m := m) (show F i j % m = F i j % m from rfl) h1
          rw [h2, Int.mul_zero]), Ser.psum_zero])
    refine this.trans ?_
    rw [Ser.psum_zero, Int.zero_emod]
  rw [← e1, h, e2]
/-- up to degree 10, modulo a prime number: the first degree is a power of it -/
theorem pow_lead : ∀ p ∈ [2, 3, 5, 7], ∀ a ∈ List.range p, a ≠ 0 → ∀ n ∈ List.range 11, 2 ≤ n → (∀ k ∈ List.range n, k ≠ 0 → (a * Num.bin n k) % p = 0) → n = p ∨ n = p ^ 2 ∨ n = p ^ 3 := by decide +kernel
end Pl
end Go.Proofs.YtfhdgcndiljjcaaGreatDoor

/- Plain: multiples are homomorphisms of the law to itself; the multiple by the prime number begins at a power of it. -/
namespace Go.Proofs.YtfhdgcndiljjcaaGreatDoor
open Go.RowKit

namespace Pl
open Ser (psum pw)
theorem psum_head2 (f : Nat → Int) (h : ∀ i, 2 ≤ i → f i = 0) : ∀ n, psum f (n + 2) = f 0 + f 1
  | 0 => by show 0 + f 0 + f 1 = _; omega
  | n + 1 => by
    show psum f (n + 2) + f (n + 2) = _
    rw [psum_head2 f h n, h (n + 2) (by omega), Int.add_zero]
theorem put_1 {d : Nat} {F : Nat → Nat → Int} {a b : Nat → Int} (hN : Norm d F) (hd : 1 ≤ d) (ha : a 0 = 0) (hb : b 0 = 0) : putF F a b (d + 1) 1 = a 1 + b 1 := by
  have c1 : ∀ u v : Nat → Int, Ser.cv 1 u v = u 0 * v 1 + u 1 * v 0 := fun _ _ => rfl
  have p1 : ∀ u : Nat → Int, pw u 1 1 = u 1 := fun u => by
    show Ser.cv 1 (Ser.mon 0 1) u = u 1
    rw [c1]; show 1 * u 1 + 0 * u 0 = u 1; omega
  have z0 : ∀ u : Nat → Int, pw u 0 0 = 1 := fun _ => rfl
  have z1 : ∀ u : Nat → Int, pw u 0 1 = 0 := fun _ => rfl
  obtain ⟨e, rfl⟩ : ∃ e, d = e + 1 := ⟨d - 1, by omega⟩
  unfold putF
  rw [show e + 1 + 1 = e + 2 by omega, psum_head2 _ (fun i hi => psum_nil _ _ (fun j _ => by
    rw [c1, Ser.pw_low ha i 0 (by omega), Ser.pw_low ha i 1 (by omega), Int.zero_mul, Int.zero_mul]; exact Int.mul_zero _))]
  rw [psum_head2 (fun j => F 0 j * Ser.cv 1 (pw a 0) (pw b j)) (fun j hj => by
    show F 0 j * Ser.cv 1 (pw a 0) (pw b j) = 0
    rw [c1, Ser.pw_low hb j 0 (by omega), Ser.pw_low hb j 1 (by omega), Int.mul_zero, Int.mul_zero]; exact Int.mul_zero _)]
  rw [psum_head2 (fun j => F 1 j * Ser.cv 1 (pw a 1) (pw b j)) (fun j hj => by
    show F 1 j * Ser.cv 1 (pw a 1) (pw b j) = 0
    rw [c1, Ser.pw_low hb j 0 (by omega), Ser.pw_low hb j 1 (by omega), Int.mul_zero, Int.mul_zero]; exact Int.mul_zero _)]
  have f10 : F 1 0 = 1 := hN.x 1 (by omega)
  have f01 : F 0 1 = 1 := hN.y 1 (by omega)
  rw [c1, c1, c1, c1, z0, z1, p1, z0, z1, p1, Ser.pw_low ha 1 0 (by omega), Ser.pw_low hb 1 0 (by omega), norm_00 hN, f10, f01]
  omega
end Pl

theorem law_F {m : Int} {d : Nat} {t : List (List Int)} (hs : Pl.Ok m d t) (hf : Pl.fau m d (Pl.pc t) = none) : Pl.LawF m d (Pl.pc t) := by
  refine ⟨Pl.norm_law hf hs, Pl.fauT_none ?_⟩
  obtain ⟨h1, h2⟩ := Pl.fau_parts hf
  unfold Pl.fau at hf
  rw [h1, h2, Pl.orE_none, Pl.orE_none] at hf
  exact hf
theorem mulK_endo {m : Int} {d : Nat} {t : List (List Int)} (hs : Pl.Ok m d t) (hf : Pl.fau m d (Pl.pc t) = none) (K : Nat) {l : List Int} (hl : Cv m d l) (he : Pl.Endo m d (Pl.pc t) (Ser.co l)) :
    Pl.Endo m d (Pl.pc t) (Ser.co (mulK m d t K l)) := by
  have hF := law_F hs hf
  refine (Ser.repS_keep _ (fun l => Cv m d l ∧ Pl.Endo m d (Pl.pc t) (Ser.co l)) (fun P S hP hS => ⟨put_cv hs hF.norm P S hP.1 hS.1, ?_⟩) K _ _ ⟨lin_cv hs 0, ?_⟩ ⟨hl, he⟩).2
  · exact (Pl.Endo.put hF hP.1.2 hS.1.2 hP.2 hS.2).congr (fun i hi => by rw [Pl.put_cut hi, Int.emod_emod])
  · refine (Pl.Endo.zero hF).congr (fun i hi => ?_)
    unfold Pl.lin
    rw [Ser.co_cut hi, Int.emod_emod]
    unfold Ser.mon
    by_cases h : i = 1
    · rw [if_pos h]
    · rw [if_neg h]
theorem lin_endo {m : Int} {d : Nat} (hd : 1 ≤ d) (F : Nat → Nat → Int) : Pl.Endo m d F (Ser.co (Pl.lin m d 1)) :=
  (Pl.Endo.one hd F).congr (fun i hi => by unfold Pl.lin; rw [Ser.co_cut hi, Int.emod_emod])
theorem repS_one {m : Int} {d : Nat} {t : List (List Int)} (hs : Pl.Ok m d t) (hN : Pl.Norm d (Pl.pc t)) : ∀ (K : Nat) (P S : List Int), Cv m d P → Cv m d S → Ser.co (Ser.repS (Pl.putL m d (Pl.pc t)) K P S) 1 % m = (Ser.co P 1 + (K : Int) * Ser.co S 1) % m := by
  have hop : ∀ P S, Cv m d P → Cv m d S → Ser.co (Pl.putL m d (Pl.pc t) P S) 1 = (Ser.co P 1 + Ser.co S 1) % m := fun P S hP hS => by
    rw [Pl.put_cut hs.d1, Pl.put_1 hN hs.d1 hP.2 hS.2]
  intro K
  induction K using Nat.strongRecOn with
  | ind K ih =>
    intro P S hP hS
    by_cases h0 : K = 0
    · subst h0
      rw [Ser.repS_zero, Int.natCast_zero, Int.zero_mul, Int.add_zero]
    · have hSS := put_cv hs hN S S hS hS
      by_cases h1 : K % 2 = 1
      · rw [Ser.repS_odd _ _ _ h1, ih (K / 2) (by omega) _ _ (put_cv hs hN P S hP hS) hSS, hop P S hP hS, hop S S hS hS]
        have hk : (K : Int) = 2 * ((K / 2 : Nat) : Int) + 1 := by omega
        obtain ⟨k, hk2⟩ : ∃ k, ((K / 2 : Nat) : Int) = k := ⟨_, rfl⟩
        rw [hk2] at hk ⊢
        rw [hk, Int.add_emod, Int.emod_emod, Int.mul_emod, Int.emod_emod, ← Int.mul_emod, ← Int.add_emod]
        congr 1; grind
      · rw [Ser.repS_even _ _ _ h0 h1, ih (K / 2) (by omega) _ _ hP hSS, hop S S hS hS]
        have hk : (K : Int) = 2 * ((K / 2 : Nat) : Int) := by omega
        obtain ⟨k, hk2⟩ : ∃ k, ((K / 2 : Nat) : Int) = k := ⟨_, rfl⟩
        rw [hk2] at hk ⊢
        rw [hk, Int.add_emod, Int.mul_emod, Int.emod_emod, ← Int.mul_emod, ← Int.add_emod]
        congr 1; grind
/-- the multiple by p, modulo p: it begins at a power of p -/
theorem mulP_lead {p d : Nat} {t : List (List Int)} (hp : p = 2 ∨ p = 3 ∨ p = 5 ∨ p = 7) (hs : Pl.Ok p d t) (hf : Pl.fau p d (Pl.pc t) = none) {n : Nat} (hn : n ≤ d)
    (hl : ∀ i, i < n → Ser.co (mulK p d t p (Pl.lin p d 1)) i = 0) (hn0 : Ser.co (mulK p d t p (Pl.lin p d 1)) n ≠ 0) : n = p ∨ n = p ^ 2 ∨ n = p ^ 3 := by
  have hF := law_F hs hf
  have hc := mulK_cv hs hF.norm p (lin_cv hs 1)
  have he := mulK_endo hs hf p (lin_cv hs 1) (lin_endo hs.d1 _)
  have h1 := repS_one hs hF.norm p _ _ (lin_cv hs 0) (lin_cv hs 1)
  have hr := hc.1.red
  have hL : Pl.Lin (Pl.pc t) := ⟨Pl.norm_00 hF.norm, hF.norm.x 1 hs.d1, hF.norm.y 1 hs.d1⟩
  change Ser.co (mulK p d t p (Pl.lin p d 1)) 1 % _ = _ at h1
  obtain ⟨l, hll⟩ : ∃ l, mulK p d t p (Pl.lin p d 1) = l := ⟨_, rfl⟩
  rw [hll] at hl hn0 hc he h1 hr
  have hb : ∀ i, 0 ≤ Ser.co l i ∧ Ser.co l i < (p : Int) := hr
  have h1z : Ser.co l 1 = 0 := by
    have e0 : Ser.co (Pl.lin (p : Int) d 0) 1 = 0 := by
      unfold Pl.lin; rw [Ser.co_cut hs.d1]; unfold Ser.mon; rw [if_pos rfl, Int.zero_emod]
    rw [e0, Int.zero_add, Int.mul_emod_right] at h1
    have := hb 1
    rw [Int.emod_eq_of_lt this.1 this.2] at h1
    exact h1
  have hn2 : 2 ≤ n := by
    rcases Nat.lt_or_ge n 2 with h | h
    · exfalso
      rcases Nat.lt_or_ge n 1 with h' | h'
      · obtain rfl : n = 0 := by omega
        exact hn0 hc.2
      · obtain rfl : n = 1 := by omega
        exact hn0 h1z
    · exact h
  obtain ⟨a, ha⟩ := Int.eq_ofNat_of_zero_le (hb n).1
  have hlt := (hb n).2
  refine Pl.pow_lead p (by simp; exact hp) a (List.mem_range.2 (by omega)) (by omega) n (List.mem_range.2 (by have := hs.d2; omega)) hn2 (fun k hk hk0 => ?_)
  have hk := List.mem_range.1 hk
  have := he.lead hL (by omega) hk hn (fun i hi => by rw [hl i hi, Int.zero_emod])
  rw [ha] at this
  have h3 : ((a * Num.bin n k : Nat) : Int) % (p : Int) = 0 := by rw [Int.natCast_mul]; exact this
  omega
end Go.Proofs.YtfhdgcndiljjcaaGreatDoor

/- Plain: the height, as the model finds it, is what the program reads off the order of the multiple. -/
namespace Go.Proofs.YtfhdgcndiljjcaaGreatDoor
open Go.RowKit

/-- the model's search: the least power of p with a number other than 0 -/
def hgS (R : List Int) (p : Nat) : Nat → Nat → Nat → Nat
  | 0, _, _ => 0
  | f + 1, h, n => if n < R.length then (if Ser.co R n = 0 then hgS R p f (h + 1) (n * p) else h) else 0
def hgN (R : List Int) (p : Nat) : Nat := hgS R p 5 1 p
theorem ordF_at (l : List Int) : ∀ f k, (∃ n : Nat, ordF l f k = ((n : Int), 0) ∧ k ≤ n ∧ n < k + f ∧ Ser.co l n ≠ 0 ∧ ∀ i, k ≤ i → i < n → Ser.co l i = 0) ∨ (ordF l f k = (0, 5) ∧ ∀ i, k ≤ i → i < k + f → Ser.co l i = 0)
  | 0, k => .inr ⟨rfl, fun i h1 h2 => absurd h2 (by omega)⟩
  | f + 1, k => by
    by_cases h : Ser.co l k = 0
    · rw [ordF_zero l f k h]
      rcases ordF_at l f (k + 1) with ⟨n, h1, h2, h3, h4, h5⟩ | ⟨h1, h2⟩
      · refine .inl ⟨n, h1, by omega, by omega, h4, fun i i1 i2 => ?_⟩
        rcases Nat.eq_or_lt_of_le i1 with rfl | h6
        · exact h
        · exact h5 i h6 i2
      · refine .inr ⟨h1, fun i i1 i2 => ?_⟩
        rcases Nat.eq_or_lt_of_le i1 with rfl | h6
        · exact h
        · exact h2 i h6 (by omega)
    · rw [ordF_not l f k h]
      exact .inl ⟨k, rfl, Nat.le_refl _, by omega, h, fun i i1 i2 => absurd i2 (by omega)⟩
theorem tk_pow {p : Nat} (hp : 2 ≤ p) : ∀ h : Nat, tk (p : Int) ((p ^ h : Nat) : Int) = ((h : Int), 1)
  | 0 => by
    rw [Nat.pow_zero]
    refine tk_no ?_
    have h0 : ((1 : Nat) : Int).tmod (p : Int) = ((1 % p : Nat) : Int) := rfl
    rw [h0, Nat.mod_eq_of_lt (by omega)]
    omega
  | h + 1 => by
    have hpos : 0 < p ^ h := Nat.pow_pos (by omega)
    have e0 : p ^ (h + 1) = p ^ h * p := Nat.pow_succ _ _
    have e1 : ((p ^ (h + 1) : Nat) : Int).tmod (p : Int) = 0 := by
      have : ((p ^ (h + 1) : Nat) : Int).tmod (p : Int) = ((p ^ (h + 1) % p : Nat) : Int) := rfl
      rw [this, e0, Nat.mul_mod_left]; rfl
    have e2 : ((p ^ (h + 1) : Nat) : Int).tdiv (p : Int) = ((p ^ h : Nat) : Int) := by
      have : ((p ^ (h + 1) : Nat) : Int).tdiv (p : Int) = ((p ^ (h + 1) / p : Nat) : Int) := rfl
      rw [this, e0, Nat.mul_div_cancel _ (by omega)]
    have hne : ((p ^ (h + 1) : Nat) : Int) ≠ 0 := by
      have : 0 < p ^ (h + 1) := Nat.pow_pos (by omega)
      omega
    rw [tk_yes (by omega) hne e1, e2, tk_pow hp h]
    rfl
/-- what the multiple by p tells -/
structure Hgt (R : List Int) (p d h : Nat) : Prop where
  h1 : 1 ≤ h
  le : p ^ h ≤ d
  ord : ordF R R.length 0 = (((p ^ h : Nat) : Int), 0)
  ne : Ser.co R (p ^ h) ≠ 0
  is : hgN R p = h
theorem hgt_or {p d : Nat} {t : List (List Int)} (hp : p = 2 ∨ p = 3 ∨ p = 5 ∨ p = 7) (hs : Pl.Ok p d t) (hf : Pl.fau p d (Pl.pc t) = none) {R : List Int} (hR : mulC (p : Int) d t p (Pl.lin p d 1) = R) :
    (∃ h, Hgt R p d h) ∨ (ordF R R.length 0 = (0, 5) ∧ hgN R p = 0) := by
  have hK : mulC (p : Int) d t p (Pl.lin p d 1) = mulK p d t p (Pl.lin p d 1) := by
    unfold mulC; rw [if_neg (by omega), Int.toNat_natCast]
  rw [hK] at hR
  have hlen : R.length = d + 1 := by rw [← hR]; exact (mulK_cv hs (Pl.norm_law hf hs) p (lin_cv hs 1)).1.len
  have hd2 := hs.d2
  have hlead := fun n hn hl h0 => mulP_lead (n := n) hp hs hf hn hl h0
  rw [hR] at hlead
  rcases ordF_at R R.length 0 with ⟨n, h1, -, h3, h4, h5⟩ | ⟨h1, h2⟩
  · left
    have hn := hlead n (by omega) (fun i hi => h5 i (Nat.zero_le _) hi) h4
    have z := fun i (hi : i < n) => h5 i (Nat.zero_le _) hi
    have p2 : p ^ 2 = p * p := by rw [Nat.pow_succ, Nat.pow_one]
    have p3 : p ^ 3 = p * p * p := by rw [Nat.pow_succ, p2]
    have hp2 : 2 ≤ p := by omega
    have l1 : p < p * p := by have := Nat.mul_le_mul_left p hp2; omega
    have l2 : p * p < p * p * p := by have := Nat.mul_le_mul_left (p * p) hp2; omega
    rcases hn with rfl | rfl | rfl
    · refine ⟨1, Nat.le_refl _, by rw [Nat.pow_one]; omega, by rw [Nat.pow_one]; exact h1, by rw [Nat.pow_one]; exact h4, ?_⟩
      unfold hgN hgS
      rw [if_pos (by omega), if_neg h4]
    · rw [p2] at h1 h3 h4 z
      refine ⟨2, by omega, by rw [p2]; omega, by rw [p2]; exact h1, by rw [p2]; exact h4, ?_⟩
      unfold hgN hgS
      rw [if_pos (by omega), if_pos (z p l1)]
      unfold hgS
      rw [if_pos (by omega), if_neg h4]
    · rw [p3] at h1 h3 h4 z
      refine ⟨3, by omega, by rw [p3]; omega, by rw [p3]; exact h1, by rw [p3]; exact h4, ?_⟩
      unfold hgN hgS
      rw [if_pos (by omega), if_pos (z p (by omega))]
      unfold hgS
      rw [if_pos (by omega), if_pos (z (p * p) l2)]
      unfold hgS
      rw [if_pos (by omega), if_neg h4]
  · right
    refine ⟨h1, ?_⟩
    have z : ∀ f h n, hgS R p f h n = 0 := by
      intro f
      induction f with
      | zero => intros; rfl
      | succ f ih =>
        intro h n
        unfold hgS
        by_cases hn : n < R.length
        · rw [if_pos hn, if_pos (h2 n (Nat.zero_le _) (by omega)), ih]
        · rw [if_neg hn]
    exact z _ _ _
/-- height, unit, series and code of a law -/
def stM (m : Int) (t : List (List Int)) : Int × Int × List Int × Int :=
  if codeH m t = 0 then
    (if hgN (mulC m (t.length - 1) t m (Pl.lin m (t.length - 1) 1)) m.toNat = 0 then (0, 0, [], 4)
      else ((hgN (mulC m (t.length - 1) t m (Pl.lin m (t.length - 1) 1)) m.toNat : Int), Ser.co (mulC m (t.length - 1) t m (Pl.lin m (t.length - 1) 1)) (m.toNat ^ hgN (mulC m (t.length - 1) t m (Pl.lin m (t.length - 1) 1)) m.toNat),
        serH (mulC m (t.length - 1) t m (Pl.lin m (t.length - 1) 1)) (m.toNat ^ hgN (mulC m (t.length - 1) t m (Pl.lin m (t.length - 1) 1)) m.toNat) ((t.length - 1) / m.toNat ^ hgN (mulC m (t.length - 1) t m (Pl.lin m (t.length - 1) 1)) m.toNat), 0))
  else (0, 0, [], codeH m t)
theorem stM_ok {p d h : Nat} {t : List (List Int)} {R : List Int} (hc : codeH p t = 0) (hl : t.length = d + 1) (hR : mulC (p : Int) d t p (Pl.lin p d 1) = R) (hH : Hgt R p d h) : stM p t = ((h : Int), Ser.co R (p ^ h), serH R (p ^ h) (d / p ^ h), 0) := by
  unfold stM
  have h1 := hH.h1
  rw [if_pos hc, hl, Nat.add_sub_cancel, Int.toNat_natCast, hR, hH.is, if_neg (by omega)]
theorem stM_none {p d : Nat} {t : List (List Int)} {R : List Int} (hc : codeH p t = 0) (hl : t.length = d + 1) (hR : mulC (p : Int) d t p (Pl.lin p d 1) = R) (hH : hgN R p = 0) : stM p t = (0, 0, [], 4) := by
  unfold stM
  rw [if_pos hc, hl, Nat.add_sub_cancel, Int.toNat_natCast, hR, hH, if_pos rfl]
end Go.Proofs.YtfhdgcndiljjcaaGreatDoor

/- Contracts of statureOf, HeightOf, UnitOfHeight, SeriesOfHeight, of the program. -/
namespace Go.Proofs.YtfhdgcndiljjcaaGreatDoor
open Go Go.RowKit Go.WideShapes Go.ChangeShapes Go.ChangeAt

theorem pro_st (w : World) (m : Int) (A : Option Addr) (n c : Nat) : ∃ W, ((w.alloc (.cells #[.int .i64 m, .slice A n c] 28)).alloc (.cells #[.int .i64 0, .int .i64 0, .slice none 0 0] 49)).alloc (.cells #[.int .i64 m, .slice A n c] 28) = W ∧
    Box W w.heap.size m A n c ∧ VarC 49 W (w.heap.size + 1) #[.int .i64 0, .int .i64 0, .slice none 0 0] ∧ Box W (w.heap.size + 1 + 1) m A n c ∧ Below w.heap.size w W := by
  refine ⟨_, rfl, ((Box.newT _ _ _ _ _ _).keep (below_one _ _)).keep (below_one _ _), ?_, ?_, below_alloc _ (below_alloc _ (below_one _ _))⟩
  · have := (VarC.new 49 (w.alloc (.cells #[.int .i64 m, .slice A n c] 28)) #[.int .i64 0, .int .i64 0, .slice none 0 0]).keep (below_one _ (.cells #[.int .i64 m, .slice A n c] 28))
    simpa using this
  · have := Box.newT 28 ((w.alloc (.cells #[.int .i64 m, .slice A n c] 28)).alloc (.cells #[.int .i64 0, .int .i64 0, .slice none 0 0] 49)) m A n c
    simpa using this
set_option maxHeartbeats 8000000 in
set_option maxRecDepth 100000 in
/-- a law's stature, whatever it and its error tell -/
theorem statureOf_gen (m : Int) (A : Option Addr) (c d : Nat) (t : List (List Int)) (H U C : Int) (S : List Int) (x : Value) (w : World) (hz : szT t ≤ 1048576) (hr : RP w A t) (h0 : isL m t = true) (e1 : t.length = d + 1)
    (hst : ∀ W0, Below w.heap.size w W0 → Calls Tryz.prog 40 #[.agg #[.int .i64 m, .int .i64 d, .slice A t.length c]] W0 fun e w' => ∃ v, e = .returned (.tuple #[.agg #[.int .i64 H, .int .i64 U, v], x]) ∧ OwnI w' W0.heap.size v S ∧ Below W0.heap.size W0 w')
    (hce : ∀ W0, Below w.heap.size w W0 → Calls Tryz.prog 41 #[x] W0 fun e w' => e = .returned (.int .i64 C) ∧ Below W0.heap.size W0 w') :
    Calls Tryz.prog 32 #[.agg #[.int .i64 m, .slice A t.length c]] w fun e w' => ∃ v, e = .returned (.tuple #[.agg #[.int .i64 H, .int .i64 U, v], .int .i64 C]) ∧ OwnI w' w.heap.size v S ∧ Below w.heap.size w w' := by
  obtain ⟨W, hW, b1, v2, b4, hwb⟩ := pro_st w m A t.length c
  have B1 := Lib.hid b1
  have V2 := Lib.hid v2
  have HB := Lib.hid hwb
  have HW := Lib.hid hW
  have hc := codeL1_any (w.heap.size + 1 + 1) m A c t W hz (hr.below hwb) b4
  unfold codeL1 at hc
  rw [if_pos h0] at hc
  have HC0 := Lib.hid hc
  obtain ⟨-, d', e2, ok, hf⟩ := isL_of h0
  have hd2 := ok.d2
  have HG := Lib.hid (fun W0 => lawOf_nat m A t.length c d W0 e1 (by omega))
  have HST := Lib.hid hst
  have HCE := Lib.hid hce
  have hsz : w.heap.size + 1 < W.heap.size := v2.lt
  obtain ⟨L, hL⟩ : ∃ L, t.length = L := ⟨_, rfl⟩
  rw [hL] at HG HST HW B1 ⊢
  obtain ⟨x1, x2, x3⟩ := B1.out
  clear b1 v2 b4 hwb hW hr hc h0 ok hf e1 e2 hz hL hst hce
  go_enter Tryz.func32, Tryz.ntmps32
  go_wp2_with fail
  rw [HW.out]
  refine HC0.out.mono ?_
  rintro e w1 ⟨rfl, hb1⟩
  have hb1W := below_step HB.out hb1
  obtain ⟨y1, y2, y3⟩ := B1.out.keep hb1
  go_wp2_with fail
  refine (HG.out _).mono ?_
  rintro e w2 ⟨rfl, hb2⟩
  have hbW2 := below_step hb1 hb2
  go_wp2_with fail
  refine (HST.out _ (below_step HB.out hbW2)).mono ?_
  rintro e w3 ⟨u, rfl, ho, hb3⟩
  obtain ⟨A1, c1, rfl, -⟩ := ho.form
  obtain ⟨X, hX⟩ : ∃ X, w3.alloc (.cells #[.int .i64 H, .int .i64 U, .slice A1 S.length c1] 49) = X := ⟨_, rfl⟩
  have hbX : Below W.heap.size W X := by rw [← hX]; exact below_alloc _ (below_step hbW2 hb3)
  have v5 : VarC 49 X w3.heap.size #[.int .i64 H, .int .i64 U, .slice A1 S.length c1] := by rw [← hX]; exact VarC.new _ _ _
  have hoX : OwnI X w2.heap.size (.slice A1 S.length c1) S := by rw [← hX]; exact ho.keep (below_one _ _)
  have hs2 : W.heap.size ≤ w2.heap.size := hbW2.size
  have HX := Lib.hid hX
  have HOX := Lib.hid hoX
  obtain ⟨g5, hg5⟩ : ∃ g, w3.heap.size = g := ⟨_, rfl⟩
  rw [hg5] at v5
  have HG5 := Lib.hid hg5
  have V5 := Lib.hid v5
  have hv := V2.out.keep hbX
  have VX := Lib.hid hv
  obtain ⟨q0, q1, q2, q3, q4, q5⟩ := hv.tells3
  obtain ⟨c0, c1', c2, -, -, -⟩ := v5.tells3
  have HBX := Lib.hid (below_step HB.out hbX)
  have HB1 := Lib.hid ((below_step HB.out hbX).trans ((below_drew0 X).mono (below_step HB.out hbX).size))
  have h3 := hv.set3 (.int .i64 H) (.int .i64 U) (.slice A1 S.length c1)
  obtain ⟨g0, g1, g2, g3, g4⟩ := fin_stat (w := w) hv hoX (by omega) (by omega) (below_step HB.out hbX) (.int .i64 H) (.int .i64 U) (.slice A1 S.length c1)
  unfold set3 at g3 g4 h3
  have HB2 := Lib.hid g4.drew
  have HV3 := Lib.hid h3.drew
  have HO3 := Lib.hid g3
  clear hX hbX hb1 hb2 hb3 ho hg5 v5 hoX hv h3 g0 g1 g2 g3 g4 x1 x2 x3 y1 y2 y3 hb1W hbW2
  go_upto_region 5 with fail
  rw [HX.out, HG5.out]
  go_region_with (first
    | (go_at_call 41; with_reducible refine Calls.mono (HCE.out _ (by first | exact HB1.out | exact HB2.out)) ?_; rintro e wa ⟨rfl, hba⟩; first
        | (have hbX := below_step (below_drew0 X) hba; have hv9 := VX.out.keep hbX; obtain ⟨r0, r1, r2, r3, r4, r5⟩ := hv9.tells3; have h59 := V5.out.keep hbX; obtain ⟨s0, s1, s2, -, -, -⟩ := h59.tells3)
        | (have hv9 := HV3.out.keep hba; obtain ⟨r0, r1, r2, r3, r4, r5⟩ := hv9.tells3)))
  all_goals
    obtain ⟨f0, f1, f2, f3, f4⟩ := fin_stat (w := w) hv9 (HOX.out.keep (hbX.mono (Nat.le_refl _))) (by omega) (by omega) (below_step HBX.out hbX) (.int .i64 H) (.int .i64 U) (.slice A1 S.length c1)
    unfold set3 at f0 f1 f2 f3 f4
    have F3 := Lib.hid (OwnI.more (b' := w.heap.size) f3 (by omega))
    have F4 := Lib.hid f4
    clear f3 f4
    go_wp2
    exact bodyPost_ret (v := .tuple #[.agg #[.int .i64 H, .int .i64 U, .slice A1 S.length c1], .int .i64 C]) (by simp [results, Tryz.results32, go_sem, f0, f1, f2]) rfl ⟨_, rfl, F3.out, F4.out⟩
/-- no law: the code alone -/
theorem statureOf_bad (m : Int) (A : Option Addr) (c : Nat) (t : List (List Int)) (w : World) (hz : szT t ≤ 1048576) (hr : RP w A t) (h0 : ¬ isL m t = true) :
    Calls Tryz.prog 32 #[.agg #[.int .i64 m, .slice A t.length c]] w fun e w' => e = .returned (.tuple #[.agg #[.int .i64 0, .int .i64 0, .slice none 0 0], .int .i64 1]) ∧ Below w.heap.size w w' := by
  obtain ⟨W, hW, b1, v2, b4, hwb⟩ := pro_st w m A t.length c
  have V2 := Lib.hid v2
  have HB := Lib.hid hwb
  have HW := Lib.hid hW
  have hc := codeL1_any (w.heap.size + 1 + 1) m A c t W hz (hr.below hwb) b4
  unfold codeL1 at hc
  rw [if_neg h0] at hc
  have HC0 := Lib.hid hc
  obtain ⟨x1, x2, x3⟩ := b1
  clear v2 b4 hwb hW hr hc h0 hz
  go_enter Tryz.func32, Tryz.ntmps32
  go_wp2_with fail
  rw [HW.out]
  refine HC0.out.mono ?_
  rintro e w1 ⟨rfl, hb1⟩
  have hv := V2.out.keep hb1
  obtain ⟨q0, q1, q2, q3, q4, q5⟩ := hv.tells3
  obtain ⟨f0, f1, f2, f3, f4⟩ := fin_stat (w := w) hv (OwnI.nil _ (w.heap.size + 1 + 1)) (by omega) (by omega) (below_step HB.out hb1) (.int .i64 0) (.int .i64 0) (.slice none 0 0)
  unfold set3 at f0 f1 f2 f4
  have F4 := Lib.hid f4
  clear f3 f4 hv hb1
  go_wp2
  exact bodyPost_ret (v := .tuple #[.agg #[.int .i64 0, .int .i64 0, .slice none 0 0], .int .i64 1]) (by simp [results, Tryz.results32, go_sem, f0, f1, f2]) rfl ⟨rfl, F4.out⟩
/-- a law's stature and code -/
theorem statureOf_any (m : Int) (A : Option Addr) (c : Nat) (t : List (List Int)) (w : World) (hz : szT t ≤ 1048576) (hr : RP w A t) (hE : ErrT w) (z : Value) (hZ : ErrZ w z) :
    Calls Tryz.prog 32 #[.agg #[.int .i64 m, .slice A t.length c]] w fun e w' => ∃ v, e = .returned (.tuple #[.agg #[.int .i64 (stM m t).1, .int .i64 (stM m t).2.1, v], .int .i64 (stM m t).2.2.2]) ∧ OwnI w' w.heap.size v (stM m t).2.2.1 ∧ Below w.heap.size w w' := by
  have hw0 : 0 < w.heap.size := Nat.lt_trans Nat.zero_lt_one hE.lt
  by_cases h0 : isL m t = true
  · obtain ⟨-, d, e1, ok, hf⟩ := isL_of h0
    by_cases hp : isP4 m = true
    · have hcH : codeH m t = 0 := by unfold codeH; rw [if_pos h0, if_pos hp]
      have hp4 := (isP4_iff m).1 hp
      obtain ⟨p, rfl⟩ := Int.eq_ofNat_of_zero_le (show 0 ≤ m by omega)
      obtain ⟨R, hR⟩ : ∃ R, mulC (p : Int) d t p (Pl.lin p d 1) = R := ⟨_, rfl⟩
      have hsR : isS (p : Int) R = true := by rw [← hR]; exact (mulC_cv ok (Pl.norm_law hf ok) p (lin_cv ok 1)).1.toS
      rcases hgt_or (by omega) ok hf hR with ⟨h, hH⟩ | ⟨ho, hn⟩
      · rw [stM_ok hcH e1 hR hH]
        have hpos : 1 ≤ p ^ h := Nat.pow_pos (by omega)
        have hC : ordM (p : Int) R = (((p ^ h : Nat) : Int), 0) := by unfold ordM; rw [if_pos hsR]; exact hH.ord
        refine statureOf_gen p A c d t h (Ser.co R (p ^ h)) 0 (serH R (p ^ h) (d / p ^ h)) .nilIface w hz hr h0 e1 (fun W0 hb => ?_) (fun W0 _ => codeOfError_nil W0)
        have := stature_ok p d A c t (p ^ h) W0 ok hf hp (hr.below hb) R hR hC hpos hH.le
        rw [tk_pow (by omega)] at this
        exact this
      · rw [stM_none hcH e1 hR hn]
        have hC : (ordM (p : Int) R).2 ≠ 0 := by unfold ordM; rw [if_pos hsR, ho]; show (5 : Int) ≠ 0; omega
        refine statureOf_gen p A c d t 0 0 4 [] (.iface 155 z) w hz hr h0 e1 (fun W0 hb => ?_) (fun W0 hb => codeOfError_miss z W0 (hE.keep hb hE.lt))
        refine (stature_err p d A t.length c 155 z W0 (fun W1 hb1 => ?_)).mono ?_
        · have hbb := hb.trans (hb1.mono hb.size)
          exact andOrder_zero p d A c t p z W1 ok hf hp (by omega) (by omega) (hr.below hbb) (hZ.keep hbb hw0) (by have := hbb.size; omega) (by rw [hR]; exact hC)
        · rintro e w' ⟨rfl, hb2⟩
          exact ⟨_, rfl, OwnI.nil _ _, hb2⟩
    · have hcH : codeH m t = 5 := by unfold codeH; rw [if_pos h0, if_neg hp]
      have hs : stM m t = (0, 0, [], 5) := by unfold stM; rw [hcH, if_neg (by omega)]
      rw [hs]
      refine statureOf_gen m A c d t 0 0 5 [] (.iface 83 (.agg #[.int .i64 m])) w hz hr h0 e1 (fun W0 hb => ?_) (fun W0 hb => codeOfError_hit m W0 (hE.keep hb hE.lt))
      refine (stature_err m d A t.length c 83 (.agg #[.int .i64 m]) W0 (fun W1 hb1 => andOrder_no m d A t.length c m W1 (by simpa using hp))).mono ?_
      rintro e w' ⟨rfl, hb2⟩
      exact ⟨_, rfl, OwnI.nil _ _, hb2⟩
  · have hcH : codeH m t = 1 := by unfold codeH; rw [if_neg h0]
    have hs : stM m t = (0, 0, [], 1) := by unfold stM; rw [hcH, if_neg (by omega)]
    rw [hs]
    refine (statureOf_bad m A c t w hz hr h0).mono ?_
    rintro e w' ⟨rfl, hb2⟩
    exact ⟨_, rfl, OwnI.nil _ _, hb2⟩
def hgtM (m : Int) (t : List (List Int)) : Int × Int := ((stM m t).1, (stM m t).2.2.2)
def uohM (m : Int) (t : List (List Int)) : Int × Int := ((stM m t).2.1, (stM m t).2.2.2)
def sohM (m : Int) (t : List (List Int)) : List Int × Int := ((stM m t).2.2.1, (stM m t).2.2.2)
set_option maxHeartbeats 4000000 in
set_option maxRecDepth 100000 in
theorem HeightOf_any (m : Int) (A : Option Addr) (c : Nat) (t : List (List Int)) (w : World) (hz : szT t ≤ 1048576) (hr : RP w A t) (hE : ErrT w) (z : Value) (hZ : ErrZ w z) :
    Calls Tryz.prog 12 #[.agg #[.int .i64 m, .slice A t.length c]] w fun e w' => e = .returned (.tuple #[.int .i64 (hgtM m t).1, .int .i64 (hgtM m t).2]) ∧ Below w.heap.size w w' := by
  obtain ⟨W, hW, b1, hwb⟩ := start1 28 w m A t.length c
  have HB := Lib.hid hwb
  have HW := Lib.hid hW
  have HS := Lib.hid (statureOf_any m A c t W hz (hr.below hwb) (hE.keep hwb hE.lt) z (hZ.keep hwb (Nat.lt_trans Nat.zero_lt_one hE.lt)))
  unfold hgtM
  obtain ⟨⟨H, U, S, C⟩, hQ⟩ : ∃ Q, stM m t = Q := ⟨_, rfl⟩
  rw [hQ] at HS ⊢
  obtain ⟨x1, x2, x3⟩ := b1
  clear hwb hW hr hz hE hZ hQ
  go_enter Tryz.func12, Tryz.ntmps12
  go_wp2_with fail
  rw [HW.out]
  go_wp2_with fail
  refine HS.out.mono ?_
  rintro e w1 ⟨v, rfl, ho, hb1⟩
  obtain ⟨A1, c1, rfl, -⟩ := ho.form
  have v5 : VarC 49 (w1.alloc (.cells #[.int .i64 H, .int .i64 U, .slice A1 S.length c1] 49)) w1.heap.size #[.int .i64 H, .int .i64 U, .slice A1 S.length c1] := VarC.new _ _ _
  obtain ⟨c0, c1', c2, -, -, -⟩ := v5.tells3
  have HB1 := Lib.hid (below_step HB.out (below_alloc (.cells #[.int .i64 H, .int .i64 U, .slice A1 S.length c1] 49) hb1))
  clear v5 ho hb1
  go_wp2
  exact bodyPost_ret (v := .tuple #[.int .i64 H, .int .i64 C]) (by simp [results, Tryz.results12, go_sem]) rfl ⟨rfl, HB1.out⟩
set_option maxHeartbeats 4000000 in
set_option maxRecDepth 100000 in
theorem UnitOfHeight_any (m : Int) (A : Option Addr) (c : Nat) (t : List (List Int)) (w : World) (hz : szT t ≤ 1048576) (hr : RP w A t) (hE : ErrT w) (z : Value) (hZ : ErrZ w z) :
    Calls Tryz.prog 15 #[.agg #[.int .i64 m, .slice A t.length c]] w fun e w' => e = .returned (.tuple #[.int .i64 (uohM m t).1, .int .i64 (uohM m t).2]) ∧ Below w.heap.size w w' := by
  obtain ⟨W, hW, b1, hwb⟩ := start1 28 w m A t.length c
  have HB := Lib.hid hwb
  have HW := Lib.hid hW
  have HS := Lib.hid (statureOf_any m A c t W hz (hr.below hwb) (hE.keep hwb hE.lt) z (hZ.keep hwb (Nat.lt_trans Nat.zero_lt_one hE.lt)))
  unfold uohM
  obtain ⟨⟨H, U, S, C⟩, hQ⟩ : ∃ Q, stM m t = Q := ⟨_, rfl⟩
  rw [hQ] at HS ⊢
  obtain ⟨x1, x2, x3⟩ := b1
  clear hwb hW hr hz hE hZ hQ
  go_enter Tryz.func15, Tryz.ntmps15
  go_wp2_with fail
  rw [HW.out]
  go_wp2_with fail
  refine HS.out.mono ?_
  rintro e w1 ⟨v, rfl, ho, hb1⟩
  obtain ⟨A1, c1, rfl, -⟩ := ho.form
  have v5 : VarC 49 (w1.alloc (.cells #[.int .i64 H, .int .i64 U, .slice A1 S.length c1] 49)) w1.heap.size #[.int .i64 H, .int .i64 U, .slice A1 S.length c1] := VarC.new _ _ _
  obtain ⟨c0, c1', c2, -, -, -⟩ := v5.tells3
  have HB1 := Lib.hid (below_step HB.out (below_alloc (.cells #[.int .i64 H, .int .i64 U, .slice A1 S.length c1] 49) hb1))
  clear v5 ho hb1
  go_wp2
  exact bodyPost_ret (v := .tuple #[.int .i64 U, .int .i64 C]) (by simp [results, Tryz.results15, go_sem]) rfl ⟨rfl, HB1.out⟩
set_option maxHeartbeats 4000000 in
set_option maxRecDepth 100000 in
theorem SeriesOfHeight_any (m : Int) (A : Option Addr) (c : Nat) (t : List (List Int)) (w : World) (hz : szT t ≤ 1048576) (hr : RP w A t) (hE : ErrT w) (z : Value) (hZ : ErrZ w z) :
    Calls Tryz.prog 17 #[.agg #[.int .i64 m, .slice A t.length c]] w fun e w' => ∃ s, e = .returned (.tuple #[s, .int .i64 (sohM m t).2]) ∧ OwnI w' w.heap.size s (sohM m t).1 ∧ Below w.heap.size w w' := by
  obtain ⟨W, hW, b1, hwb⟩ := start1 28 w m A t.length c
  have HB := Lib.hid hwb
  have HW := Lib.hid hW
  have HS := Lib.hid (statureOf_any m A c t W hz (hr.below hwb) (hE.keep hwb hE.lt) z (hZ.keep hwb (Nat.lt_trans Nat.zero_lt_one hE.lt)))
  unfold sohM
  obtain ⟨⟨H, U, S, C⟩, hQ⟩ : ∃ Q, stM m t = Q := ⟨_, rfl⟩
  rw [hQ] at HS ⊢
  obtain ⟨x1, x2, x3⟩ := b1
  clear hwb hW hr hz hE hZ hQ
  go_enter Tryz.func17, Tryz.ntmps17
  go_wp2_with fail
  rw [HW.out]
  go_wp2_with fail
  refine HS.out.mono ?_
  rintro e w1 ⟨v, rfl, ho, hb1⟩
  obtain ⟨A1, c1, rfl, -⟩ := ho.form
  have v5 : VarC 49 (w1.alloc (.cells #[.int .i64 H, .int .i64 U, .slice A1 S.length c1] 49)) w1.heap.size #[.int .i64 H, .int .i64 U, .slice A1 S.length c1] := VarC.new _ _ _
  obtain ⟨c0, c1', c2, -, -, -⟩ := v5.tells3
  have HO := Lib.hid ((ho.keep (below_one w1 (.cells #[.int .i64 H, .int .i64 U, .slice A1 S.length c1] 49))).more (b' := w.heap.size) HB.out.size)
  have HB1 := Lib.hid (below_step HB.out (below_alloc (.cells #[.int .i64 H, .int .i64 U, .slice A1 S.length c1] 49) hb1))
  clear v5 ho hb1
  go_wp2
  exact bodyPost_ret (v := .tuple #[.slice A1 S.length c1, .int .i64 C]) (by simp [results, Tryz.results17, go_sem]) rfl ⟨_, rfl, HO.out, HB1.out⟩
end Go.Proofs.YtfhdgcndiljjcaaGreatDoor

/- Contracts of l10Height and l10Series, of the model. -/
namespace Go.Proofs.YtfhdgcndiljjcaaGreatDoor
open Go Go.RowKit Go.WideShapes Go.ChangeShapes Go.ChangeAt

theorem hgS_go {R : List Int} {p f h n : Nat} (h1 : n < R.length) (h2 : Ser.co R n = 0) : hgS R p (f + 1) h n = hgS R p f (h + 1) (n * p) := by rw [hgS, if_pos h1, if_pos h2]
theorem hgS_hit {R : List Int} {p f h n : Nat} (h1 : n < R.length) (h2 : ¬ Ser.co R n = 0) : hgS R p (f + 1) h n = h := by rw [hgS, if_pos h1, if_neg h2]
theorem hgS_end {R : List Int} {p f h n : Nat} (h1 : ¬ n < R.length) : hgS R p f h n = 0 := by
  cases f with
  | zero => rfl
  | succ f => rw [hgS, if_neg h1]
theorem pow_grow {n p f : Nat} (hp : 2 ≤ p) (h : 32 ≤ n * 2 ^ (f + 1)) : 32 ≤ n * p * 2 ^ f := by
  rw [Nat.pow_succ, Nat.mul_comm (2 ^ f) 2, ← Nat.mul_assoc] at h
  exact Nat.le_trans h (Nat.mul_le_mul_right _ (Nat.mul_le_mul_left n hp))
theorem pow_zeroN {n : Nat} (h : 32 ≤ n * 2 ^ 0) : 32 ≤ n := by rw [Nat.pow_zero, Nat.mul_one] at h; exact h
theorem wrap_mul {n p q : Nat} (hq : n * p = q) (h : q ≤ 100) : wrap64 ((n : Int) * (p : Int)) = (q : Int) := by
  rw [← Int.natCast_mul, hq]
  unfold wrap64; omega
theorem pow_pos1 {n f : Nat} (h : 32 ≤ n * 2 ^ f) : 1 ≤ n := by
  rcases Nat.eq_zero_or_pos n with rfl | h0
  · rw [Nat.zero_mul] at h; omega
  · exact h0
theorem wrap_add {j q d : Nat} (h2 : j ≤ d) (h3 : q ≤ d) (hd : d ≤ 10) : wrap64 ((j : Int) + (q : Int)) = (j : Int) + (q : Int) := by
  unfold wrap64; omega
theorem meas_lt {d j q : Nat} (h1 : 1 ≤ q) (h2 : j ≤ d) (h3 : q ≤ d) (hd : d ≤ 10) : 2 * d + 1 - (wrap64 ((j : Int) + (q : Int))).toNat < 2 * d + 1 - ((j : Int)).toNat := by
  rw [wrap_add h2 h3 hd]; omega
theorem hgN_is (R : List Int) (p : Nat) : hgN R p = hgS R p 5 1 p := rfl
set_option maxHeartbeats 8000000 in
set_option maxRecDepth 100000 in
theorem l10Height_any (p : Nat) (d : Nat) (A : Option Addr) (c : Nat) (t : List (List Int)) (R : List Int) (w : World) (hs : Pl.Ok p d t) (hf : Pl.fau p d (Pl.pc t) = none) (hp : p = 2 ∨ p = 3 ∨ p = 5 ∨ p = 7) (hr : RP w A t) (hR : mulC (p : Int) d t p (Pl.lin p d 1) = R) :
    Calls Tryz.prog 30 #[.agg #[.int .i64 p, .slice A t.length c]] w fun e w' => ∃ v, e = .returned (.tuple #[.int .i64 (hgN R p : Nat), v]) ∧ OwnI w' w.heap.size v R ∧ Below w.heap.size w w' := by
  obtain ⟨W, hW, b1, hwb⟩ := start1 28 w p A t.length c
  have B1 := Lib.hid b1
  have HB := Lib.hid hwb
  have HW := Lib.hid hW
  have HO := Lib.hid (fun W0 (h : Below W.heap.size W W0) => l04Of_any p d A c t p W0 hs hf (by omega) (by omega) ((hr.below hwb).below h))
  have hRl : R.length = d + 1 := by rw [← hR]; exact (mulC_cv hs (Pl.norm_law hf hs) p (lin_cv hs 1)).1.len
  have hd2 := hs.d2
  rw [hR] at HO
  have hl11 : R.length ≤ 11 := by omega
  obtain ⟨Z, hZ⟩ : ∃ Z, hgN R p = Z := ⟨_, rfl⟩
  rw [hZ]
  have HZ := Lib.hid hZ
  obtain ⟨L, hL⟩ : ∃ L, t.length = L := ⟨_, rfl⟩
  rw [hL] at HO HW B1 ⊢
  have hp2 : 2 ≤ p := by omega
  have hp7 : p ≤ 7 := by omega
  obtain ⟨x1, x2, x3⟩ := B1.out
  clear b1 hwb hW hr hs hf hR hL hZ hp hRl hd2
  go_enter Tryz.func30, Tryz.ntmps30
  go_wp2_with fail
  rw [HW.out]
  go_wp2_with fail
  refine (HO.out _ (Below.refl _ _)).mono ?_
  rintro e w1 ⟨u, rfl, ho, hb1⟩
  obtain ⟨A1, c1, rfl, -⟩ := ho.form
  have HR := Lib.hid ho.ri
  have HOw := Lib.hid (ho.more (b' := w.heap.size) HB.out.size)
  obtain ⟨y1, y2, y3⟩ := B1.out.keep hb1
  have HB1 := Lib.hid (below_step HB.out hb1)
  clear x1 x2 x3 hb1 ho
  go_wp2
  go_loop [5, 6] (fun a b => ∃ h n f : Nat, a = .int .i64 h ∧ b = .int .i64 n ∧ hgN R p = hgS R p f h n ∧ 32 ≤ n * 2 ^ f ∧ n ≤ 100 ∧ h + f = 6) (fun a _ => 10 - (intOf a).toNat)
  case atStart => exact ⟨1, p, 5, rfl, rfl, hgN_is R p, by omega, by omega, by omega⟩
  case round =>
    obtain ⟨h, n, f, rfl, rfl, hq, hm, hn, hhn⟩ := hrel
    have HQ := Lib.hid hq
    have HM := Lib.hid hm
    clear hq hm
    by_cases hlt : n < R.length
    · obtain ⟨b, off, rfl, hb, hc⟩ := HR.out.at n hlt
      obtain ⟨f, rfl⟩ : ∃ f', f = f' + 1 := by
        cases f with
        | zero => exact absurd (pow_zeroN HM.out) (by omega)
        | succ f => exact ⟨f, rfl⟩
      by_cases hz : Ser.co R n = 0
      · have HN := Lib.hid (show hgN R p = hgS R p f (h + 1) (n * p) by rw [HQ.out, hgS_go hlt hz])
        have h2n : n * 2 ≤ n * p := Nat.mul_le_mul_left n hp2
        have hnp : n * p ≤ 10 * 7 := Nat.mul_le_mul (by omega) hp7
        have HM2 := Lib.hid (pow_grow hp2 HM.out)
        have n1 : 1 ≤ n := pow_pos1 HM.out
        obtain ⟨q, hq⟩ : ∃ q, n * p = q := ⟨_, rfl⟩
        rw [hq] at HN HM2 h2n hnp
        have hwh : IntKind.i64.wrap ((h : Int) + 1) = ((h + 1 : Nat) : Int) := by rw [IntKind.wrap_i64]; omega
        have HW6 := Lib.hid (wrap_mul hq (by omega))
        rw [hz] at hc
        clear hz hq
        go_wp2
        go_round
        case rel => exact ⟨h + 1, q, f, by go_num, by rw [HW6.out], HN.out, HM2.out, by omega, by omega⟩
        case measure =>
          simp only [intOf]; omega
      · have HN := Lib.hid (show Z = h by rw [← HZ.out, HQ.out, hgS_hit hlt hz])
        obtain ⟨n1, n2⟩ := ne_facts hz
        obtain ⟨X, hX⟩ : ∃ X, Ser.co R n = X := ⟨_, rfl⟩
        rw [hX] at hc n1 n2 hz
        clear hX
        go_wp2
        exact bodyPost_ret (v := .tuple #[.int .i64 h, .slice (some ⟨b, off, none⟩) R.length c1]) (by simp [results, Tryz.results30, go_sem]) rfl ⟨_, by rw [HN.out], HOw.out, HB1.out⟩
    · have HN := Lib.hid (show Z = 0 by rw [← HZ.out, HQ.out, hgS_end hlt])
      go_wp2
      exact bodyPost_ret (v := .tuple #[.int .i64 0, .slice A1 R.length c1]) (by simp [results, Tryz.results30, go_sem]) rfl ⟨_, by rw [HN.out]; rfl, HOw.out, HB1.out⟩
set_option maxHeartbeats 8000000 in
set_option maxRecDepth 100000 in
theorem l10Series_h (p d h : Nat) (A : Option Addr) (c : Nat) (t : List (List Int)) (R : List Int) (w : World) (hs : Pl.Ok p d t) (hf : Pl.fau p d (Pl.pc t) = none) (hp : p = 2 ∨ p = 3 ∨ p = 5 ∨ p = 7) (hr : RP w A t) (hR : mulC (p : Int) d t p (Pl.lin p d 1) = R) (hH : Hgt R p d h) :
    Calls Tryz.prog 34 #[.agg #[.int .i64 p, .slice A t.length c]] w fun e w' => ∃ v, e = .returned v ∧ OwnI w' w.heap.size v (serH R (p ^ h) (d / p ^ h)) ∧ Below w.heap.size w w' := by
  obtain ⟨W, hW, b1, hwb⟩ := start1 28 w p A t.length c
  have B1 := Lib.hid b1
  have HB := Lib.hid hwb
  have HW := Lib.hid hW
  have HO := Lib.hid (l10Height_any p d A c t R W hs hf hp (hr.below hwb) hR)
  have hRl : R.length = d + 1 := by rw [← hR]; exact (mulC_cv hs (Pl.norm_law hf hs) p (lin_cv hs 1)).1.len
  have hd2 := hs.d2
  rw [hH.is] at HO
  have hh1 := hH.h1
  have hle := hH.le
  obtain ⟨L, hL⟩ : ∃ L, t.length = L := ⟨_, rfl⟩
  rw [hL] at HO HW B1 ⊢
  have hp2 : 2 ≤ p := by omega
  have HPOS := Lib.hid (show 1 ≤ p ^ h from Nat.pow_pos (by omega))
  have HPK := Lib.hid (fun k (hk : k ≤ h) => Nat.le_trans (Nat.pow_le_pow_right (show 0 < p by omega) hk) (Nat.le_trans hle hd2))
  have hh9 : h ≤ 9 := by
    have h2 : 2 ^ h ≤ p ^ h := Nat.pow_le_pow_left hp2 h
    have h3 : h < 2 ^ h := Nat.lt_two_pow_self
    omega
  have HRL := Lib.hid hRl
  have HLE := Lib.hid hle
  obtain ⟨x1, x2, x3⟩ := B1.out
  clear b1 hwb hW hr hs hf hR hL hp hRl hH hle
  go_enter Tryz.func34, Tryz.ntmps34
  go_wp2_with fail
  rw [HW.out]
  go_wp2_with fail
  refine HO.out.mono ?_
  rintro e w1 ⟨u, rfl, ho, hb1⟩
  obtain ⟨A1, c1, rfl, -⟩ := ho.form
  have HR := Lib.hid ho.ri
  have y1 := B1.out.keep hb1
  have Y1 := Lib.hid y1
  have HB1 := Lib.hid (below_step HB.out hb1)
  clear x1 x2 x3 hb1 ho y1
  go_wp2
  have HE := Lib.hid (OwnI.empty w1)
  have HE1 := Lib.hid (below_one w1 (.cells #[] 2))
  obtain ⟨X, hX⟩ : ∃ X, w1.alloc (.cells #[] 2) = X := ⟨_, rfl⟩
  rw [hX] at HE HE1
  have HX := Lib.hid hX
  obtain ⟨z1, z2, z3⟩ := Y1.out.keep HE1.out
  clear hX
  rw [HX.out]
  go_loop [5, 7] (fun a b => ∃ k q : Nat, p ^ k = q ∧ a = .int .i64 q ∧ b = .int .i64 k ∧ k ≤ h) (fun _ b => h - (intOf b).toNat)
  case atStart => exact ⟨0, 1, Nat.pow_zero p, rfl, rfl, Nat.zero_le _⟩
  case round =>
    obtain ⟨k, q, hq, rfl, rfl, hk⟩ := hrel
    by_cases hlt : k < h
    · have hq2 : q * p ≤ 10 := by
        have := HPK.out (k + 1) hlt
        rw [Nat.pow_succ, hq] at this
        exact this
      obtain ⟨q', hq'⟩ : ∃ q', q * p = q' := ⟨_, rfl⟩
      have HQ := Lib.hid (show p ^ (k + 1) = q' by rw [Nat.pow_succ, hq, hq'])
      have HW6 := Lib.hid (wrap_mul hq' (by omega))
      have j2 : (k : Int) < (h : Int) := by omega
      clear hq hq2 hq'
      go_wp2
      go_round
      case rel => exact ⟨k + 1, q', HQ.out, by rw [HW6.out], by go_num, hlt⟩
      case measure => simp only [intOf]; omega
    · obtain rfl : k = h := by omega
      have HN1 := Lib.hid (show 1 ≤ q by rw [← hq]; exact HPOS.out)
      have HN2 := Lib.hid (show q ≤ d by rw [← hq]; exact HLE.out)
      have HQ := Lib.hid hq
      have hk0 : (0 : Int) < (k : Int) := by omega
      clear hq
      go_wp2
      go_loopw [6, 8] (fun v i wr => ∃ s j : Nat, j = (s + 1) * q ∧ i = .int .i64 j ∧ s * q ≤ d ∧ OwnI wr w1.heap.size v (serH R q s) ∧ Below w1.heap.size w1 wr) (fun _ i _ => 2 * d + 1 - (intOf i).toNat)
      case atStart => exact ⟨0, q, by omega, rfl, by omega, HE.out, HE1.out⟩
      case round =>
        obtain ⟨s, j, hkj, rfl, hkd, hown, hbel⟩ := hrel
        have HOw := Lib.hid hown
        have HBW := Lib.hid hbel
        have hsz := hbel.size
        have HKJ := Lib.hid hkj
        have HKD := Lib.hid hkd
        clear hown hbel hkj hkd
        by_cases hlt2 : j < R.length
        · obtain ⟨b, off, rfl, hb, hc⟩ := HR.out.at j hlt2
          have cc := (HBW.out.cell (p := ⟨b, off + j, none⟩) hb).trans hc
          have j0 : (0 : Int) ≤ (j : Int) := by omega
          have j1 : (j : Int) < (R.length : Int) := by omega
          obtain ⟨Y, hY⟩ : ∃ Y, Ser.co R j = Y := ⟨_, rfl⟩
          rw [hY] at cc
          have HST := Lib.hid (show serH R q (s + 1) = serH R q s ++ [Y] by rw [serH, ← HKJ.out, hY])
          have HLN := Lib.hid (serH_len R q s)
          have hk9 : s ≤ d := by
            have h1 := HKJ.out
            have h2 := HN1.out
            have : s * 1 ≤ s * q := Nat.mul_le_mul_left s h2
            have := HKD.out
            omega
          have hjd : j ≤ d := by have := HRL.out; omega
          have hq9 : q ≤ d := HN2.out
          have hwr : IntKind.i64.wrap ((j : Int) + (q : Int)) = ((j + q : Nat) : Int) := by rw [IntKind.wrap_i64]; omega
          clear hY hc
          go_wp2_with (at_builtin; refine wp_push _ _ _ (by rfl) (by rfl) Tryz.underlying32 w1.heap.size _ _ (by rfl) HOw.out Y (by rfl) (by have := HLN.out; omega) hsz ?_; intro v' w4 ho1 hpb)
          have HP := Lib.hid (HBW.out.trans hpb)
          have HQ2 := Lib.hid ho1
          clear hpb ho1 hk9
          go_wp2
          go_roundw
          case rel => exact ⟨s + 1, j + q, next_mult HKJ.out, by first | rfl | rw [Int.natCast_add], by rw [← HKJ.out]; exact hjd, by rw [HST.out]; exact HQ2.out, HP.out⟩
          case measure => simp only [intOf]; have := HN1.out; omega
        · have hqd : s = d / q := by
            have h1 := HKJ.out
            have h2 := HKD.out
            have h3 : d < (s + 1) * q := by have := HRL.out; omega
            have h4 := Nat.div_lt_of_lt_mul (show d < q * (s + 1) by rw [Nat.mul_comm]; exact h3)
            have h5 := (Nat.le_div_iff_mul_le (show 0 < q from HN1.out)).2 h2
            omega
          have HS := Lib.hid (show serH R (p ^ k) (d / p ^ k) = serH R q s by rw [HQ.out, hqd])
          have HF := Lib.hid (HOw.out.more (b' := w.heap.size) HB1.out.size)
          have HFB := Lib.hid (below_step HB1.out HBW.out)
          clear hqd
          go_wp2
          go_ret
          exact ⟨_, rfl, by rw [HS.out]; exact HF.out, HFB.out⟩
set_option maxHeartbeats 4000000 in
set_option maxRecDepth 100000 in
theorem l10Series_0 (p d : Nat) (A : Option Addr) (c : Nat) (t : List (List Int)) (R : List Int) (w : World) (hs : Pl.Ok p d t) (hf : Pl.fau p d (Pl.pc t) = none) (hp : p = 2 ∨ p = 3 ∨ p = 5 ∨ p = 7) (hr : RP w A t) (hR : mulC (p : Int) d t p (Pl.lin p d 1) = R) (hH : hgN R p = 0) :
    Calls Tryz.prog 34 #[.agg #[.int .i64 p, .slice A t.length c]] w fun e w' => ∃ v, e = .returned v ∧ OwnI w' w.heap.size v [] ∧ Below w.heap.size w w' := by
  obtain ⟨W, hW, b1, hwb⟩ := start1 28 w p A t.length c
  have HB := Lib.hid hwb
  have HW := Lib.hid hW
  have HO := Lib.hid (l10Height_any p d A c t R W hs hf hp (hr.below hwb) hR)
  rw [hH] at HO
  obtain ⟨L, hL⟩ : ∃ L, t.length = L := ⟨_, rfl⟩
  rw [hL] at HO HW b1 ⊢
  obtain ⟨x1, x2, x3⟩ := b1
  clear hwb hW hr hs hf hR hL hp hH
  go_enter Tryz.func34, Tryz.ntmps34
  go_wp2_with fail
  rw [HW.out]
  go_wp2_with fail
  refine HO.out.mono ?_
  rintro e w1 ⟨u, rfl, ho, hb1⟩
  obtain ⟨A1, c1, rfl, -⟩ := ho.form
  have HB1 := Lib.hid (below_step HB.out hb1)
  clear x1 x2 x3 hb1 ho
  go_wp2
  have HE := Lib.hid ((OwnI.empty w1).more (b' := w.heap.size) HB1.out.size)
  have HE1 := Lib.hid (below_step HB1.out (below_one w1 (.cells #[] 2)))
  obtain ⟨X, hX⟩ : ∃ X, w1.alloc (.cells #[] 2) = X := ⟨_, rfl⟩
  rw [hX] at HE HE1
  have HX := Lib.hid hX
  clear hX
  rw [HX.out]
  go_loop [5, 7] (fun a b => a = .int .i64 1 ∧ b = .int .i64 0) (fun _ _ => 0)
  case atStart => exact ⟨rfl, rfl⟩
  case round =>
    obtain ⟨rfl, rfl⟩ := hrel
    go_wp2
    go_loop [6, 8] (fun v b => v = .slice (some ⟨w1.heap.size, 0, none⟩) 0 0 ∧ b = .int .i64 1) (fun _ _ => 0)
    case atStart => exact ⟨rfl, rfl⟩
    case round =>
      obtain ⟨rfl, rfl⟩ := hrel
      go_wp2
      go_ret
      exact ⟨_, rfl, HE.out, HE1.out⟩
end Go.Proofs.YtfhdgcndiljjcaaGreatDoor

/- Contracts of HeightOf, UnitOfHeight, SeriesOfHeight, of the model. -/
namespace Go.Proofs.YtfhdgcndiljjcaaGreatDoor
open Go Go.RowKit Go.WideShapes Go.ChangeShapes Go.ChangeAt

theorem stM_bad {m : Int} {t : List (List Int)} (h : codeH m t ≠ 0) : stM m t = (0, 0, [], codeH m t) := by unfold stM; rw [if_neg h]
/-- with a prime number as modulus: the model's two helpers, and what they tell -/
theorem model_h (m : Int) (A : Option Addr) (c : Nat) (t : List (List Int)) (w : World) (hc : codeH m t = 0) (hr : RP w A t) :
    ∃ h : Nat, (∀ W0, Below w.heap.size w W0 → Calls Tryz.prog 30 #[.agg #[.int .i64 m, .slice A t.length c]] W0 fun e w' => ∃ v R, e = .returned (.tuple #[.int .i64 h, v]) ∧ OwnI w' W0.heap.size v R ∧ Below W0.heap.size W0 w') ∧
      (∀ W0, Below w.heap.size w W0 → Calls Tryz.prog 34 #[.agg #[.int .i64 m, .slice A t.length c]] W0 fun e w' => ∃ v, e = .returned v ∧ OwnI w' W0.heap.size v (stM m t).2.2.1 ∧ Below W0.heap.size W0 w') ∧
      ((h = 0 ∧ stM m t = (0, 0, [], 4)) ∨ (1 ≤ h ∧ ∃ U S, stM m t = ((h : Int), U, S, 0) ∧ 1 ≤ S.length ∧ S.length ≤ 11 ∧ Ser.co S 0 = U)) := by
  obtain ⟨hl, hp⟩ := codeH_ok hc
  obtain ⟨-, d, e1, ok, hf⟩ := isL_of hl
  have hp4 := (isP4_iff m).1 hp
  obtain ⟨p, rfl⟩ := Int.eq_ofNat_of_zero_le (show 0 ≤ m by omega)
  obtain ⟨R, hR⟩ : ∃ R, mulC (p : Int) d t p (Pl.lin p d 1) = R := ⟨_, rfl⟩
  have hp4' : p = 2 ∨ p = 3 ∨ p = 5 ∨ p = 7 := by omega
  have hd2 := ok.d2
  rcases hgt_or hp4' ok hf hR with ⟨h, hH⟩ | ⟨ho, hn⟩
  · have hS := stM_ok hc e1 hR hH
    have hpos : 1 ≤ p ^ h := Nat.pow_pos (by omega)
    have h1 := hH.h1
    have hle := hH.le
    refine ⟨h, fun W0 hb => ?_, fun W0 hb => ?_, .inr ⟨h1, _, _, hS, ?_, ?_, ?_⟩⟩
    · refine (l10Height_any p d A c t R W0 ok hf hp4' (hr.below hb) hR).mono ?_
      rintro e w' ⟨v, rfl, ho, hb2⟩
      rw [hH.is]
      exact ⟨v, R, rfl, ho, hb2⟩
    · rw [hS]
      exact l10Series_h p d h A c t R W0 ok hf hp4' (hr.below hb) hR hH
    · rw [serH_len]; exact Nat.div_pos hle hpos
    · rw [serH_len]; have := Nat.div_le_self d (p ^ h); omega
    · obtain ⟨q, hq⟩ : ∃ q, d / p ^ h = q + 1 := ⟨d / p ^ h - 1, by have := Nat.div_pos hle hpos; omega⟩
      rw [hq]; exact serH_head R (p ^ h) q
  · have hS := stM_none hc e1 hR hn
    refine ⟨0, fun W0 hb => ?_, fun W0 hb => ?_, .inl ⟨rfl, hS⟩⟩
    · refine (l10Height_any p d A c t R W0 ok hf hp4' (hr.below hb) hR).mono ?_
      rintro e w' ⟨v, rfl, ho, hb2⟩
      rw [hn]
      exact ⟨v, R, rfl, ho, hb2⟩
    · rw [hS]
      exact l10Series_0 p d A c t R W0 ok hf hp4' (hr.below hb) hR hn
set_option maxHeartbeats 4000000 in
set_option maxRecDepth 100000 in
theorem hgtM_bad (m : Int) (A : Option Addr) (c : Nat) (t : List (List Int)) (w : World) (hz : szT t ≤ 1048576) (hr : RP w A t) (hc : codeH m t ≠ 0) :
    Calls Tryz.prog 10 #[.agg #[.int .i64 m, .slice A t.length c]] w fun e w' => e = .returned (.tuple #[.int .i64 (hgtM m t).1, .int .i64 (hgtM m t).2]) ∧ Below w.heap.size w w' := by
  obtain ⟨W, hW, b1, hwb⟩ := start1 28 w m A t.length c
  have HB := Lib.hid hwb
  have HW := Lib.hid hW
  have HC := Lib.hid (l10Code_any m A c t W hz (hr.below hwb))
  have HA : Hid (hgtM m t = (0, codeH m t)) := Lib.hid (by unfold hgtM; rw [stM_bad hc])
  rw [HA.out]
  obtain ⟨n1, n2⟩ := ne_facts hc
  obtain ⟨C, hC⟩ : ∃ C, codeH m t = C := ⟨_, rfl⟩
  rw [hC] at HC n1 n2 ⊢
  obtain ⟨x1, x2, x3⟩ := b1
  clear hwb hW hr hz hc HA hC
  go_enter Tryz.func10, Tryz.ntmps10
  go_wp2_with fail
  rw [HW.out]
  go_wp2_with fail
  refine HC.out.mono ?_
  rintro e w1 ⟨rfl, hb1⟩
  go_wp2
  exact bodyPost_ret (v := .tuple #[.int .i64 0, .int .i64 C]) (by simp [results, Tryz.results10, go_sem]) rfl ⟨rfl, below_step HB.out hb1⟩
set_option maxHeartbeats 4000000 in
set_option maxRecDepth 100000 in
theorem uohM_bad (m : Int) (A : Option Addr) (c : Nat) (t : List (List Int)) (w : World) (hz : szT t ≤ 1048576) (hr : RP w A t) (hc : codeH m t ≠ 0) :
    Calls Tryz.prog 14 #[.agg #[.int .i64 m, .slice A t.length c]] w fun e w' => e = .returned (.tuple #[.int .i64 (uohM m t).1, .int .i64 (uohM m t).2]) ∧ Below w.heap.size w w' := by
  obtain ⟨W, hW, b1, hwb⟩ := start1 28 w m A t.length c
  have HB := Lib.hid hwb
  have HW := Lib.hid hW
  have HC := Lib.hid (l10Code_any m A c t W hz (hr.below hwb))
  have HA : Hid (uohM m t = (0, codeH m t)) := Lib.hid (by unfold uohM; rw [stM_bad hc])
  rw [HA.out]
  obtain ⟨n1, n2⟩ := ne_facts hc
  obtain ⟨C, hC⟩ : ∃ C, codeH m t = C := ⟨_, rfl⟩
  rw [hC] at HC n1 n2 ⊢
  obtain ⟨x1, x2, x3⟩ := b1
  clear hwb hW hr hz hc HA hC
  go_enter Tryz.func14, Tryz.ntmps14
  go_wp2_with fail
  rw [HW.out]
  go_wp2_with fail
  refine HC.out.mono ?_
  rintro e w1 ⟨rfl, hb1⟩
  go_wp2
  exact bodyPost_ret (v := .tuple #[.int .i64 0, .int .i64 C]) (by simp [results, Tryz.results14, go_sem]) rfl ⟨rfl, below_step HB.out hb1⟩
set_option maxHeartbeats 4000000 in
set_option maxRecDepth 100000 in
theorem sHeightOf_any (m : Int) (A : Option Addr) (c : Nat) (t : List (List Int)) (w : World) (hz : szT t ≤ 1048576) (hr : RP w A t) :
    Calls Tryz.prog 10 #[.agg #[.int .i64 m, .slice A t.length c]] w fun e w' => e = .returned (.tuple #[.int .i64 (hgtM m t).1, .int .i64 (hgtM m t).2]) ∧ Below w.heap.size w w' := by
  by_cases hc : codeH m t = 0
  · obtain ⟨W, hW, b1, hwb⟩ := start1 28 w m A t.length c
    have B1 := Lib.hid b1
    have HB := Lib.hid hwb
    have HW := Lib.hid hW
    have HC := Lib.hid (l10Code_any m A c t W hz (hr.below hwb))
    rw [hc] at HC
    obtain ⟨h, hh, -, hS⟩ := model_h m A c t W hc (hr.below hwb)
    have HH := Lib.hid hh
    obtain ⟨x1, x2, x3⟩ := b1
    rcases hS with ⟨rfl, hS⟩ | ⟨h1, U, S, hS, -, -, -⟩
    · have HA : Hid (hgtM m t = (0, 4)) := Lib.hid (by unfold hgtM; rw [hS])
      rw [HA.out]
      clear hwb hW hr hz hS hc hh HA
      go_enter Tryz.func10, Tryz.ntmps10
      go_wp2_with fail
      rw [HW.out]
      go_wp2_with fail
      refine HC.out.mono ?_
      rintro e w1 ⟨rfl, hb1⟩
      obtain ⟨y1, y2, y3⟩ := B1.out.keep hb1
      go_wp2_with fail
      refine (HH.out _ hb1).mono ?_
      rintro e w2 ⟨v, R, rfl, ho, hb2⟩
      have HB2 := Lib.hid (below_step HB.out (below_step hb1 hb2))
      clear ho hb1 hb2
      go_wp2
      exact bodyPost_ret (v := .tuple #[.int .i64 0, .int .i64 4]) (by simp [results, Tryz.results10, go_sem]) rfl ⟨rfl, HB2.out⟩
    · have HA : Hid (hgtM m t = ((h : Int), 0)) := Lib.hid (by unfold hgtM; rw [hS])
      rw [HA.out]
      have hn : ¬ (h : Int) = 0 := by omega
      have hn2 : ((h : Int) == 0) = false := by simpa using hn
      clear hwb hW hr hz hS hc hh HA
      go_enter Tryz.func10, Tryz.ntmps10
      go_wp2_with fail
      rw [HW.out]
      go_wp2_with fail
      refine HC.out.mono ?_
      rintro e w1 ⟨rfl, hb1⟩
      obtain ⟨y1, y2, y3⟩ := B1.out.keep hb1
      go_wp2_with fail
      refine (HH.out _ hb1).mono ?_
      rintro e w2 ⟨v, R, rfl, ho, hb2⟩
      have HB2 := Lib.hid (below_step HB.out (below_step hb1 hb2))
      have hn3 : ¬ h = 0 := by omega
      clear ho hb1 hb2
      go_wp2
      exact bodyPost_ret (v := .tuple #[.int .i64 h, .int .i64 0]) (by simp [results, Tryz.results10, go_sem]) rfl ⟨rfl, HB2.out⟩
  · exact hgtM_bad m A c t w hz hr hc
set_option maxHeartbeats 4000000 in
set_option maxRecDepth 100000 in
theorem sUnitOfHeight_any (m : Int) (A : Option Addr) (c : Nat) (t : List (List Int)) (w : World) (hz : szT t ≤ 1048576) (hr : RP w A t) :
    Calls Tryz.prog 14 #[.agg #[.int .i64 m, .slice A t.length c]] w fun e w' => e = .returned (.tuple #[.int .i64 (uohM m t).1, .int .i64 (uohM m t).2]) ∧ Below w.heap.size w w' := by
  by_cases hc : codeH m t = 0
  · obtain ⟨W, hW, b1, hwb⟩ := start1 28 w m A t.length c
    have B1 := Lib.hid b1
    have HB := Lib.hid hwb
    have HW := Lib.hid hW
    have HC := Lib.hid (l10Code_any m A c t W hz (hr.below hwb))
    rw [hc] at HC
    obtain ⟨h, -, hh, hS⟩ := model_h m A c t W hc (hr.below hwb)
    obtain ⟨x1, x2, x3⟩ := b1
    rcases hS with ⟨rfl, hS⟩ | ⟨h1, U, S, hS, s1, -, s2⟩
    · have HA : Hid (uohM m t = (0, 4)) := Lib.hid (by unfold uohM; rw [hS])
      rw [HA.out]
      rw [hS] at hh
      have HH := Lib.hid hh
      clear hwb hW hr hz hS hc hh HA
      go_enter Tryz.func14, Tryz.ntmps14
      go_wp2_with fail
      rw [HW.out]
      go_wp2_with fail
      refine HC.out.mono ?_
      rintro e w1 ⟨rfl, hb1⟩
      obtain ⟨y1, y2, y3⟩ := B1.out.keep hb1
      go_wp2_with fail
      refine (HH.out _ hb1).mono ?_
      rintro e w2 ⟨v, rfl, ho, hb2⟩
      obtain ⟨A2, c2, rfl, -⟩ := ho.form
      have HB2 := Lib.hid (below_step HB.out (below_step hb1 hb2))
      clear ho hb1 hb2
      go_wp2
      exact bodyPost_ret (v := .tuple #[.int .i64 0, .int .i64 4]) (by simp [results, Tryz.results14, go_sem]) rfl ⟨rfl, HB2.out⟩
    · have HA : Hid (uohM m t = (U, 0)) := Lib.hid (by unfold uohM; rw [hS])
      rw [HA.out]
      rw [hS] at hh
      have HH := Lib.hid hh
      have hn : ¬ (S.length : Int) = 0 := by omega
      have hn2 : ((S.length : Int) == 0) = false := by simpa using hn
      have hn4 : (0 : Int) < (S.length : Int) := by omega
      have S1 := Lib.hid (show 0 < S.length by omega)
      clear hwb hW hr hz hS hc hh HA s1
      go_enter Tryz.func14, Tryz.ntmps14
      go_wp2_with fail
      rw [HW.out]
      go_wp2_with fail
      refine HC.out.mono ?_
      rintro e w1 ⟨rfl, hb1⟩
      obtain ⟨y1, y2, y3⟩ := B1.out.keep hb1
      go_wp2_with fail
      refine (HH.out _ hb1).mono ?_
      rintro e w2 ⟨v, rfl, ho, hb2⟩
      obtain ⟨A2, c2, rfl, -⟩ := ho.form
      obtain ⟨b, off, rfl, hb, hcc⟩ := ho.ri.at 0 S1.out
      rw [Nat.add_zero, s2] at hcc
      have HB2 := Lib.hid (below_step HB.out (below_step hb1 hb2))
      have hn3 : ¬ S.length = 0 := by omega
      clear ho hb1 hb2
      go_wp2
      exact bodyPost_ret (v := .tuple #[.int .i64 U, .int .i64 0]) (by simp [results, Tryz.results14, go_sem]) rfl ⟨rfl, HB2.out⟩
  · exact uohM_bad m A c t w hz hr hc
set_option maxHeartbeats 4000000 in
set_option maxRecDepth 100000 in
theorem sSeriesOfHeight_any (m : Int) (A : Option Addr) (c : Nat) (t : List (List Int)) (w : World) (hz : szT t ≤ 1048576) (hr : RP w A t) :
    Calls Tryz.prog 16 #[.agg #[.int .i64 m, .slice A t.length c]] w fun e w' => ∃ s, e = .returned (.tuple #[s, .int .i64 (sohM m t).2]) ∧ OwnI w' w.heap.size s (sohM m t).1 ∧ Below w.heap.size w w' := by
  obtain ⟨W, hW, b1, hwb⟩ := start1 28 w m A t.length c
  have B1 := Lib.hid b1
  have HB := Lib.hid hwb
  have HW := Lib.hid hW
  have HC := Lib.hid (l10Code_any m A c t W hz (hr.below hwb))
  obtain ⟨x1, x2, x3⟩ := b1
  by_cases hc : codeH m t = 0
  · rw [hc] at HC
    obtain ⟨h, -, hh, hS⟩ := model_h m A c t W hc (hr.below hwb)
    rcases hS with ⟨rfl, hS⟩ | ⟨h1, U, S, hS, s1, -, s2⟩
    · have HA : Hid (sohM m t = ([], 4)) := Lib.hid (by unfold sohM; rw [hS])
      rw [HA.out]
      rw [hS] at hh
      have HH := Lib.hid hh
      clear hwb hW hr hz hS hc hh HA
      go_enter Tryz.func16, Tryz.ntmps16
      go_wp2_with fail
      rw [HW.out]
      go_wp2_with fail
      refine HC.out.mono ?_
      rintro e w1 ⟨rfl, hb1⟩
      obtain ⟨y1, y2, y3⟩ := B1.out.keep hb1
      go_wp2_with fail
      refine (HH.out _ hb1).mono ?_
      rintro e w2 ⟨v, rfl, ho, hb2⟩
      obtain ⟨A2, c2, rfl, -⟩ := ho.form
      have HB2 := Lib.hid (below_step HB.out (below_step hb1 hb2))
      clear ho hb1 hb2
      go_wp2
      exact bodyPost_ret (v := .tuple #[.slice none 0 0, .int .i64 4]) (by simp [results, Tryz.results16, go_sem]) rfl ⟨_, rfl, OwnI.nil _ _, HB2.out⟩
    · have HA : Hid (sohM m t = (S, 0)) := Lib.hid (by unfold sohM; rw [hS])
      rw [HA.out]
      rw [hS] at hh
      have HH := Lib.hid hh
      have hn : ¬ (S.length : Int) = 0 := by omega
      have hn2 : ((S.length : Int) == 0) = false := by simpa using hn
      clear hwb hW hr hz hS hc hh HA s2
      go_enter Tryz.func16, Tryz.ntmps16
      go_wp2_with fail
      rw [HW.out]
      go_wp2_with fail
      refine HC.out.mono ?_
      rintro e w1 ⟨rfl, hb1⟩
      obtain ⟨y1, y2, y3⟩ := B1.out.keep hb1
      go_wp2_with fail
      refine (HH.out _ hb1).mono ?_
      rintro e w2 ⟨v, rfl, ho, hb2⟩
      obtain ⟨A2, c2, rfl, -⟩ := ho.form
      have HB2 := Lib.hid (below_step HB.out (below_step hb1 hb2))
      have HO := Lib.hid (ho.more (b' := w.heap.size) (below_step HB.out hb1).size)
      have hn3 : ¬ S.length = 0 := by omega
      clear ho hb1 hb2 s1
      go_wp2
      exact bodyPost_ret (v := .tuple #[.slice A2 S.length c2, .int .i64 0]) (by simp [results, Tryz.results16, go_sem]) rfl ⟨_, rfl, HO.out, HB2.out⟩
  · have HA : Hid (sohM m t = ([], codeH m t)) := Lib.hid (by unfold sohM; rw [stM_bad hc])
    rw [HA.out]
    obtain ⟨n1, n2⟩ := ne_facts hc
    obtain ⟨C, hC⟩ : ∃ C, codeH m t = C := ⟨_, rfl⟩
    rw [hC] at HC n1 n2 ⊢
    clear hwb hW hr hz hc HA hC
    go_enter Tryz.func16, Tryz.ntmps16
    go_wp2_with fail
    rw [HW.out]
    go_wp2_with fail
    refine HC.out.mono ?_
    rintro e w1 ⟨rfl, hb1⟩
    go_wp2
    exact bodyPost_ret (v := .tuple #[.slice none 0 0, .int .i64 C]) (by simp [results, Tryz.results16, go_sem]) rfl ⟨_, rfl, OwnI.nil _ _, below_step HB.out hb1⟩
end Go.Proofs.YtfhdgcndiljjcaaGreatDoor

/- The series of a height is short. -/
namespace Go.Proofs.YtfhdgcndiljjcaaGreatDoor
open Go.RowKit
theorem sohM_len (m : Int) (t : List (List Int)) : (sohM m t).1.length ≤ 1048576 := by
  unfold sohM stM
  by_cases hc : codeH m t = 0
  · rw [if_pos hc]
    obtain ⟨hl, -⟩ := codeH_ok hc
    obtain ⟨-, d, e1, ok, -⟩ := isL_of hl
    have hd2 := ok.d2
    split
    · exact Nat.zero_le _
    · show (serH _ _ _).length ≤ _
      rw [serH_len]
      have := Nat.div_le_self (t.length - 1) (m.toNat ^ hgN (mulC m (t.length - 1) t m (Pl.lin m (t.length - 1) 1)) m.toNat)
      omega
  · rw [if_neg hc]; exact Nat.zero_le _
end Go.Proofs.YtfhdgcndiljjcaaGreatDoor

/- Helpers of the exact laws whose result is a list of integers. -/
namespace Go.Proofs.YtfhdgcndiljjcaaGreatDoor
open Go.RowKit Go.WideShapes Go.ChangeShapes Go.ChangeAt

theorem heldInt64S_b (A : Option Addr) (c n : Nat) (k : Int) (w : World) (hl : n ≤ 10485760) (hk : 0 ≤ k) (hk2 : k ≤ 1000000000000) (hr : RI w A (marks k n)) :
    Calls Tryz.prog 21 #[.slice A n c, .int .i64 k] w fun e w' => e = .returned (.int .i64 (k + n)) ∧ Below w.heap.size w w' :=
  (heldInt64S_any A c n k w hl hk hk2 hr).mono fun e w' ⟨h1, h2⟩ => ⟨h1, by subst h2; exact Below.refl _ _⟩
end Go.Proofs.YtfhdgcndiljjcaaGreatDoor

