/- Texts of contracts, joined. -/
import Derived.Test.YtfhdgcndiljjcaaGreatDoorMgaa
import Derived.Test.YtfhdgcndiljjcaaGreatDoorMgak
import Derived.Test.YtfhdgcndiljjcaaGreatDoorMgad
import Derived.RegionTactic
import Derived.Deep.QuietTactic
import Derived.BigQuiet
import Derived.Test.YtfhdgcndiljjcaaGreatDoorMgab
import Derived.Test.YtfhdgcndiljjcaaGreatDoorMgah
/- Dividing by a number as often as possible: the plain function, and contracts of takeOut and of the model's valuation. -/
namespace Go.Proofs.YtfhdgcndiljjcaaGreatDoor
open Go.RowKit Go.WideShapes Go.ChangeShapes Go.ChangeAt

/-- dividing n by p as often as possible: how often, and what is left -/
def tk (p n : Int) : Int × Int :=
  if _h : 2 ≤ p ∧ n ≠ 0 ∧ n.tmod p = 0 then ((tk p (n.tdiv p)).1 + 1, (tk p (n.tdiv p)).2) else (0, n)
termination_by n.natAbs
decreasing_by all_goals rw [Int.natAbs_tdiv]; exact Nat.div_lt_self (by omega) (by omega)
theorem tk_yes {p n : Int} (hp : 2 ≤ p) (hn : n ≠ 0) (h : n.tmod p = 0) : tk p n = ((tk p (n.tdiv p)).1 + 1, (tk p (n.tdiv p)).2) := by
  rw [tk, dif_pos ⟨hp, hn, h⟩]
theorem tk_no {p n : Int} (h : ¬ n.tmod p = 0) : tk p n = (0, n) := by rw [tk, dif_neg (fun c => h c.2.2)]
theorem tk_step {p n : Int} (hp : 2 ≤ p) (hn : n ≠ 0) (h : n.tmod p = 0) : n.tdiv p ≠ 0 ∧ (n.tdiv p).natAbs < n.natAbs := by
  refine ⟨fun h0 => ?_, by rw [Int.natAbs_tdiv]; exact Nat.div_lt_self (by omega) (by omega)⟩
  have := Int.tmod_add_mul_tdiv n p
  rw [h, h0] at this
  simp at this
  exact hn this.symm

set_option maxHeartbeats 1000000 in
theorem takeOut_any (p n : Int) (w : World) (hp : 2 ≤ p) (hp2 : p ≤ 1000000000000) (hn : n ≠ 0) (h1 : -1000000000000 ≤ n) (h2 : n ≤ 1000000000000) :
    Calls Tryz.prog 54 #[.int .i64 p, .int .i64 n] w fun e w' => e = .returned (.tuple #[.int .i64 (tk p n).1, .int .i64 (tk p n).2]) ∧ w = w' := by
  have hp0 : ¬ p = 0 := by omega
  go_enter Tryz.func54, Tryz.ntmps54
  go_wp2
  go_loop [6, 1] (fun k x => ∃ (K : Nat) (X : Int), k = .int .i64 K ∧ x = .int .i64 X ∧ X ≠ 0 ∧ K + X.natAbs ≤ 1000000000000 ∧ K + (tk p X).1 = (tk p n).1 ∧ (tk p X).2 = (tk p n).2) (fun _ x => (intOf x).natAbs)
  case atStart => exact ⟨0, n, rfl, rfl, hn, by omega, by omega, rfl⟩
  case round =>
    obtain ⟨K, X, rfl, rfl, hX, hb, e1, e2⟩ := hrel
    have H1 := Lib.hid e1
    have H2 := Lib.hid e2
    clear e1 e2
    by_cases hz : X.tmod p = 0
    · obtain ⟨s1, s2⟩ := tk_step hp hX hz
      have HY := Lib.hid (tk_yes hp hX hz)
      have S1 := Lib.hid s1
      obtain ⟨c1, c2⟩ : -1000000000000 ≤ X.tdiv p ∧ X.tdiv p ≤ 1000000000000 := by omega
      have S2 := Lib.hid s2
      clear s1 s2
      go_wp2
      go_round
      case rel =>
        have h1 := H1.out
        have h2 := H2.out
        rw [HY.out] at h1 h2
        exact ⟨K + 1, X.tdiv p, by go_num, rfl, S1.out, by have := S2.out; omega, by push_cast; omega, h2⟩
      case measure => simp only [intOf]; exact S2.out
    · have HY := Lib.hid (tk_no hz)
      obtain ⟨n1, n2⟩ := ne_facts hz
      go_wp2
      go_ret2
      have h1 := H1.out
      have h2 := H2.out
      rw [HY.out] at h1 h2
      exact ⟨ret_ii (by omega) h2, rfl⟩


end Go.Proofs.YtfhdgcndiljjcaaGreatDoor

/- Contracts of stature, of the program. -/
namespace Go.Proofs.YtfhdgcndiljjcaaGreatDoor
open Go Go.RowKit Go.WideShapes Go.ChangeShapes Go.ChangeAt

/-- the first so many numbers at multiples of n -/
def serH (R : List Int) (n : Nat) : Nat → List Int
  | 0 => []
  | k + 1 => serH R n k ++ [Ser.co R ((k + 1) * n)]
theorem serH_len (R : List Int) (n : Nat) : ∀ k, (serH R n k).length = k
  | 0 => rfl
  | k + 1 => by rw [serH, List.length_append, serH_len R n k]; rfl
theorem serH_head (R : List Int) (n : Nat) : ∀ k, Ser.co (serH R n (k + 1)) 0 = Ser.co R n
  | 0 => by show Ser.co R ((0 + 1) * n) = _; rw [Nat.zero_add, Nat.one_mul]
  | k + 1 => by
    have h := serH_head R n k
    have hl := serH_len R n (k + 1)
    rw [serH]
    unfold Ser.co at h ⊢
    rw [List.getElem?_append_left (by omega)]
    exact h
theorem fin_stat {T : TypeId} {w w2 : World} {g base : Nat} {v x y z : Value} {l : List Int} (hv : VarC T w2 g #[x, y, z]) (ho : OwnI w2 base v l) (hg : g < base) (hwg : w.heap.size ≤ g) (hb : Below w.heap.size w w2) (p q r : Value) :
    (set3 w2 g p q r).cell? ⟨g, 0, none⟩ = some p ∧ (set3 w2 g p q r).cell? ⟨g, 1, none⟩ = some q ∧ (set3 w2 g p q r).cell? ⟨g, 2, none⟩ = some r ∧ OwnI (set3 w2 g p q r) base v l ∧ Below w.heap.size w (set3 w2 g p q r) := by
  have h := hv.set3 p q r
  refine ⟨h.cell 0 _ rfl, h.cell 1 _ rfl, h.cell 2 _ rfl, ho.other (grown_set3 w2 g p q r) ?_, below_set3 hb hwg p q r⟩
  rcases hc : v.ownBlock with _ | b
  · exact .inl rfl
  · refine .inr (fun e => ?_)
    injection e with e
    have := (ho.lt b hc).1
    omega
theorem pro_lawT (w : World) (m : Int) (d : Nat) (A : Option Addr) (n c : Nat) : ∃ W, (w.alloc (.cells #[.int .i64 m, .int .i64 d, .slice A n c] 65)).alloc (.cells #[.int .i64 0, .int .i64 0, .slice none 0 0] 49) = W ∧
    GBox W w.heap.size m d A n c ∧ VarC 49 W (w.heap.size + 1) #[.int .i64 0, .int .i64 0, .slice none 0 0] ∧ Below w.heap.size w W := by
  refine ⟨_, rfl, (GBox.new _ _ _ _ _ _ _).keep (below_one _ _), ?_, below_alloc _ (below_one _ _)⟩
  have := VarC.new 49 (w.alloc (.cells #[.int .i64 m, .int .i64 d, .slice A n c] 65)) #[.int .i64 0, .int .i64 0, .slice none 0 0]
  simpa using this
set_option maxHeartbeats 8000000 in
set_option maxRecDepth 100000 in
/-- nothing can be read: the error is handed on -/
theorem stature_err (m : Int) (d : Nat) (A : Option Addr) (n c : Nat) (T : TypeId) (x : Value) (w : World)
    (h : ∀ W0, Below w.heap.size w W0 → Calls Tryz.prog 48 #[.agg #[.int .i64 m, .int .i64 d, .slice A n c], .int .i64 m] W0 fun e w' => e = .returned (.tuple #[.agg #[.int .i64 0, .slice none 0 0], .int .i64 0, .iface T x]) ∧ Below W0.heap.size W0 w') :
    Calls Tryz.prog 40 #[.agg #[.int .i64 m, .int .i64 d, .slice A n c]] w fun e w' => e = .returned (.tuple #[.agg #[.int .i64 0, .int .i64 0, .slice none 0 0], .iface T x]) ∧ Below w.heap.size w w' := by
  obtain ⟨W, hW, b1, v2, hwb⟩ := pro_lawT w m d A n c
  have V2 := Lib.hid v2
  have HB := Lib.hid hwb
  have HW := Lib.hid hW
  have HM := Lib.hid (h W hwb)
  obtain ⟨x1, x2, x3, -⟩ := b1
  clear v2 hwb hW h
  go_enter Tryz.func40, Tryz.ntmps40
  go_wp2_with fail
  rw [HW.out]
  go_wp2_with fail
  refine HM.out.mono ?_
  rintro e w1 ⟨rfl, hb1⟩
  obtain ⟨X, hX⟩ : ∃ X, w1.alloc (.cells #[.int .i64 0, .slice none 0 0] 71) = X := ⟨_, rfl⟩
  have hbX : Below W.heap.size W X := by rw [← hX]; exact below_alloc _ hb1
  have HX := Lib.hid hX
  have hv := V2.out.keep hbX
  obtain ⟨q0, q1, q2, q3, q4, q5⟩ := hv.tells3
  obtain ⟨f0, f1, f2, f3, f4⟩ := fin_stat (w := w) hv (OwnI.nil _ (w.heap.size + 1 + 1)) (by omega) (by omega) (below_step HB.out hbX) (.int .i64 0) (.int .i64 0) (.slice none 0 0)
  unfold set3 at f0 f1 f2 f4
  have F3 := Lib.hid f4
  clear f3 f4 hv hX hbX hb1 x1 x2 x3
  go_upto_region 2 with fail
  rw [HX.out]
  go_wp2
  exact bodyPost_ret (v := .tuple #[.agg #[.int .i64 0, .int .i64 0, .slice none 0 0], .iface T x]) (by simp [results, Tryz.results40, go_sem, f0, f1, f2]) rfl ⟨rfl, F3.out⟩
theorem next_mult {j n k : Nat} (h : j = (k + 1) * n) : j + n = (k + 1 + 1) * n := by rw [h]; grind
set_option maxHeartbeats 16000000 in
set_option maxRecDepth 100000 in
theorem stature_ok (m : Int) (d : Nat) (A : Option Addr) (c : Nat) (t : List (List Int)) (n : Nat) (w : World) (hs : Pl.Ok m d t) (hf : Pl.fau m d (Pl.pc t) = none) (hp : isP4 m = true) (hr : RP w A t) (R : List Int) (hR : mulC m d t m (Pl.lin m d 1) = R)
    (hC : ordM m R = ((n : Int), 0)) (n1 : 1 ≤ n) (n2 : n ≤ d) :
    Calls Tryz.prog 40 #[.agg #[.int .i64 m, .int .i64 d, .slice A t.length c]] w fun e w' => ∃ v, e = .returned (.tuple #[.agg #[.int .i64 (tk m n).1, .int .i64 (Ser.co R n), v], .nilIface]) ∧ OwnI w' w.heap.size v (serH R n (d / n)) ∧ Below w.heap.size w w' := by
  obtain ⟨W, hW, b1, v2, hwb⟩ := pro_lawT w m d A t.length c
  have V2 := Lib.hid v2
  have HB := Lib.hid hwb
  have HW := Lib.hid hW
  have hp4 := (isP4_iff m).1 hp
  have HM := Lib.hid (andOrder_ok m d A c t m n W hs hf hp (by omega) (by omega) (hr.below hwb) (by rw [hR]; exact hC))
  have hRl := (mulC_cv hs (Pl.norm_law hf hs) m (lin_cv hs 1)).1.len
  have hd2 := hs.d2
  rw [hR] at HM hRl
  have HTK := Lib.hid (fun W0 => takeOut_any m n W0 (by omega) (by omega) (by omega) (by omega) (by omega))
  obtain ⟨H, hH⟩ : ∃ H, tk m n = H := ⟨_, rfl⟩
  rw [hH] at HTK ⊢
  obtain ⟨L, hL⟩ : ∃ L, t.length = L := ⟨_, rfl⟩
  rw [hL] at HM HW b1 ⊢
  have B1 := Lib.hid b1
  have HRL := Lib.hid hRl
  obtain ⟨x1, x2, x3, -⟩ := b1
  clear v2 hwb hW hr hs hf hp hR hL hC hH hp4
  go_enter Tryz.func40, Tryz.ntmps40
  go_wp2_with fail
  rw [HW.out]
  go_wp2_with fail
  refine HM.out.mono ?_
  rintro e w1 ⟨u, rfl, ho, hb1⟩
  obtain ⟨A1, c1, rfl, -⟩ := ho.form
  rw [hRl] at ho ⊢
  obtain ⟨X, hX⟩ : ∃ X, w1.alloc (.cells #[.int .i64 m, .slice A1 (d + 1) c1] 71) = X := ⟨_, rfl⟩
  have hbX : Below W.heap.size W X := by rw [← hX]; exact below_alloc _ hb1
  have v7 : VarC 71 X w1.heap.size #[.int .i64 m, .slice A1 (d + 1) c1] := by rw [← hX]; exact VarC.new _ _ _
  have hoX : RI X A1 R := by rw [← hX]; exact ho.ri.below (below_one _ _)
  have HX := Lib.hid hX
  have HBX := Lib.hid hbX
  have HRX := Lib.hid hoX
  obtain ⟨g7, hg7⟩ : ∃ g, w1.heap.size = g := ⟨_, rfl⟩
  rw [hg7] at v7
  have HG := Lib.hid hg7
  have V7 := Lib.hid v7
  obtain ⟨y1, y2, -, -⟩ := v7.tells2
  have b2 := B1.out.keep hbX
  have B2 := Lib.hid b2
  obtain ⟨z1, z2, z3, -⟩ := b2
  clear hX hbX hb1 ho v7 hoX hg7 x1 x2 x3 hRl
  go_upto_region 2 with fail
  rw [HX.out, HG.out]
  go_wp2_with fail
  refine (HTK.out _).mono ?_
  rintro e w' ⟨rfl, rfl⟩
  clear z1 z2 z3 y1 y2
  have N1 := Lib.hid n1
  have N2 := Lib.hid n2
  go_wp2_with fail
  go_loopw [9, 10] (fun v i wr => ∃ k j : Nat, j = (k + 1) * n ∧ i = .int .i64 j ∧ k * n ≤ d ∧ OwnI wr X.heap.size v (serH R n k) ∧ Below X.heap.size X wr) (fun _ i _ => 2 * d + 1 - (intOf i).toNat)
  case atStart => exact ⟨0, n, by omega, rfl, by omega, OwnI.nil _ _, Below.refl _ _⟩
  case round =>
    obtain ⟨k, j, hkj, rfl, hkd, hown, hbel⟩ := hrel
    have HO := Lib.hid hown
    have HBW := Lib.hid hbel
    have hsz := hbel.size
    obtain ⟨z1, z2, z3, -⟩ := B2.out.keep hbel
    obtain ⟨y1, y2, -, -⟩ := V7.out.keep hbel |>.tells2
    have HKJ := Lib.hid hkj
    have HKD := Lib.hid hkd
    clear hown hbel hkj hkd
    by_cases hlt : j ≤ d
    · obtain ⟨b, off, rfl, hb, hc⟩ := HRX.out.at j (by have := HRL.out; omega)
      have cc := (HBW.out.cell (p := ⟨b, off + j, none⟩) hb).trans hc
      have j0 : (0 : Int) ≤ (j : Int) := by omega
      have j1 : (j : Int) < (d : Int) + 1 := by omega
      have j2 : (j : Int) ≤ (d : Int) := by omega
      obtain ⟨Y, hY⟩ : ∃ Y, Ser.co R j = Y := ⟨_, rfl⟩
      rw [hY] at cc
      have HST := Lib.hid (show serH R n (k + 1) = serH R n k ++ [Y] by rw [serH, ← HKJ.out, hY])
      have hwr : IntKind.i64.wrap ((j : Int) + (n : Int)) = ((j + n : Nat) : Int) := by rw [IntKind.wrap_i64]; have := N2.out; omega
      have HLN := Lib.hid (serH_len R n k)
      have hk9 : k ≤ d := by
        have h1 := HKJ.out
        have h2 := N1.out
        have : k * 1 ≤ k * n := Nat.mul_le_mul_left k h2
        have := HKD.out
        omega
      clear hY hc
      go_wp2_with (at_builtin; refine wp_push _ _ _ (by rfl) (by rfl) Tryz.underlying32 X.heap.size _ _ (by rfl) HO.out Y (by rfl) (by have := HLN.out; omega) hsz ?_; intro v' w4 ho1 hpb)
      have HP := Lib.hid (HBW.out.trans hpb)
      have HQ := Lib.hid ho1
      clear hpb ho1 hk9
      go_wp2
      go_roundw
      case rel => exact ⟨k + 1, j + n, next_mult HKJ.out, by first | rfl | rw [Int.natCast_add] | rw [hwr], by rw [← HKJ.out]; exact hlt, by rw [HST.out]; exact HQ.out, HP.out⟩
      case measure => simp only [intOf]; have := N1.out; omega
    · have hq : k = d / n := by
        have h1 := HKJ.out
        have h2 := HKD.out
        have h3 : d < (k + 1) * n := by omega
        have h4 := Nat.div_lt_of_lt_mul (show d < n * (k + 1) by rw [Nat.mul_comm]; exact h3)
        have h5 := (Nat.le_div_iff_mul_le (show 0 < n from N1.out)).2 h2
        omega
      subst hq
      have j2 : ¬ (j : Int) ≤ (d : Int) := by omega
      have hpos : 1 ≤ d / n := Nat.div_pos N2.out N1.out
      obtain ⟨q, hq⟩ : ∃ q, d / n = q + 1 := ⟨d / n - 1, by omega⟩
      have hl := serH_len R n (d / n)
      have hhd : Ser.co (serH R n (d / n)) 0 = Ser.co R n := by rw [hq]; exact serH_head R n q
      obtain ⟨S, hS⟩ : ∃ S, serH R n (d / n) = S := ⟨_, rfl⟩
      rw [hS] at HO hl hhd
      have HS := Lib.hid hS
      obtain ⟨Av, cv9, rfl, -⟩ := HO.out.form
      obtain ⟨b, off, rfl, hb, hc⟩ := HO.out.ri.at 0 (by omega)
      rw [hhd, Nat.add_zero] at hc
      have hv := V2.out.keep (below_step HBX.out HBW.out)
      obtain ⟨q0, q1, q2, q3, q4, q5⟩ := hv.tells3
      have hsW : W.heap.size ≤ X.heap.size := HBX.out.size
      have hv2 := V2.out.lt
      obtain ⟨f0, f1, f2, f3, f4⟩ := fin_stat (w := w) hv HO.out (by omega) (by omega) (below_step HB.out (below_step HBX.out HBW.out)) (.int .i64 H.1) (.int .i64 (Ser.co R n)) (.slice (some ⟨b, off, none⟩) S.length cv9)
      unfold set3 at f0 f1 f2 f3 f4
      have F3 := Lib.hid (OwnI.more (b' := w.heap.size) f3 (by omega))
      have F4 := Lib.hid f4
      have hS1 : (0 : Int) < (S.length : Int) := by omega
      clear f3 f4 hv hhd hS hq hpos hl z1 y1 y2
      go_wp2
      exact bodyPost_ret (v := .tuple #[.agg #[.int .i64 H.1, .int .i64 (Ser.co R n), .slice (some ⟨b, off, none⟩) S.length cv9], .nilIface]) (by simp [results, Tryz.results40, go_sem, f0, f1, f2]) rfl ⟨_, rfl, by rw [HS.out]; exact F3.out, F4.out⟩
end Go.Proofs.YtfhdgcndiljjcaaGreatDoor

/- Plain facts: tables under their product are a commutative ring; Horner's tables of any list; quotients: no program in sight. -/
namespace Go.Proofs.YtfhdgcndiljjcaaGreatDoor
namespace Ser

theorem psum_rev' (f : Nat → Int) (n : Nat) : psum (fun i => f (n - i)) (n + 1) = psum f (n + 1) := by
  have h1 := cv_psum n (fun _ => 1) f
  have h2 := cv_psum n f (fun _ => 1)
  rw [cv_comm, h2] at h1
  rw [psum_ext (f := fun i => f i * 1) (g := f) _ (fun i _ => Int.mul_one _), psum_ext (f := fun i => 1 * f (n - i)) (g := fun i => f (n - i)) _ (fun i _ => Int.one_mul _)] at h1
  exact h1.symm
theorem psum_tri : ∀ (p : Nat) (g : Nat → Nat → Nat → Int), psum (fun k => psum (fun i => g i (k - i) (p - k)) (k + 1)) (p + 1) = psum (fun i => psum (fun j => g i j (p - i - j)) (p - i + 1)) (p + 1) := by
  intro p
  induction p with
  | zero => intro g; rfl
  | succ p ih =>
    intro g
    have e1 : psum (fun k => psum (fun i => g i (k - i) (p + 1 - k)) (k + 1)) (p + 1 + 1) = psum (fun k => g 0 k (p + 1 - k)) (p + 1 + 1) + psum (fun k => psum (fun i => g (i + 1) (k - i) (p - k)) (k + 1)) (p + 1) := by
      rw [psum_ext (g := fun k => g 0 k (p + 1 - k) + psum (fun i => g (i + 1) (k - (i + 1)) (p + 1 - k)) k) _ (fun k _ => by rw [psum_left]; rfl), psum_add]
      congr 1
      rw [psum_left]
      show 0 + _ = _
      rw [Int.zero_add]
      exact psum_ext _ (fun k _ => psum_ext _ (fun i _ => by rw [show k + 1 - (i + 1) = k - i by omega, show p + 1 - (k + 1) = p - k by omega]))
    have e2 : psum (fun i => psum (fun j => g i j (p + 1 - i - j)) (p + 1 - i + 1)) (p + 1 + 1) = psum (fun k => g 0 k (p + 1 - k)) (p + 1 + 1) + psum (fun i => psum (fun j => g (i + 1) j (p - i - j)) (p - i + 1)) (p + 1) := by
      rw [psum_left]
      congr 1
      exact psum_ext _ (fun i _ => by
        rw [show p + 1 - (i + 1) + 1 = p - i + 1 by omega]
        exact psum_ext _ (fun j _ => by rw [show p + 1 - (i + 1) - j = p - i - j by omega]))
    rw [e1, e2, ih (fun i j k => g (i + 1) j k)]
end Ser

namespace Pl
open Ser (psum)

theorem mul2_comm (a b : Nat → Nat → Int) : mul2 a b = mul2 b a := by
  funext p q
  unfold mul2
  rw [← Ser.psum_rev' (fun k => psum (fun l => a k l * b (p - k) (q - l)) (q + 1)) p]
  refine Ser.psum_ext _ (fun k hk => ?_)
  rw [← Ser.psum_rev' (fun l => a (p - k) l * b (p - (p - k)) (q - l)) q]
  refine Ser.psum_ext _ (fun l hl => ?_)
  rw [show p - (p - k) = k by omega, show q - (q - l) = l by omega, Int.mul_comm]
theorem mul2_assoc (a b c : Nat → Nat → Int) : mul2 (mul2 a b) c = mul2 a (mul2 b c) := by
  funext p q
  have e1 : mul2 (mul2 a b) c p q = psum (fun k => psum (fun i => psum (fun l => psum (fun j => a i j * b (k - i) (l - j) * c (p - k) (q - l)) (l + 1)) (q + 1)) (k + 1)) (p + 1) := by
    unfold mul2
    refine Ser.psum_ext _ (fun k _ => ?_)
    rw [Ser.psum_swap]
    refine Ser.psum_ext _ (fun l _ => ?_)
    rw [← Ser.psum_mul']
    refine Ser.psum_ext _ (fun i _ => ?_)
    rw [← Ser.psum_mul']
  have e2 : mul2 a (mul2 b c) p q = psum (fun i => psum (fun k => psum (fun j => psum (fun l => a i j * b k l * c (p - i - k) (q - j - l)) (q - j + 1)) (q + 1)) (p - i + 1)) (p + 1) := by
    unfold mul2
    refine Ser.psum_ext _ (fun i _ => ?_)
    rw [Ser.psum_swap]
    refine Ser.psum_ext _ (fun j _ => ?_)
    rw [← Ser.psum_mul]
    refine Ser.psum_ext _ (fun k _ => ?_)
    rw [← Ser.psum_mul]
    exact Ser.psum_ext _ (fun l _ => (Int.mul_assoc _ _ _).symm)
  rw [e1, e2, Ser.psum_tri p (fun i k k' => psum (fun l => psum (fun j => a i j * b k (l - j) * c k' (q - l)) (l + 1)) (q + 1))]
  refine Ser.psum_ext _ (fun i _ => Ser.psum_ext _ (fun k _ => ?_))
  exact Ser.psum_tri q (fun j l l' => a i j * b k l * c (p - i - k) l')
theorem mul2_lc (a b c : Nat → Nat → Int) : mul2 a (mul2 b c) = mul2 b (mul2 a c) := by rw [← mul2_assoc, mul2_comm a b, mul2_assoc]
/-- sums and multiples -/
def pl (a b : Nat → Nat → Int) : Nat → Nat → Int := fun i j => a i j + b i j
def sm (c : Int) (a : Nat → Nat → Int) : Nat → Nat → Int := fun i j => c * a i j
theorem pl_mul2 (a b c : Nat → Nat → Int) : mul2 (pl a b) c = pl (mul2 a c) (mul2 b c) := by funext p q; exact mul2_add a b c p q
theorem mul2_pl (a b c : Nat → Nat → Int) : mul2 a (pl b c) = pl (mul2 a b) (mul2 a c) := by rw [mul2_comm, pl_mul2, mul2_comm b, mul2_comm c]
theorem sm_mul2 (c : Int) (a b : Nat → Nat → Int) : mul2 (sm c a) b = sm c (mul2 a b) := by funext p q; exact mul2_smul c a b p q
theorem mul2_sm (c : Int) (a b : Nat → Nat → Int) : mul2 a (sm c b) = sm c (mul2 a b) := by rw [mul2_comm, sm_mul2, mul2_comm b]
theorem one2_mul2 (c : Int) (b : Nat → Nat → Int) : mul2 (one2 c) b = sm c b := by
  funext p q
  unfold mul2
  rw [Ser.psum_left, Ser.psum_left]
  have z1 : psum (fun i => one2 c 0 (i + 1) * b (p - 0) (q - (i + 1))) q = 0 := Ser.psum_low _ _ (fun i _ => by unfold one2; rw [if_neg (by omega), Int.zero_mul])
  have z2 : psum (fun i => psum (fun l => one2 c (i + 1) l * b (p - (i + 1)) (q - l)) (q + 1)) p = 0 := Ser.psum_low _ _ (fun i _ => Ser.psum_low _ _ (fun l _ => by unfold one2; rw [if_neg (by omega), Int.zero_mul]))
  rw [z1, z2]
  show one2 c 0 0 * b p q + 0 + 0 = c * b p q
  have : one2 c 0 0 = c := if_pos ⟨rfl, rfl⟩
  rw [this, Int.add_zero, Int.add_zero]
theorem mul2_one2 (c : Int) (b : Nat → Nat → Int) : mul2 b (one2 c) = sm c b := by rw [mul2_comm, one2_mul2]
theorem sm_one2 (c e : Int) : sm c (one2 e) = one2 (c * e) := by
  funext i j
  unfold sm one2
  split
  · rfl
  · exact Int.mul_zero c
theorem sm_sm (c e : Int) (a : Nat → Nat → Int) : sm c (sm e a) = sm (c * e) a := by funext i j; exact (Int.mul_assoc _ _ _).symm
theorem sm_pl (c : Int) (a b : Nat → Nat → Int) : sm c (pl a b) = pl (sm c a) (sm c b) := by funext i j; exact Int.mul_add _ _ _
theorem one_sm (a : Nat → Nat → Int) : sm 1 a = a := by funext i j; exact Int.one_mul _
theorem Eq.pl {m : Int} {d : Nat} {a a' b b' : Nat → Nat → Int} (h : Eq m d a a') (k : Eq m d b b') : Eq m d (pl a b) (pl a' b') := fun i j hij => Ser.add_cong (h i j hij) (k i j hij)
theorem Eq.sm {m : Int} {d : Nat} {a a' : Nat → Nat → Int} (c : Int) (h : Eq m d a a') : Eq m d (sm c a) (sm c a') := fun i j hij => Ser.mul_cong rfl (h i j hij)
theorem Eq.mul2 {m : Int} {d : Nat} {a a' b b' : Nat → Nat → Int} (h : Eq m d a a') (k : Eq m d b b') : Eq m d (mul2 a b) (mul2 a' b') := mul2_congr h k
/-- equal functions -/
theorem Eq.fn {m : Int} {d : Nat} {a b : Nat → Nat → Int} (h : a = b) : Eq m d a b := h ▸ Eq.refl m d a

/-! the value of a polynomial at a table, by Horner's rule: the list's first number is the constant -/
def polT (m : Int) (d : Nat) (F : Nat → Nat → Int) : List Int → List (List Int)
  | [] => tab m d fun _ _ => 0
  | c :: cs => tab m d fun p q => mul2 (pc (polT m d F cs)) F p q + (if p = 0 ∧ q = 0 then c else 0)
theorem polT_length (m : Int) (d : Nat) (F : Nat → Nat → Int) (cs : List Int) : (polT m d F cs).length = d + 1 := by cases cs <;> exact tab_length _ _ _
theorem polT_ok {m : Int} {d : Nat} (m1 : 2 ≤ m) (m2 : m ≤ 10000) (d1 : 1 ≤ d) (d2 : d ≤ 10) (F : Nat → Nat → Int) (cs : List Int) : Ok m d (polT m d F cs) := by cases cs <;> exact Ok.of_tab m1 m2 d1 d2 _
/-- a round -/
theorem polT_step {m : Int} {d : Nat} (F : Nat → Nat → Int) (c : Int) (cs : List Int) :
    (tab m d (mul2 (pc (polT m d F cs)) F)).set 0 ((rw' (tab m d (mul2 (pc (polT m d F cs)) F)) 0).set 0 ((pc (tab m d (mul2 (pc (polT m d F cs)) F)) 0 0 + c) % m)) = polT m d F (c :: cs) := by
  rw [pc_tab (Nat.zero_le _)]
  refine tab_put (Nat.zero_le _) ?_ (fun p q _ hne => ?_)
  · rw [if_pos ⟨rfl, rfl⟩, Int.emod_add_emod]
  · rw [if_neg hne, Int.add_zero]
/-- the same as a function of tables without remainders -/
def polF (F : Nat → Nat → Int) : List Int → Nat → Nat → Int
  | [] => fun _ _ => 0
  | c :: cs => pl (mul2 (polF F cs) F) (one2 c)
theorem polT_eq (m : Int) (d : Nat) (F : Nat → Nat → Int) : ∀ cs, Eq m d (pc (polT m d F cs)) (polF F cs) := by
  intro cs
  induction cs with
  | nil => exact pc_tab_eq m d _
  | cons c cs ih => exact (pc_tab_eq m d _).trans ((Eq.pl (mul2_congr ih (Eq.refl _ _ _)) (Eq.refl m d (one2 c))))
theorem polF_congr {m : Int} {d : Nat} {F G : Nat → Nat → Int} (h : Eq m d F G) : ∀ cs, Eq m d (polF F cs) (polF G cs) := by
  intro cs
  induction cs with
  | nil => exact Eq.refl _ _ _
  | cons c cs ih => exact (mul2_congr ih h).pl (Eq.refl _ _ _)
theorem polF_tab {m : Int} {d : Nat} {G : Nat → Nat → Int} (F : Nat → Nat → Int) (h : Eq m d F G) (cs : List Int) : Eq m d (pc (polT m d F cs)) (polF G cs) := (polT_eq m d F cs).trans (polF_congr h cs)
theorem zero_mul2 (F : Nat → Nat → Int) : mul2 (fun _ _ => 0) F = fun _ _ => 0 := by
  have : (fun _ _ => (0 : Int)) = sm 0 F := by funext i j; exact (Int.zero_mul _).symm
  rw [this, sm_mul2]
  funext i j
  exact (Int.zero_mul _).trans (Int.zero_mul _).symm
theorem zero_pl (a : Nat → Nat → Int) : pl (fun _ _ => 0) a = a := by funext i j; exact Int.zero_add _
theorem pl_zero (a : Nat → Nat → Int) : pl a (fun _ _ => 0) = a := by funext i j; exact Int.add_zero _
theorem polF_one (F : Nat → Nat → Int) (c : Int) : polF F [c] = one2 c := by show pl (mul2 (fun _ _ => 0) F) (one2 c) = _; rw [zero_mul2, zero_pl]
theorem polF_two (F : Nat → Nat → Int) (a b : Int) : polF F [a, b] = pl (sm b F) (one2 a) := by show pl (mul2 (polF F [b]) F) (one2 a) = _; rw [polF_one, one2_mul2]
theorem polF_three (F : Nat → Nat → Int) (a b c : Int) : polF F [a, b, c] = pl (pl (sm c (mul2 F F)) (sm b F)) (one2 a) := by
  show pl (mul2 (polF F [b, c]) F) (one2 a) = _
  rw [polF_two, pl_mul2, sm_mul2, one2_mul2]
theorem polF_four (F : Nat → Nat → Int) (a b c e : Int) : polF F [a, b, c, e] = pl (pl (pl (sm e (mul2 (mul2 F F) F)) (sm c (mul2 F F))) (sm b F)) (one2 a) := by
  show pl (mul2 (polF F [b, c, e]) F) (one2 a) = _
  rw [polF_three, pl_mul2, pl_mul2, sm_mul2, sm_mul2, one2_mul2]

/-! quotients -/
/-- the quotient's rounds: F the numerator's table, R 1 less the denominator -/
def ovT (m : Int) (d : Nat) (t : List (List Int)) (R : Nat → Nat → Int) : Nat → List (List Int)
  | 0 => t
  | k + 1 => tab m d fun i j => pc t i j + pc (tab m d (mul2 (pc (ovT m d t R k)) R)) i j
theorem ovT_ok {m : Int} {d : Nat} {t : List (List Int)} (h : Ok m d t) (R : Nat → Nat → Int) (k : Nat) : Ok m d (ovT m d t R k) := by
  cases k
  · exact h
  · exact h.tab _
theorem ovT_eq {m : Int} {d : Nat} (t : List (List Int)) (R : Nat → Nat → Int) (k : Nat) : Eq m d (pc (ovT m d t R (k + 1))) (pl (pc t) (mul2 (pc (ovT m d t R k)) R)) :=
  (pc_tab_eq m d _).trans (Eq.pl (Eq.refl _ _ _) (pc_tab_eq m d _))
/-- a product with a table without a constant asks one degree less of the other -/
theorem mul2_low {m : Int} {k : Nat} {a a' R : Nat → Nat → Int} (hR : R 0 0 % m = 0) (h : ∀ i j, i + j ≤ k → a i j % m = a' i j % m) (p q : Nat) (hpq : p + q ≤ k + 1) : mul2 a R p q % m = mul2 a' R p q % m := by
  refine Ser.psum_congr _ (fun i hi => Ser.psum_congr _ (fun j hj => ?_))
  by_cases h0 : i + j ≤ k
  · exact Ser.mul_cong (h i j h0) rfl
  · obtain rfl : i = p := by omega
    obtain rfl : j = q := by omega
    rw [Nat.sub_self, Nat.sub_self, Int.mul_emod, hR, Int.mul_emod (a' i j), hR]
    simp
theorem over_fix {m : Int} {d : Nat} {t T : List (List Int)} {R : Nat → Nat → Int} (ht : Ok m d t) (hT : Ok m d T) (hR : R 0 0 % m = 0) (h : Eq m d (pc T) (pl (pc t) (mul2 (pc T) R))) : ovT m d t R d = T := by
  have key : ∀ k, k ≤ d → ∀ i j, i + j ≤ k → pc (ovT m d t R k) i j % m = pc T i j % m := by
    intro k
    induction k with
    | zero =>
      intro _ i j hij
      obtain rfl : i = 0 := by omega
      obtain rfl : j = 0 := by omega
      rw [h 0 0 (by omega)]
      have e : mul2 (pc T) R 0 0 = pc T 0 0 * R 0 0 := by unfold mul2; simp [Ser.psum]
      show pc t 0 0 % m = (pc t 0 0 + mul2 (pc T) R 0 0) % m
      rw [e, Int.add_emod, Int.mul_emod, hR]
      simp
    | succ k ih =>
      intro hk i j hij
      rw [ovT_eq t R k i j (by omega), h i j (by omega)]
      exact Ser.add_cong rfl (mul2_low hR (fun i j h => ih (by omega) i j h) i j (by omega))
  exact Ok.ext (ovT_ok ht R d) hT (fun i j hij => key d (Nat.le_refl _) i j hij)
end Pl
end Go.Proofs.YtfhdgcndiljjcaaGreatDoor

/- Plain facts on standard laws: monomials, the laws of the tangent and of Euler as quotients: no program in sight. -/
namespace Go.Proofs.YtfhdgcndiljjcaaGreatDoor
namespace Pl
open Ser (psum)

/-- x^a y^b -/
def mon2 (a b : Nat) : Nat → Nat → Int := fun i j => if i = a ∧ j = b then 1 else 0
theorem psum_one (g : Nat → Int) (a : Nat) : ∀ n, (∀ i, i < n → i ≠ a → g i = 0) → psum g n = if a < n then g a else 0 := by
  intro n
  induction n with
  | zero => intro _; rfl
  | succ n ih =>
    intro h
    rw [Ser.psum, ih (fun i hi => h i (by omega))]
    by_cases h1 : a < n
    · rw [if_pos h1, if_pos (by omega), h n (by omega) (by omega), Int.add_zero]
    · by_cases h2 : a = n
      · rw [if_neg h1, if_pos (by omega), h2, Int.zero_add]
      · rw [if_neg h1, if_neg (by omega), h n (by omega) (fun e => h2 e.symm), Int.add_zero]
theorem mon2_mul2 (a b : Nat) (F : Nat → Nat → Int) (p q : Nat) : mul2 (mon2 a b) F p q = if a ≤ p ∧ b ≤ q then F (p - a) (q - b) else 0 := by
  unfold mul2
  rw [psum_one _ a _ (fun i _ hi => Ser.psum_low _ _ (fun j _ => by unfold mon2; rw [if_neg (fun e => hi e.1), Int.zero_mul]))]
  by_cases h : a ≤ p
  · rw [if_pos (by omega), psum_one _ b _ (fun j _ hj => by unfold mon2; rw [if_neg (fun e => hj e.2), Int.zero_mul])]
    by_cases k : b ≤ q
    · rw [if_pos (by omega), if_pos ⟨h, k⟩]
      unfold mon2
      rw [if_pos ⟨rfl, rfl⟩, Int.one_mul]
    · rw [if_neg (by omega), if_neg (fun e => k e.2)]
  · rw [if_neg (by omega), if_neg (fun e => h e.1)]
theorem mul2_mon2 (a b : Nat) (F : Nat → Nat → Int) (p q : Nat) : mul2 F (mon2 a b) p q = if a ≤ p ∧ b ≤ q then F (p - a) (q - b) else 0 := by rw [mul2_comm, mon2_mul2]
theorem mon2_mon2 (a b c e : Nat) : mul2 (mon2 a b) (mon2 c e) = mon2 (a + c) (b + e) := by
  funext p q
  rw [mon2_mul2]
  unfold mon2
  by_cases h : p = a + c ∧ q = b + e
  · rw [if_pos (by omega), if_pos (by omega), if_pos h]
  · rw [if_neg h]
    by_cases k : a ≤ p ∧ b ≤ q
    · rw [if_pos k, if_neg (by omega)]
    · rw [if_neg k]
theorem mon2_zero : mon2 0 0 = one2 1 := rfl
theorem pw2_y : ∀ k, pw2 (mon2 0 1) k = mon2 0 k := by
  intro k
  induction k with
  | zero => rfl
  | succ k ih => show mul2 (pw2 (mon2 0 1) k) (mon2 0 1) = _; rw [ih, mon2_mon2]
theorem pw2_x : ∀ k, pw2 (mon2 1 0) k = mon2 k 0 := by
  intro k
  induction k with
  | zero => rfl
  | succ k ih => show mul2 (pw2 (mon2 1 0) k) (mon2 1 0) = _; rw [ih, mon2_mon2]
theorem pw2_congr {m : Int} {d : Nat} {F G : Nat → Nat → Int} (h : Eq m d F G) : ∀ k, Eq m d (pw2 F k) (pw2 G k) := by
  intro k
  induction k with
  | zero => exact Eq.refl _ _ _
  | succ k ih => exact mul2_congr ih h
/-- a series put upon a table: the sum of powers -/
def aft (l : Nat → Int) (F : Nat → Nat → Int) (n : Nat) : Nat → Nat → Int := fun p q => psum (fun i => l i * pw2 F i p q) n
theorem aft_congr {m : Int} {d : Nat} {l l' : Nat → Int} {F G : Nat → Nat → Int} (n : Nat) (hl : ∀ i, i < n → l i % m = l' i % m) (h : Eq m d F G) : Eq m d (aft l F n) (aft l' G n) :=
  fun p q hpq => Ser.psum_congr _ (fun i hi => Ser.mul_cong (hl i hi) (pw2_congr h i p q hpq))
theorem horq_aft {m : Int} {d : Nat} {l : List Int} (hl : l.length = d + 1) (F : Nat → Nat → Int) : Eq m d (pc (horq m d l F (d + 1))) (aft (Ser.co l) F (d + 1)) := by
  have h := horq_pw (m := m) (d := d) l F (d + 1) (by omega)
  refine h.trans (Eq.of m d (fun p q _ => ?_))
  refine Ser.psum_ext _ (fun i _ => ?_)
  rw [hl, Nat.sub_self, Nat.zero_add]
theorem aft_y (l : Nat → Int) (n p q : Nat) (h : q < n) : aft l (mon2 0 1) n p q = if p = 0 then l q else 0 := by
  unfold aft
  rw [psum_one _ q _ (fun i _ hi => by rw [pw2_y]; unfold mon2; rw [if_neg (fun e => hi e.2.symm), Int.mul_zero]), if_pos h, pw2_y]
  unfold mon2
  by_cases hp : p = 0
  · rw [if_pos ⟨hp, rfl⟩, if_pos hp, Int.mul_one]
  · rw [if_neg (fun e => hp e.1), if_neg hp, Int.mul_zero]
theorem aft_x (l : Nat → Int) (n p q : Nat) (h : p < n) : aft l (mon2 1 0) n p q = if q = 0 then l p else 0 := by
  unfold aft
  rw [psum_one _ p _ (fun i _ hi => by rw [pw2_x]; unfold mon2; rw [if_neg (fun e => hi e.1.symm), Int.mul_zero]), if_pos h, pw2_x]
  unfold mon2
  by_cases hq : q = 0
  · rw [if_pos ⟨rfl, hq⟩, if_pos hq, Int.mul_one]
  · rw [if_neg (fun e => hq e.2), if_neg hq, Int.mul_zero]

/-! the multiplicative law -/
def muF (c : Int) : Nat → Nat → Int := fun i j => if (i = 1 ∧ j = 0) ∨ (i = 0 ∧ j = 1) then 1 else if i = 1 ∧ j = 1 then c else 0
theorem mu_eq (c : Int) : pl (pl (mon2 1 0) (mon2 0 1)) (sm c (mul2 (mon2 1 0) (mon2 0 1))) = muF c := by
  funext i j
  rw [mon2_mon2]
  unfold pl sm mon2 muF
  by_cases h1 : i = 1 ∧ j = 0
  · rw [if_pos h1, if_neg (by omega), if_neg (by omega), if_pos (.inl h1)]; omega
  · by_cases h2 : i = 0 ∧ j = 1
    · rw [if_neg h1, if_pos h2, if_neg (by omega), if_pos (.inr h2)]; omega
    · rw [if_neg h1, if_neg h2, if_neg (show ¬ ((i = 1 ∧ j = 0) ∨ (i = 0 ∧ j = 1)) from fun e => e.elim h1 h2)]
      by_cases h3 : i = 1 ∧ j = 1
      · rw [if_pos (by omega), if_pos h3]; omega
      · rw [if_neg (by omega), if_neg h3]; omega
theorem mu_zero : pl (mon2 1 0) (mon2 0 1) = muF 0 := by
  rw [← mu_eq]
  funext i j
  unfold pl sm
  rw [Int.zero_mul, Int.add_zero]

/-! the law of the tangent -/
def taF (e : Int) : Nat → Nat → Int := fun i j => if i = j + 1 then e ^ j else if j = i + 1 then e ^ i else 0
theorem ta_fix (e : Int) : pl (pl (mon2 1 0) (mon2 0 1)) (mul2 (taF e) (sm e (mon2 1 1))) = taF e := by
  funext i j
  rw [mul2_sm]
  show mon2 1 0 i j + mon2 0 1 i j + e * mul2 (taF e) (mon2 1 1) i j = taF e i j
  rw [mul2_mon2]
  unfold mon2 taF
  by_cases h0 : 1 ≤ i ∧ 1 ≤ j
  · rw [if_neg (by omega), if_neg (by omega), if_pos h0]
    by_cases h1 : i = j + 1
    · rw [if_pos (by omega), if_pos h1, Int.zero_add, Int.zero_add]
      obtain ⟨j, rfl⟩ : ∃ j', j = j' + 1 := ⟨j - 1, by omega⟩
      rw [Nat.add_sub_cancel, Int.pow_succ, Int.mul_comm]
    · by_cases h2 : j = i + 1
      · rw [if_neg (by omega), if_pos (by omega), if_neg h1, if_pos h2, Int.zero_add, Int.zero_add]
        obtain ⟨i, rfl⟩ : ∃ i', i = i' + 1 := ⟨i - 1, by omega⟩
        rw [Nat.add_sub_cancel, Int.pow_succ, Int.mul_comm]
      · rw [if_neg (by omega), if_neg (by omega), if_neg h1, if_neg h2]; omega
  · rw [if_neg h0]
    by_cases h1 : i = 1 ∧ j = 0
    · rw [if_pos h1, if_neg (by omega), if_pos (by omega), h1.2, Int.pow_zero]; omega
    · by_cases h2 : i = 0 ∧ j = 1
      · rw [if_neg h1, if_pos h2, if_neg (by omega), if_pos (by omega), h2.1, Int.pow_zero]; omega
      · rw [if_neg h1, if_neg h2, if_neg (by omega), if_neg (by omega)]; omega

/-! the law of Euler -/
/-- x r(y) + y r(x) -/
def euT (r : Nat → Int) : Nat → Nat → Int := fun i j => (if i = 1 then r j else 0) + (if j = 1 then r i else 0)
/-- the sum of e^k x^2k y^2k -/
def euG (e : Int) : Nat → Nat → Int := fun i j => if i = j ∧ i % 2 = 0 then e ^ (i / 2) else 0
theorem eug_fix (e : Int) : pl (one2 1) (mul2 (euG e) (sm e (mon2 2 2))) = euG e := by
  funext i j
  rw [mul2_sm]
  show one2 1 i j + e * mul2 (euG e) (mon2 2 2) i j = euG e i j
  rw [mul2_mon2]
  unfold one2 euG
  by_cases h0 : 2 ≤ i ∧ 2 ≤ j
  · rw [if_neg (by omega), if_pos h0]
    by_cases h1 : i = j ∧ i % 2 = 0
    · rw [if_pos (by omega), if_pos h1, Int.zero_add, show i / 2 = (i - 2) / 2 + 1 by omega, Int.pow_succ, Int.mul_comm]
    · rw [if_neg (by omega), if_neg h1]; omega
  · rw [if_neg h0]
    by_cases h1 : i = 0 ∧ j = 0
    · rw [if_pos h1, if_pos (by omega), h1.1]; simp
    · rw [if_neg h1, if_neg (by omega)]; omega
theorem eu_fix (r : Nat → Int) (e : Int) : pl (euT r) (mul2 (mul2 (euT r) (euG e)) (sm e (mon2 2 2))) = mul2 (euT r) (euG e) := by
  rw [mul2_assoc]
  have h := eug_fix e
  have : mul2 (euT r) (pl (one2 1) (mul2 (euG e) (sm e (mon2 2 2)))) = mul2 (euT r) (euG e) := by rw [h]
  rw [mul2_pl, mul2_one2, one_sm] at this
  exact this
theorem eut_eq (r : Nat → Int) (d : Nat) (i j : Nat) (h : i + j ≤ d) : pl (mul2 (mon2 1 0) (aft r (mon2 0 1) (d + 1))) (mul2 (mon2 0 1) (aft r (mon2 1 0) (d + 1))) i j = euT r i j := by
  show mul2 _ _ i j + mul2 _ _ i j = _
  rw [mon2_mul2, mon2_mul2]
  unfold euT
  congr 1
  · by_cases h1 : i = 1
    · rw [if_pos (by omega), aft_y _ _ _ _ (by omega), if_pos (by omega), if_pos h1]; rfl
    · rw [if_neg h1]
      by_cases h2 : 1 ≤ i ∧ 0 ≤ j
      · rw [if_pos h2, aft_y _ _ _ _ (by omega), if_neg (by omega)]
      · rw [if_neg h2]
  · by_cases h1 : j = 1
    · rw [if_pos (by omega), aft_x _ _ _ _ (by omega), if_pos (by omega), if_pos h1]; rfl
    · rw [if_neg h1]
      by_cases h2 : 0 ≤ i ∧ 1 ≤ j
      · rw [if_pos h2, aft_x _ _ _ _ (by omega), if_neg (by omega)]
      · rw [if_neg h2]
/-- quotients by 1 + c t', where 1 - (1 + G) is taken for R -/
theorem rest_eq {m : Int} {d : Nat} (t : List (List Int)) {G : Nat → Nat → Int} (h : Eq m d (pc t) (pl (one2 1) G)) : Eq m d (pc (polT m d (pc t) [1, -1])) (sm (-1) G) := by
  have h1 := polF_tab (pc t) h [1, -1]
  rw [polF_two] at h1
  refine h1.trans (Eq.fn ?_)
  funext i j
  show -1 * (one2 1 i j + G i j) + one2 1 i j = -1 * G i j
  omega
end Pl
end Go.Proofs.YtfhdgcndiljjcaaGreatDoor

/- Plain facts on the Weierstrass series and on square roots of series: no program in sight. -/
namespace Go.Proofs.YtfhdgcndiljjcaaGreatDoor
namespace Ser

theorem cv_congr_curves {m : Int} {f f' b b' : Nat → Int} {n : Nat} (hf : f 0 = 0) (hf' : f' 0 = 0) (hb : b 0 = 0) (hb' : b' 0 = 0) (h : Eq m n f f') (k : Eq m n b b') : cv (n + 1) f b % m = cv (n + 1) f' b' % m := by
  rw [cv_succ, cv_succ, hf, hf', Int.zero_mul, Int.zero_mul, Int.zero_add, Int.zero_add, cv_comm (sh f), cv_comm (sh f')]
  exact cv_congr_curve (by rw [hb]; rfl) (by rw [hb']; rfl) k (fun i hi => h (i + 1) (by omega))
theorem cv_mon (f : Nat → Int) (k : Nat) (c : Int) (n : Nat) : cv n f (mon k c) = if k ≤ n then c * f (n - k) else 0 := by
  rw [cv_psum]
  by_cases h : k ≤ n
  · rw [Pl.psum_one _ (n - k) _ (fun i hi hne => by unfold mon; rw [if_neg (by omega), Int.mul_zero]), if_pos (by omega), if_pos h]
    unfold mon
    rw [if_pos (by omega), Int.mul_comm]
  · rw [if_neg h]
    exact psum_low _ _ (fun i _ => by unfold mon; rw [if_neg (by omega), Int.mul_zero])
/-- the right side of the equation of the Weierstrass series -/
def weiB (a3 a4 a6 : Int) (w : Nat → Int) : Nat → Int := fun n => (mon 0 a3 n + mon 1 a4 n) + w n * a6
def weiA (a1 a2 a3 a4 a6 : Int) (w : Nat → Int) : Nat → Int := fun n => (mon 1 a1 n + mon 2 a2 n) + mul w (weiB a3 a4 a6 w) n
def weiF (a1 a2 a3 a4 a6 : Int) (w : Nat → Int) : Nat → Int := fun n => mon 3 1 n + mul w (weiA a1 a2 a3 a4 a6 w) n
theorem weiA_zero (a1 a2 a3 a4 a6 : Int) {w : Nat → Int} (h : w 0 = 0) : weiA a1 a2 a3 a4 a6 w 0 = 0 := by
  show mon 1 a1 0 + mon 2 a2 0 + cv 0 w _ = 0
  rw [cv_zero, h]; simp [mon]
theorem weiF_zero (a1 a2 a3 a4 a6 : Int) {w : Nat → Int} (h : w 0 = 0) : weiF a1 a2 a3 a4 a6 w 0 = 0 := by
  show mon 3 1 0 + cv 0 w _ = 0
  rw [cv_zero, h]; simp [mon]
theorem weiB_congr {m : Int} {k : Nat} (a3 a4 a6 : Int) {w w' : Nat → Int} (h : Eq m k w w') : Eq m k (weiB a3 a4 a6 w) (weiB a3 a4 a6 w') := fun i hi => add_cong rfl (mul_cong (h i hi) rfl)
theorem weiA_congr {m : Int} {k : Nat} (a1 a2 a3 a4 a6 : Int) {w w' : Nat → Int} (h : Eq m k w w') : Eq m k (weiA a1 a2 a3 a4 a6 w) (weiA a1 a2 a3 a4 a6 w') := fun i hi => add_cong rfl (Eq.mul h (weiB_congr a3 a4 a6 h) i hi)
/-- one degree more is right -/
theorem weiF_congr {m : Int} {k : Nat} (a1 a2 a3 a4 a6 : Int) {w w' : Nat → Int} (h0 : w 0 = 0) (h0' : w' 0 = 0) (h : Eq m k w w') : Eq m (k + 1) (weiF a1 a2 a3 a4 a6 w) (weiF a1 a2 a3 a4 a6 w') := by
  intro i hi
  refine add_cong rfl ?_
  by_cases hk : i ≤ k
  · exact Eq.mul h (weiA_congr a1 a2 a3 a4 a6 h) i hk
  · obtain rfl : i = k + 1 := by omega
    exact cv_congr_curves h0 h0' (weiA_zero _ _ _ _ _ h0) (weiA_zero _ _ _ _ _ h0') h (weiA_congr a1 a2 a3 a4 a6 h)
theorem weiF_at (a1 a2 a3 a4 a6 : Int) (w : Nat → Int) (n : Nat) (hn : 3 ≤ n) :
    weiF a1 a2 a3 a4 a6 w n = mon 3 1 n + (a1 * w (n - 1) + a2 * w (n - 2) + (a3 * mul w w n + a4 * mul w w (n - 1) + a6 * mul (mul w w) w n)) := by
  have e1 : mul w (weiA a1 a2 a3 a4 a6 w) n = cv n w (mon 1 a1) + cv n w (mon 2 a2) + cv n w (mul w (weiB a3 a4 a6 w)) := by
    show mul w (fun i => (mon 1 a1 i + mon 2 a2 i) + mul w (weiB a3 a4 a6 w) i) n = _
    rw [mul_add w (fun i => mon 1 a1 i + mon 2 a2 i), mul_add w (mon 1 a1)]; rfl
  have e2 : cv n w (mul w (weiB a3 a4 a6 w)) = cv n (mul w w) (mon 0 a3) + cv n (mul w w) (mon 1 a4) + a6 * mul (mul w w) w n := by
    rw [← cv_assoc]
    show mul (mul w w) (fun i => (mon 0 a3 i + mon 1 a4 i) + w i * a6) n = _
    rw [mul_add (mul w w) (fun i => mon 0 a3 i + mon 1 a4 i), mul_add (mul w w) (mon 0 a3)]
    rw [show (fun i => w i * a6) = fun i => a6 * w i from funext fun i => Int.mul_comm _ _, mul_smul]
    rfl
  show mon 3 1 n + mul w (weiA a1 a2 a3 a4 a6 w) n = _
  rw [e1, e2, cv_mon, cv_mon, cv_mon, cv_mon, if_pos (by omega), if_pos (by omega), if_pos (by omega), if_pos (by omega), Nat.sub_zero]

/-- the program's rounds -/
def addL (m : Int) (d : Nat) (l l' : List Int) : List Int := cut m d fun n => co l n + co l' n
def mulK (m : Int) (d : Nat) (l : List Int) (k : Int) : List Int := cut m d fun n => co l n * k
def monL (m : Int) (d k : Nat) (c : Int) : List Int := cut m d (mon k c)
theorem addL_eq {m : Int} {d : Nat} {l l' : List Int} {f g : Nat → Int} (h : Eq m d (co l) f) (k : Eq m d (co l') g) : Eq m d (co (addL m d l l')) (fun n => f n + g n) := (co_cut_eq _ _ _).trans (h.add k)
theorem mulK_eq {m : Int} {d : Nat} {l : List Int} {f : Nat → Int} (h : Eq m d (co l) f) (k : Int) : Eq m d (co (mulK m d l k)) (fun n => f n * k) := (co_cut_eq _ _ _).trans (fun i hi => mul_cong (h i hi) rfl)
theorem mulL_eq {m : Int} {d : Nat} {l l' : List Int} {f g : Nat → Int} (h : Eq m d (co l) f) (k : Eq m d (co l') g) : Eq m d (co (mulL m d l l')) (mul f g) := (co_cut_eq _ _ _).trans (h.mul k)
def weiQ (m : Int) (d : Nat) (a3 a4 a6 : Int) (L : List Int) : List Int := addL m d (addL m d (monL m d 0 a3) (monL m d 1 a4)) (mulK m d L a6)
def weiS (m : Int) (d : Nat) (a1 a2 a3 a4 a6 : Int) (L : List Int) : List Int := addL m d (addL m d (monL m d 1 a1) (monL m d 2 a2)) (mulL m d L (weiQ m d a3 a4 a6 L))
def weiP (m : Int) (d : Nat) (a1 a2 a3 a4 a6 : Int) (L : List Int) : List Int := addL m d (monL m d 3 1) (mulL m d L (weiS m d a1 a2 a3 a4 a6 L))
def weiL (m : Int) (d : Nat) (a1 a2 a3 a4 a6 : Int) : Nat → List Int
  | 0 => monL m d 0 0
  | k + 1 => weiP m d a1 a2 a3 a4 a6 (weiL m d a1 a2 a3 a4 a6 k)
theorem weiP_eq (m : Int) (d : Nat) (a1 a2 a3 a4 a6 : Int) (L : List Int) : Eq m d (co (weiP m d a1 a2 a3 a4 a6 L)) (weiF a1 a2 a3 a4 a6 (co L)) := by
  have hq : Eq m d (co (weiQ m d a3 a4 a6 L)) (weiB a3 a4 a6 (co L)) := addL_eq (addL_eq (co_cut_eq _ _ _) (co_cut_eq _ _ _)) (mulK_eq (Eq.refl _ _ _) a6)
  have hs : Eq m d (co (weiS m d a1 a2 a3 a4 a6 L)) (weiA a1 a2 a3 a4 a6 (co L)) := addL_eq (addL_eq (co_cut_eq _ _ _) (co_cut_eq _ _ _)) (mulL_eq (Eq.refl _ _ _) hq)
  exact addL_eq (co_cut_eq _ _ _) (mulL_eq (Eq.refl _ _ _) hs)
theorem weiL_length (m : Int) (d : Nat) (a1 a2 a3 a4 a6 : Int) (k : Nat) : (weiL m d a1 a2 a3 a4 a6 k).length = d + 1 := by cases k <;> exact cut_length _ _ _
theorem weiL_red {m : Int} (hm : 0 < m) (d : Nat) (a1 a2 a3 a4 a6 : Int) (k : Nat) : Red m (weiL m d a1 a2 a3 a4 a6 k) := by cases k <;> exact cut_red hm _ _
theorem weiL_zero {m : Int} (hm : 0 < m) (d : Nat) (a1 a2 a3 a4 a6 : Int) (k : Nat) : co (weiL m d a1 a2 a3 a4 a6 k) 0 = 0 := by
  induction k with
  | zero =>
    show co (cut m d (mon 0 0)) 0 = 0
    rw [co_cut (Nat.zero_le _)]
    simp [mon]
  | succ k ih =>
    have h := weiP_eq m d a1 a2 a3 a4 a6 (weiL m d a1 a2 a3 a4 a6 k) 0 (Nat.zero_le _)
    rw [weiF_zero _ _ _ _ _ ih] at h
    have r := weiL_red hm d a1 a2 a3 a4 a6 (k + 1) 0
    rw [show co (weiL m d a1 a2 a3 a4 a6 (k + 1)) 0 = co (weiP m d a1 a2 a3 a4 a6 (weiL m d a1 a2 a3 a4 a6 k)) 0 from rfl] at r ⊢
    rw [Int.emod_eq_of_lt r.1 r.2] at h
    simpa using h
/-- what the model's list is when the coefficients below n have come -/
structure WeiN (m : Int) (D : Nat) (a1 a2 a3 a4 a6 : Int) (L : List Int) (n : Nat) : Prop where
  len : L.length = D + 1
  red : Red m L
  zero : ∀ i, i < 3 → co L i = 0
  last : ∀ i, n ≤ i → co L i = 0
  fix : ∀ i, i < n → co L i = weiF a1 a2 a3 a4 a6 (co L) i % m
theorem weiF_low (a1 a2 a3 a4 a6 : Int) {w : Nat → Int} (h : ∀ i, i < 3 → w i = 0) (i : Nat) (hi : i < 3) : weiF a1 a2 a3 a4 a6 w i = 0 := by
  have : cv i w (weiA a1 a2 a3 a4 a6 w) = 0 := by
    rw [cv_psum]
    exact psum_low _ _ (fun j hj => by rw [h j (by omega), Int.zero_mul])
  show mon 3 1 i + cv i w _ = 0
  rw [this]
  unfold mon
  rw [if_neg (by omega)]; rfl
theorem co_zeros0 (n i : Nat) : co (List.replicate n (0 : Int)) i = 0 := co_zeros n i
theorem WeiN.start {m : Int} (hm : 0 < m) (D : Nat) (a1 a2 a3 a4 a6 : Int) : WeiN m D a1 a2 a3 a4 a6 (List.replicate (D + 1) 0) 3 := by
  have z : ∀ i, co (List.replicate (D + 1) (0 : Int)) i = 0 := fun i => co_zeros0 _ i
  refine ⟨List.length_replicate, fun i => by rw [z]; omega, fun i _ => z i, fun i _ => z i, fun i hi => ?_⟩
  rw [weiF_low _ _ _ _ _ (fun j _ => z j) i hi, z, Int.zero_emod]
theorem WeiN.step {m : Int} (hm : 0 < m) {D : Nat} {a1 a2 a3 a4 a6 : Int} {L : List Int} {n : Nat} (h : WeiN m D a1 a2 a3 a4 a6 L n) (hn : 3 ≤ n) (hD : n ≤ D) {v : Int} (hv : v = weiF a1 a2 a3 a4 a6 (co L) n % m) : WeiN m D a1 a2 a3 a4 a6 (L.set n v) (n + 1) := by
  have hs : ∀ i, co (L.set n v) i = if i = n then v else co L i := fun i => co_set (by rw [h.len]; omega) _ i
  have he : ∀ k, k < n → Eq m k (co (L.set n v)) (co L) := fun k hk i hi => by rw [hs, if_neg (by omega)]
  have h0 : co L 0 = 0 := h.zero 0 (by omega)
  have h0' : co (L.set n v) 0 = 0 := by rw [hs, if_neg (by omega), h0]
  refine ⟨by rw [List.length_set, h.len], fun i => ?_, fun i hi => ?_, fun i hi => ?_, fun i hi => ?_⟩
  · rw [hs]
    split
    · rw [hv]; exact ⟨Int.emod_nonneg _ (by omega), Int.emod_lt_of_pos _ hm⟩
    · exact h.red i
  · rw [hs, if_neg (by omega)]; exact h.zero i hi
  · rw [hs, if_neg (by omega)]; exact h.last i (by omega)
  · rcases i with _ | i
    · rw [h0', weiF_zero _ _ _ _ _ h0', Int.zero_emod]
    · have := weiF_congr a1 a2 a3 a4 a6 h0' h0 (he i (by omega)) (i + 1) (Nat.le_refl _)
      rw [this, hs]
      by_cases hi' : i + 1 = n
      · rw [if_pos hi', hv, hi']
      · rw [if_neg hi']; exact h.fix (i + 1) (by omega)
/-- when all have come it is the program's -/
theorem WeiN.done {m : Int} (hm : 0 < m) {D : Nat} {a1 a2 a3 a4 a6 : Int} {L : List Int} {n : Nat} (h : WeiN m D a1 a2 a3 a4 a6 L n) (hn : D < n) : L = weiL m D a1 a2 a3 a4 a6 D := by
  have key : ∀ k, k ≤ D → Eq m k (co (weiL m D a1 a2 a3 a4 a6 k)) (co L) := by
    intro k
    induction k with
    | zero =>
      intro _ i hi
      obtain rfl : i = 0 := by omega
      rw [weiL_zero hm, h.zero 0 (by omega)]
    | succ k ih =>
      intro hk i hi
      rw [show co (weiL m D a1 a2 a3 a4 a6 (k + 1)) i = co (weiP m D a1 a2 a3 a4 a6 (weiL m D a1 a2 a3 a4 a6 k)) i from rfl, weiP_eq m D a1 a2 a3 a4 a6 _ i (by omega),
        weiF_congr a1 a2 a3 a4 a6 (weiL_zero hm D a1 a2 a3 a4 a6 k) (h.zero 0 (by omega)) (ih (by omega)) i hi, h.fix i (by omega), Int.emod_emod]
  exact red_unique h.len (weiL_length _ _ _ _ _ _ _ _) h.red (weiL_red hm _ _ _ _ _ _ _) (key D (Nat.le_refl _)).symm
/-- the model's next coefficient: sq and cu its square and cube up to n -/
theorem wei_val {m : Int} {a1 a2 a3 a4 a6 : Int} {L : List Int} {n : Nat} (hn : 3 ≤ n) (sq cu : Nat → Int) (hsq : Eq m n sq (mul (co L) (co L))) (hcu : Eq m n cu (mul sq (co L))) :
    (a1 * co L (n - 1) + a2 * co L (n - 2) + a3 * sq n + a4 * sq (n - 1) + a6 * cu n + mon 3 1 n) % m = weiF a1 a2 a3 a4 a6 (co L) n % m := by
  rw [weiF_at _ _ _ _ _ _ n hn]
  have e1 := hsq n (Nat.le_refl _)
  have e2 := hsq (n - 1) (by omega)
  have e3 : cu n % m = mul (mul (co L) (co L)) (co L) n % m := (hcu n (Nat.le_refl _)).trans (cv_congr n hsq (Eq.refl _ _ _))
  rw [show a1 * co L (n - 1) + a2 * co L (n - 2) + a3 * sq n + a4 * sq (n - 1) + a6 * cu n + mon 3 1 n = mon 3 1 n + (a1 * co L (n - 1) + a2 * co L (n - 2) + (a3 * sq n + a4 * sq (n - 1) + a6 * cu n)) by omega]
  exact add_cong rfl (add_cong rfl (add_cong (add_cong (mul_cong rfl e1) (mul_cong rfl e2)) (mul_cong rfl e3)))

/-! square roots -/
def rtL (m : Int) (d : Nat) (h : Int) (a : Nat → Int) : Nat → List Int
  | 0 => cut m d (mon 0 1)
  | k + 1 => (rtL m d h a k).set (k + 1) ((h * (a (k + 1) - cv (k + 1) (co (rtL m d h a k)) (co (rtL m d h a k)))) % m)
theorem rtL_length (m : Int) (d : Nat) (h : Int) (a : Nat → Int) (k : Nat) : (rtL m d h a k).length = d + 1 := by
  induction k with
  | zero => exact cut_length _ _ _
  | succ k ih => show (List.set _ _ _).length = _; rw [List.length_set, ih]
theorem rtL_red {m : Int} (hm : 0 < m) (d : Nat) (h : Int) (a : Nat → Int) (k : Nat) (hk : k ≤ d) : Red m (rtL m d h a k) := by
  induction k with
  | zero => exact cut_red hm _ _
  | succ k ih =>
    intro i
    rw [show co (rtL m d h a (k + 1)) i = co ((rtL m d h a k).set (k + 1) _) i from rfl, co_set (by rw [rtL_length]; omega)]
    split
    · exact ⟨Int.emod_nonneg _ (by omega), Int.emod_lt_of_pos _ hm⟩
    · exact ih (by omega) i
theorem rtL_at {m : Int} (m1 : 2 ≤ m) {d : Nat} (h : Int) (a : Nat → Int) (k : Nat) (hk : k ≤ d) : co (rtL m d h a k) 0 = 1 ∧ ∀ i, k < i → co (rtL m d h a k) i = 0 := by
  induction k with
  | zero =>
    refine ⟨?_, fun i hi => ?_⟩
    · show co (cut m d (mon 0 1)) 0 = 1
      rw [co_cut (Nat.zero_le _)]
      exact Int.emod_eq_of_lt (by simp [mon]) (by simp [mon]; omega)
    · show co (cut m d (mon 0 1)) i = 0
      by_cases hd : i ≤ d
      · rw [co_cut hd]; unfold mon; rw [if_neg (by omega), Int.zero_emod]
      · exact co_over (by rw [cut_length]; omega)
  | succ k ih =>
    have hs : ∀ i, co (rtL m d h a (k + 1)) i = if i = k + 1 then (h * (a (k + 1) - cv (k + 1) (co (rtL m d h a k)) (co (rtL m d h a k)))) % m else co (rtL m d h a k) i := fun i => co_set (by rw [rtL_length]; omega) _ i
    refine ⟨?_, fun i hi => ?_⟩
    · rw [hs, if_neg (by omega)]; exact (ih (by omega)).1
    · rw [hs, if_neg (by omega)]; exact (ih (by omega)).2 i (by omega)
/-- the sum of the terms between both ends -/
def midS (r : Nat → Int) (n : Nat) (k : Nat) : Int := psum (fun i => r (i + 1) * r (n - (i + 1))) k
theorem cv_mid (r : Nat → Int) (n : Nat) (hn : 1 ≤ n) (h0 : r n = 0) : cv n r r = midS r n (n - 1) := by
  rw [cv_psum]
  obtain ⟨k, rfl⟩ : ∃ k, n = k + 1 := ⟨n - 1, by omega⟩
  rw [psum_left]
  show r 0 * r (k + 1 - 0) + psum (fun i => r (i + 1) * r (k + 1 - (i + 1))) (k + 1) = _
  rw [psum]
  unfold midS
  rw [Nat.sub_zero, Nat.add_sub_cancel, h0, Int.mul_zero, Int.zero_mul, Int.zero_add, Int.add_zero]
end Ser
end Go.Proofs.YtfhdgcndiljjcaaGreatDoor

/- Plain facts on the Weierstrass law: substitution is a passage, quotients as series, the two ways to the law: no program in sight. -/
namespace Go.Proofs.YtfhdgcndiljjcaaGreatDoor
namespace Pl
open Ser (psum cv)

theorem mul2_psum' (g : Nat → Nat → Nat → Int) (F : Nat → Nat → Int) (p q n : Nat) : mul2 F (fun i j => psum (fun k => g k i j) n) p q = psum (fun k => mul2 F (g k) p q) n := by
  rw [mul2_comm, mul2_psum]
  exact Ser.psum_ext _ (fun k _ => by rw [mul2_comm])
theorem pw2_add (F : Nat → Nat → Int) (i : Nat) : ∀ j, mul2 (pw2 F i) (pw2 F j) = pw2 F (i + j) := by
  intro j
  induction j with
  | zero => show mul2 _ (one2 1) = _; rw [mul2_one2, one_sm]; rfl
  | succ j ih => show mul2 _ (mul2 (pw2 F j) F) = mul2 (pw2 F (i + j)) F; rw [← mul2_assoc, ih]
theorem pw2_lowW {F : Nat → Nat → Int} (h : F 0 0 = 0) : ∀ k p q, p + q < k → pw2 F k p q = 0 := by
  intro k
  induction k with
  | zero => intro p q h; omega
  | succ k ih =>
    intro p q hpq
    show mul2 (pw2 F k) F p q = 0
    unfold mul2
    refine Ser.psum_low _ _ (fun i hi => Ser.psum_low _ _ (fun j hj => ?_))
    by_cases hk : i + j < k
    · rw [ih i j hk, Int.zero_mul]
    · rw [show p - i = 0 by omega, show q - j = 0 by omega, h, Int.mul_zero]
/-- substitution leads products to products -/
theorem aft_mul (f g : Nat → Int) {F : Nat → Nat → Int} (h : F 0 0 = 0) (d p q : Nat) (hpq : p + q ≤ d) : mul2 (aft f F (d + 1)) (aft g F (d + 1)) p q = aft (Ser.mul f g) F (d + 1) p q := by
  have e1 : mul2 (aft f F (d + 1)) (aft g F (d + 1)) p q = psum (fun i => psum (fun j => f i * g j * pw2 F (i + j) p q) (d + 1)) (d + 1) := by
    unfold aft
    rw [mul2_psum (fun i p q => f i * pw2 F i p q)]
    refine Ser.psum_ext _ (fun i _ => ?_)
    rw [mul2_psum' (fun j p q => g j * pw2 F j p q)]
    refine Ser.psum_ext _ (fun j _ => ?_)
    have : mul2 (sm (f i) (pw2 F i)) (sm (g j) (pw2 F j)) = sm (f i * g j) (pw2 F (i + j)) := by rw [sm_mul2, mul2_sm, pw2_add, sm_sm]
    exact congrFun (congrFun this p) q
  have e2 : psum (fun i => psum (fun j => f i * g j * pw2 F (i + j) p q) (d + 1)) (d + 1) = psum (fun i => psum (fun j => f i * g j * pw2 F (i + j) p q) (d - i + 1)) (d + 1) := by
    refine Ser.psum_ext _ (fun i hi => ?_)
    exact psum_cut _ (d - i + 1) (d + 1) (by omega) (fun j h1 _ => by rw [pw2_lowW h _ _ _ (by omega), Int.mul_zero])
  rw [e1, e2, ← Ser.psum_tri d (fun i j _ => f i * g j * pw2 F (i + j) p q)]
  unfold aft
  refine Ser.psum_ext _ (fun n hn => ?_)
  rw [Ser.mul_at, Ser.cv_psum, ← Ser.psum_mul']
  refine Ser.psum_ext _ (fun i hi => ?_)
  rw [show i + (n - i) = n by omega]
theorem aft_add (f g : Nat → Int) (F : Nat → Nat → Int) (n : Nat) : aft (fun i => f i + g i) F n = pl (aft f F n) (aft g F n) := by
  funext p q
  show psum _ n = psum _ n + psum _ n
  rw [← Ser.psum_add]
  exact Ser.psum_ext _ (fun i _ => Int.add_mul _ _ _)
theorem aft_smul (c : Int) (f : Nat → Int) (F : Nat → Nat → Int) (n : Nat) : aft (fun i => c * f i) F n = sm c (aft f F n) := by
  funext p q
  show psum _ n = c * psum _ n
  rw [← Ser.psum_mul]
  exact Ser.psum_ext _ (fun i _ => Int.mul_assoc _ _ _)
theorem aft_mon (k : Nat) (c : Int) (F : Nat → Nat → Int) (n : Nat) (h : k < n) : aft (Ser.mon k c) F n = sm c (pw2 F k) := by
  funext p q
  show psum _ n = c * pw2 F k p q
  rw [psum_one _ k _ (fun i _ hi => by unfold Ser.mon; rw [if_neg hi, Int.zero_mul]), if_pos h]
  unfold Ser.mon
  rw [if_pos rfl]
theorem pw2_one (F : Nat → Nat → Int) : pw2 F 1 = F := by show mul2 (one2 1) F = F; rw [one2_mul2, one_sm]
theorem aft_t (c : Int) (F : Nat → Nat → Int) (n : Nat) (h : 1 < n) : aft (Ser.mon 1 c) F n = sm c F := by rw [aft_mon 1 c F n h, pw2_one]
theorem aft_c (c : Int) (F : Nat → Nat → Int) (n : Nat) (h : 0 < n) : aft (Ser.mon 0 c) F n = one2 c := by
  rw [aft_mon 0 c F n h]
  show sm c (one2 1) = _
  rw [sm_one2, Int.mul_one]
/-- if s b is n t up to the degree, s at U times b at U is n U -/
theorem aft_quot {m : Int} {d : Nat} {s b : Nat → Int} {U : Nat → Nat → Int} (h0 : U 0 0 = 0) (k : Nat) (c : Int) (hk : k ≤ d) (h : Ser.Eq m d (Ser.mul s b) (Ser.mon k c)) : Eq m d (mul2 (aft s U (d + 1)) (aft b U (d + 1))) (sm c (pw2 U k)) := by
  intro p q hpq
  rw [aft_mul s b h0 d p q hpq, aft_congr (m := m) (d := d) (d + 1) (fun i hi => h i (by omega)) (Eq.refl _ _ _) p q hpq, aft_mon k c U (d + 1) (by omega)]

/-! the two ways -/
/-- the quotient of two tables: whoever, times the denominator, is the numerator, is what the program's rounds give -/
theorem over_mul {m : Int} {d : Nat} {t T : List (List Int)} {R G : Nat → Nat → Int} (ht : Ok m d t) (hT : Ok m d T) (hG : G 0 0 % m = 0) (hR : Eq m d R (sm (-1) G)) (h : Eq m d (mul2 (pc T) (pl (one2 1) G)) (pc t)) : ovT m d t R d = T := by
  have hR0 : R 0 0 % m = 0 := by
    rw [hR 0 0 (Nat.zero_le _)]
    show (-1 * G 0 0) % m = 0
    rw [Int.mul_emod, hG]; simp
  refine over_fix ht hT hR0 ?_
  have e : Eq m d (pl (mul2 (pc T) (pl (one2 1) G)) (mul2 (pc T) (sm (-1) G))) (pc T) := by
    refine Eq.fn ?_
    rw [mul2_pl, mul2_one2, one_sm, mul2_sm]
    funext i j
    show pc T i j + mul2 (pc T) G i j + -1 * mul2 (pc T) G i j = pc T i j
    omega
  exact e.symm.trans ((h.pl (Eq.mul2 (Eq.refl _ _ _) hR.symm)))
/-- the sum of the signs' powers -/
def sgn (n : Nat) : Int := if n % 2 = 0 then 1 else -1
theorem sgn_inv : Ser.mul sgn (fun n => Ser.mon 0 1 n + Ser.mon 1 1 n) = Ser.mon 0 1 := by
  funext n
  rw [Ser.mul_add]
  show cv n sgn (Ser.mon 0 1) + cv n sgn (Ser.mon 1 1) = _
  rw [Ser.cv_mon, Ser.cv_mon, if_pos (Nat.zero_le _), Nat.sub_zero]
  rcases n with _ | n
  · rw [if_neg (by omega)]; rfl
  · rw [if_pos (by omega), Nat.add_sub_cancel]
    unfold sgn Ser.mon
    rw [if_neg (show ¬ (n + 1 = 0) by omega)]
    by_cases h : n % 2 = 0
    · rw [if_pos h, if_neg (by omega)]; rfl
    · rw [if_neg h, if_pos (by omega)]; rfl
/-- the quotient by 1 + G as the model has it -/
theorem over_sgn {m : Int} {d : Nat} (d1 : 1 ≤ d) {t T : List (List Int)} {R G : Nat → Nat → Int} {s : Nat → Int} (ht : Ok m d t) (hT : Ok m d T) (hG : G 0 0 = 0) (hR : Eq m d R (sm (-1) G)) (hs : ∀ i, i ≤ d → s i % m = sgn i % m)
    (h : Eq m d (pc T) (mul2 (pc t) (aft s G (d + 1)))) : ovT m d t R d = T := by
  refine over_mul ht hT (by rw [hG, Int.zero_emod]) hR ?_
  have e1 : aft (fun n => Ser.mon 0 1 n + Ser.mon 1 1 n) G (d + 1) = pl (one2 1) G := by rw [aft_add, aft_c _ _ _ (by omega), aft_t _ _ _ (by omega), one_sm]
  have e2 : Eq m d (mul2 (aft s G (d + 1)) (pl (one2 1) G)) (one2 1) := by
    rw [← e1]
    have := aft_quot (m := m) (d := d) (s := s) (b := fun n => Ser.mon 0 1 n + Ser.mon 1 1 n) hG 0 1 (Nat.zero_le _) (fun i hi => by
      refine (Ser.cv_congr (a' := sgn) i (fun j hj => hs j (by omega)) (Ser.Eq.refl m i (fun n => Ser.mon 0 1 n + Ser.mon 1 1 n))).trans ?_
      exact congrArg (· % m) (congrFun sgn_inv i))
    refine this.trans (Eq.fn ?_)
    show sm 1 (one2 1) = one2 1
    rw [one_sm]
  have e3 := (Eq.mul2 h (Eq.refl m d (pl (one2 1) G))).trans (Eq.fn (mul2_assoc _ _ _))
  refine e3.trans ((Eq.mul2 (Eq.refl m d (pc t)) e2).trans (Eq.fn ?_))
  rw [mul2_one2, one_sm]
/-- the numerator, as the program has it and as the model has it -/
theorem wel_num (l v : Nat → Nat → Int) (a1 a2 a3 a4 a6 : Int) :
    pl (polF l [0, a1, a3]) (mul2 v (polF l [a2, 2 * a4, 3 * a6])) = pl (pl (pl (pl (sm a1 l) (sm a2 v)) (sm a3 (mul2 l l))) (sm (2 * a4) (mul2 l v))) (sm (3 * a6) (mul2 (mul2 l l) v)) := by
  rw [polF_three, polF_three, mul2_pl, mul2_pl, mul2_sm, mul2_sm, mul2_one2, mul2_comm v (mul2 l l), mul2_comm v l]
  funext i j
  show a3 * mul2 l l i j + a1 * l i j + one2 0 i j + (3 * a6 * mul2 (mul2 l l) v i j + 2 * a4 * mul2 l v i j + a2 * v i j) = a1 * l i j + a2 * v i j + a3 * mul2 l l i j + 2 * a4 * mul2 l v i j + 3 * a6 * mul2 (mul2 l l) v i j
  have : one2 0 i j = 0 := by unfold one2; split <;> rfl
  rw [this]
  omega
/-- the denominator less 1 -/
theorem wel_den (l : Nat → Nat → Int) (a2 a4 a6 : Int) : polF l [1, a2, a4, a6] = pl (one2 1) (pl (pl (sm a2 l) (sm a4 (mul2 l l))) (sm a6 (mul2 (mul2 l l) l))) := by
  rw [polF_four]
  funext i j
  show a6 * mul2 (mul2 l l) l i j + a4 * mul2 l l i j + a2 * l i j + one2 1 i j = one2 1 i j + (a2 * l i j + a4 * mul2 l l i j + a6 * mul2 (mul2 l l) l i j)
  omega
end Pl
end Go.Proofs.YtfhdgcndiljjcaaGreatDoor

/- Plain facts: systems of linear equations modulo m, kept in a triangle, and their least solutions. -/
namespace Go.Proofs.YtfhdgcndiljjcaaGreatDoor
open Go.RowKit

namespace Sys
open Ser
/-- an equation's value at x; x 0 stands for 1 -/
def val (e : List Int) (x : Nat → Int) : Int := psum (fun i => co e i * x i) 11
def low (e : List Int) (k : Nat) (x : Nat → Int) : Int := psum (fun i => co e i * x i) k
def Sat (m : Int) (x : Nat → Int) (e : List Int) : Prop := val e x % m = 0
def lessE (m q : Int) (e f : List Int) : List Int := cut m 10 fun k => co e k - q * co f k
def timesE (m c : Int) (e : List Int) : List Int := cut m 10 fun k => c * co e k
/-- an equation as the program has them: eleven reduced numbers -/
structure Ok (m : Int) (e : List Int) : Prop where
  len : e.length = 11
  red : Red m e
def lastF (e : List Int) : Nat → Nat
  | 0 => 0
  | k + 1 => if co e (k + 1) = 0 then lastF e k else k + 1
def lastE (e : List Int) : Nat := lastF e 10
theorem lastF_le (e : List Int) : ∀ k, lastF e k ≤ k
  | 0 => Nat.le_refl _
  | k + 1 => by unfold lastF; split
                · have := lastF_le e k; omega
                · omega
theorem lastF_ne (e : List Int) : ∀ k, lastF e k ≠ 0 → co e (lastF e k) ≠ 0
  | 0, h => absurd rfl h
  | k + 1, h => by
    unfold lastF at h ⊢
    split
    · rename_i h0
      rw [if_pos h0] at h
      exact lastF_ne e k h
    · assumption
theorem lastF_over (e : List Int) : ∀ k j, lastF e k < j → j ≤ k → co e j = 0
  | 0, j, h1, h2 => by unfold lastF at h1; omega
  | k + 1, j, h1, h2 => by
    unfold lastF at h1
    split at h1
    · rename_i h0
      by_cases hj : j = k + 1
      · rw [hj]; exact h0
      · exact lastF_over e k j h1 (by omega)
    · omega
theorem lastE_over {m : Int} {e : List Int} (h : Ok m e) (j : Nat) (hj : lastE e < j) : co e j = 0 := by
  by_cases h10 : j ≤ 10
  · exact lastF_over e 10 j hj h10
  · exact co_over (by rw [h.len]; omega)
theorem lastE_le_of {e : List Int} {k : Nat} (h : ∀ j, k < j → co e j = 0) : lastE e ≤ k := by
  apply Classical.byContradiction
  intro hn
  have h0 : lastE e ≠ 0 := by omega
  exact lastF_ne e 10 h0 (h _ (by unfold lastE at hn; omega))
theorem Ok.cut {m : Int} (hm : 0 < m) (f : Nat → Int) : Ok m (Ser.cut m 10 f) := ⟨cut_length _ _ _, cut_red hm _ _⟩
theorem val_cut (m : Int) (f x : Nat → Int) : val (Ser.cut m 10 f) x % m = psum (fun i => f i * x i) 11 % m := by
  unfold val
  refine psum_congr 11 (fun i hi => ?_)
  rw [co_cut (by omega), Int.mul_emod, Int.emod_emod, ← Int.mul_emod]
theorem val_less (m q : Int) (e f : List Int) (x : Nat → Int) : val (lessE m q e f) x % m = (val e x - q * val f x) % m := by
  unfold lessE
  rw [val_cut]
  congr 1
  unfold val
  rw [← psum_mul, show psum (fun i => co e i * x i) 11 - psum (fun i => q * (co f i * x i)) 11 = psum (fun i => co e i * x i) 11 + (-1) * psum (fun i => q * (co f i * x i)) 11 by omega, ← psum_mul, ← psum_add]
  exact psum_ext 11 (fun i _ => by grind)
theorem val_times (m c : Int) (e : List Int) (x : Nat → Int) : val (timesE m c e) x % m = c * val e x % m := by
  unfold timesE
  rw [val_cut]
  congr 1
  unfold val
  rw [← psum_mul]
  exact psum_ext 11 (fun i _ => by grind)
theorem sat_less {m q : Int} {e f : List Int} {x : Nat → Int} (he : Sat m x e) (hf : Sat m x f) : Sat m x (lessE m q e f) := by
  unfold Sat at *
  rw [val_less, Int.sub_emod, he, Int.mul_emod, hf]
  simp
theorem sat_of_less {m q : Int} {e f : List Int} {x : Nat → Int} (he : Sat m x (lessE m q e f)) (hf : Sat m x f) : Sat m x e := by
  unfold Sat at *
  rw [val_less] at he
  have h1 : m ∣ val e x - q * val f x := Int.dvd_of_emod_eq_zero he
  have h2 : m ∣ val f x := Int.dvd_of_emod_eq_zero hf
  have h3 : m ∣ q * val f x := Int.dvd_mul_of_dvd_right h2
  have := Int.dvd_add h1 h3
  rw [show val e x - q * val f x + q * val f x = val e x by omega] at this
  exact Int.emod_eq_zero_of_dvd this
theorem sat_times {m c : Int} {e : List Int} {x : Nat → Int} (he : Sat m x e) : Sat m x (timesE m c e) := by
  unfold Sat at *
  rw [val_times, Int.mul_emod, he]
  simp
/-- Euclid's algorithm on two equations -/
def euc (m : Int) (k : Nat) : Nat → List Int → List Int → List Int × List Int
  | 0, row, e => (row, e)
  | n + 1, row, e => if co e k = 0 then (row, e) else euc m k n e (lessE m (co row k / co e k) row e)
theorem less_at {m : Int} {row e : List Int} {k : Nat} (hk : k ≤ 10) (he : Ok m e) (h0 : co e k ≠ 0) : co (lessE m (co row k / co e k) row e) k = co row k % co e k := by
  unfold lessE
  rw [co_cut hk]
  have h1 := he.red k
  have h2 := Int.emod_add_mul_ediv (co row k) (co e k)
  have h3 := Int.emod_nonneg (co row k) h0
  have h4 := Int.emod_lt_of_pos (co row k) (show 0 < co e k by omega)
  rw [show co row k - co row k / co e k * co e k = co row k % co e k by rw [Int.mul_comm (co row k / co e k)]; omega]
  exact Int.emod_eq_of_lt h3 (by omega)
structure EucOk (m : Int) (k : Nat) (row e : List Int) (r : List Int × List Int) : Prop where
  ok1 : Ok m r.1
  ok2 : Ok m r.2
  z : co r.2 k = 0
  ne : co e k ≠ 0 → co r.1 k ≠ 0
  over : (∀ j, k < j → co row j = 0) → (∀ j, k < j → co e j = 0) → (∀ j, k < j → co r.1 j = 0) ∧ ∀ j, k < j → co r.2 j = 0
  sat : ∀ x, (Sat m x row ∧ Sat m x e) ↔ (Sat m x r.1 ∧ Sat m x r.2)
theorem euc_ok {m : Int} {k : Nat} (hm : 0 < m) (hk : k ≤ 10) : ∀ (n : Nat) (row e : List Int), Ok m row → Ok m e → (co e k).toNat < n → EucOk m k row e (euc m k n row e)
  | 0, _, _, _, _, h => by omega
  | n + 1, row, e, hr, he, h => by
    unfold euc
    by_cases h0 : co e k = 0
    · rw [if_pos h0]
      exact ⟨hr, he, h0, fun h => absurd h0 h, fun a b => ⟨a, b⟩, fun x => Iff.rfl⟩
    · rw [if_neg h0]
      have h1 := he.red k
      have hat := less_at (row := row) hk he h0
      have h4 := Int.emod_lt_of_pos (co row k) (show 0 < co e k by omega)
      have h5 := Int.emod_nonneg (co row k) h0
      have ih := euc_ok hm hk n e (lessE m (co row k / co e k) row e) he (Ok.cut hm _) (by rw [hat]; omega)
      refine ⟨ih.ok1, ih.ok2, ih.z, fun _ => ?_, fun a b => ih.over b (fun j hj => ?_), fun x => ?_⟩
      · by_cases hz : co (lessE m (co row k / co e k) row e) k = 0
        · cases n with
          | zero => unfold euc; exact h0
          | succ n => unfold euc; rw [if_pos hz]; exact h0
        · exact ih.ne hz
      · by_cases h10 : j ≤ 10
        · unfold lessE
          rw [co_cut h10, a j hj, b j hj]; simp
        · exact co_over (by unfold lessE; rw [cut_length]; omega)
      · rw [← ih.sat x]
        exact ⟨fun ⟨a, b⟩ => ⟨b, sat_less a b⟩, fun ⟨a, b⟩ => ⟨sat_of_less b a, a⟩⟩
def upd (rows : Nat → List Int) (k : Nat) (r : List Int) : Nat → List Int := fun j => if j = k then r else rows j
/-- a system with one equation more: rows below or at L alone are touched -/
def addS (m : Int) : Nat → (Nat → List Int) → List Int → Option (Nat → List Int)
  | 0, rows, e => if co e 0 = 0 then some rows else none
  | L + 1, rows, e =>
    if lastE e = L + 1 then
      match addS m L (upd rows (L + 1) (euc m (L + 1) 20000 (rows (L + 1)) e).1) (timesE m (m / gcdI m (co (euc m (L + 1) 20000 (rows (L + 1)) e).1 (L + 1))) (euc m (L + 1) 20000 (rows (L + 1)) e).1) with
      | none => none
      | some r2 => addS m L r2 (euc m (L + 1) 20000 (rows (L + 1)) e).2
    else addS m L rows e
/-- what fits the rows below k can be carried on to k -/
def Clo (m : Int) (rows : Nat → List Int) (k : Nat) : Prop :=
  ∀ x : Nat → Int, x 0 = 1 → (∀ j, 0 < j → j < k → Sat m x (rows j)) → m / gcdI m (co (rows k) k) * low (rows k) k x % m = 0
structure Tri (m : Int) (rows : Nat → List Int) : Prop where
  ok : ∀ k, Ok m (rows k)
  tri : ∀ k, 0 < k → ∀ j, k < j → co (rows k) j = 0
theorem low_val {e : List Int} {k : Nat} (hk : k ≤ 10) (h : ∀ j, k < j → co e j = 0) (x : Nat → Int) : val e x = low e k x + co e k * x k := by
  unfold val low
  rw [Pl.psum_cut (fun i => co e i * x i) (k + 1) 11 (by omega) (fun i hi _ => by simp [h i (by omega)])]
  rfl
structure AddOk (m : Int) (L : Nat) (rows : Nat → List Int) (e : List Int) (r : Nat → List Int) : Prop where
  tri : Tri m r
  over : ∀ k, L < k → r k = rows k
  sat : ∀ x, x 0 = 1 → ((∀ j, 0 < j → j ≤ L → Sat m x (r j)) ↔ ((∀ j, 0 < j → j ≤ L → Sat m x (rows j)) ∧ Sat m x e))
  clo : (∀ k, 0 < k → k ≤ L → Clo m rows k) → ∀ k, 0 < k → k ≤ L → Clo m r k
theorem times_zero {m c g : Int} (hg : 1 ≤ g) (h1 : g ∣ m) (h2 : g ∣ c) : m / g * c % m = 0 := by
  obtain ⟨a, rfl⟩ := h1
  obtain ⟨b, rfl⟩ := h2
  rw [Int.mul_ediv_cancel_left _ (by omega), show a * (g * b) = g * a * b by grind]
  exact Int.mul_emod_right _ _
theorem gcd_facts {m : Int} (hm : 2 ≤ m) (c : Int) : 1 ≤ gcdI m c ∧ gcdI m c ∣ m ∧ gcdI m c ∣ c := by
  refine ⟨?_, ?_, ?_⟩
  · have : 0 < Nat.gcd m.natAbs c.natAbs := Nat.gcd_pos_of_pos_left _ (by omega)
    unfold gcdI; omega
  · unfold gcdI; exact Int.ofNat_dvd_left.2 (Nat.gcd_dvd_left _ _)
  · unfold gcdI; exact Int.ofNat_dvd_left.2 (Nat.gcd_dvd_right _ _)
theorem Tri.upd {m : Int} {rows : Nat → List Int} (h : Tri m rows) (k : Nat) {r : List Int} (hr : Ok m r) (h0 : ∀ j, k < j → co r j = 0) : Tri m (upd rows k r) := by
  refine ⟨fun j => ?_, fun j hj i hi => ?_⟩
  · unfold Sys.upd; split
    · exact hr
    · exact h.ok j
  · unfold Sys.upd; split
    · rename_i e; subst e; exact h0 i hi
    · exact h.tri j hj i hi
theorem upd_at (rows : Nat → List Int) (k : Nat) (r : List Int) : upd rows k r k = r := by unfold upd; rw [if_pos rfl]
theorem upd_ne (rows : Nat → List Int) {k j : Nat} (r : List Int) (h : j ≠ k) : upd rows k r j = rows j := by unfold upd; rw [if_neg h]
theorem Clo.congr {m : Int} {r r' : Nat → List Int} {k : Nat} (h : ∀ j, 0 < j → j ≤ k → r' j = r j) (h0 : 0 < k) (hc : Clo m r k) : Clo m r' k := by
  intro x hx hs
  rw [h k h0 (Nat.le_refl _)]
  exact hc x hx (fun j hj hjk => by rw [← h j hj (by omega)]; exact hs j hj hjk)
theorem addS_ok {m : Int} (m1 : 2 ≤ m) (m2 : m ≤ 10000) : ∀ (L : Nat) (rows : Nat → List Int) (e : List Int), Tri m rows → Ok m e → lastE e ≤ L → L ≤ 10 →
    (∀ r, addS m L rows e = some r → AddOk m L rows e r) ∧ (addS m L rows e = none → ∀ x : Nat → Int, x 0 = 1 → ¬ ((∀ j, 0 < j → j ≤ L → Sat m x (rows j)) ∧ Sat m x e))
  | 0, rows, e, hT, he, hl, _ => by
    have hz : ∀ x : Nat → Int, x 0 = 1 → val e x = co e 0 := fun x hx => by
      rw [low_val (k := 0) (by omega) (fun j hj => lastE_over he j (by omega)), hx]
      show (0 : Int) + co e 0 * 1 = co e 0
      omega
    have hr := he.red 0
    unfold addS
    by_cases h0 : co e 0 = 0
    · rw [if_pos h0]
      refine ⟨fun r h => ?_, fun h => (by cases h)⟩
      injection h with h
      subst h
      exact ⟨hT, fun _ _ => rfl, fun x hx => ⟨fun _ => ⟨fun j hj hj2 => absurd hj2 (by omega), by unfold Sat; rw [hz x hx, h0]; exact Int.zero_emod m⟩, fun h => h.1⟩, fun h => h⟩
    · rw [if_neg h0]
      refine ⟨fun r h => (by cases h), fun _ x hx h => h0 ?_⟩
      have hs := h.2
      unfold Sat at hs
      rw [hz x hx, Int.emod_eq_of_lt hr.1 hr.2] at hs
      exact hs
  | L + 1, rows, e, hT, he, hl, h10 => by
    unfold addS
    by_cases hlast : lastE e = L + 1
    · rw [if_pos hlast]
      have hred := he.red (L + 1)
      have E := euc_ok (m := m) (k := L + 1) (by omega) h10 20000 (rows (L + 1)) e (hT.ok _) he (by omega)
      generalize euc m (L + 1) 20000 (rows (L + 1)) e = P at E ⊢
      obtain ⟨row, e'⟩ := P
      obtain ⟨o1, o2, z, -, ov, sat⟩ := E
      dsimp only at o1 o2 z ov sat ⊢
      obtain ⟨v1, v2⟩ := ov (fun j hj => hT.tri (L + 1) (by omega) j hj) (fun j hj => lastE_over he j (by omega))
      obtain ⟨g1, g2, g3⟩ := gcd_facts m1 (co row (L + 1))
      have hz := times_zero g1 g2 g3
      have hTo : Ok m (timesE m (m / gcdI m (co row (L + 1))) row) := Ok.cut (by omega) _
      have hTl : lastE (timesE m (m / gcdI m (co row (L + 1))) row) ≤ L := lastE_le_of (fun j hj => by
        by_cases hj10 : j ≤ 10
        · unfold timesE
          rw [co_cut hj10]
          by_cases hjk : j = L + 1
          · rw [hjk]; exact hz
          · rw [v1 j (by omega)]; simp
        · exact co_over (by rw [hTo.len]; omega))
      have hel : lastE e' ≤ L := lastE_le_of (fun j hj => by
        by_cases hjk : j = L + 1
        · rw [hjk]; exact z
        · exact v2 j (by omega))
      have hvT : ∀ x, val (timesE m (m / gcdI m (co row (L + 1))) row) x % m = m / gcdI m (co row (L + 1)) * low row (L + 1) x % m := fun x => by
        rw [val_times, low_val h10 v1 x, Int.mul_add, Int.add_emod, show m / gcdI m (co row (L + 1)) * (co row (L + 1) * x (L + 1)) = m / gcdI m (co row (L + 1)) * co row (L + 1) * x (L + 1) by grind, Int.mul_emod (m / gcdI m (co row (L + 1)) * co row (L + 1)), hz]
        simp
      obtain ⟨s1, n1⟩ := addS_ok m1 m2 L (upd rows (L + 1) row) (timesE m (m / gcdI m (co row (L + 1))) row) (hT.upd (L + 1) o1 v1) hTo hTl (by omega)
      generalize timesE m (m / gcdI m (co row (L + 1))) row = T at *
      have hlow : ∀ x, (∀ j, 0 < j → j ≤ L → Sat m x (rows j)) → ∀ j, 0 < j → j ≤ L → Sat m x (upd rows (L + 1) row j) := fun x h j h0 hj => by rw [upd_ne _ _ (by omega)]; exact h j h0 hj
      have hlow' : ∀ x, (∀ j, 0 < j → j ≤ L → Sat m x (upd rows (L + 1) row j)) → ∀ j, 0 < j → j ≤ L → Sat m x (rows j) := fun x h j h0 hj => by have := h j h0 hj; rwa [upd_ne _ _ (by omega)] at this
      have hsT : ∀ x, Sat m x row → (∀ j, 0 < j → j ≤ L → Sat m x (rows j)) → Sat m x row := fun x h _ => h
      cases h1 : addS m L (upd rows (L + 1) row) T with
      | none =>
        refine ⟨fun r h => (by cases h), fun _ x hx h => ?_⟩
        have hre := (sat x).1 ⟨h.1 (L + 1) (by omega) (Nat.le_refl _), h.2⟩
        refine n1 h1 x hx ⟨hlow x (fun j h0 hj => h.1 j h0 (by omega)), ?_⟩
        unfold Sat
        rw [hvT x]
        have hv := hre.1
        unfold Sat at hv
        rw [low_val h10 v1 x] at hv
        have : m / gcdI m (co row (L + 1)) * (low row (L + 1) x + co row (L + 1) * x (L + 1)) % m = 0 := by rw [Int.mul_emod, hv]; simp
        rw [Int.mul_add, Int.add_emod, show m / gcdI m (co row (L + 1)) * (co row (L + 1) * x (L + 1)) = m / gcdI m (co row (L + 1)) * co row (L + 1) * x (L + 1) by grind, Int.mul_emod (m / gcdI m (co row (L + 1)) * co row (L + 1)), hz] at this
        simpa using this
      | some r2 =>
        dsimp only
        have A1 := s1 r2 h1
        have hTsat : ∀ x, Sat m x row → Sat m x T := fun x h => by
          unfold Sat at h ⊢
          rw [hvT x]
          rw [low_val h10 v1 x] at h
          have : m / gcdI m (co row (L + 1)) * (low row (L + 1) x + co row (L + 1) * x (L + 1)) % m = 0 := by rw [Int.mul_emod, h]; simp
          rw [Int.mul_add, Int.add_emod, show m / gcdI m (co row (L + 1)) * (co row (L + 1) * x (L + 1)) = m / gcdI m (co row (L + 1)) * co row (L + 1) * x (L + 1) by grind, Int.mul_emod (m / gcdI m (co row (L + 1)) * co row (L + 1)), hz] at this
          simpa using this
        obtain ⟨s2, n2⟩ := addS_ok m1 m2 L r2 e' A1.tri o2 hel (by omega)
        constructor
        · intro r3 h2
          have A2 := s2 r3 h2
          have hK : r3 (L + 1) = row := by rw [A2.over _ (by omega), A1.over _ (by omega), upd_at]
          refine ⟨A2.tri, fun k hk => ?_, fun x hx => ⟨fun h => ?_, fun h => ?_⟩, fun hc k h0 hk => ?_⟩
          · rw [A2.over k (by omega), A1.over k (by omega), upd_ne _ _ (by omega)]
          · have a := (A2.sat x hx).1 (fun j h0 hj => h j h0 (by omega))
            have b := (A1.sat x hx).1 a.1
            have c := h (L + 1) (by omega) (Nat.le_refl _)
            rw [hK] at c
            have d := (sat x).2 ⟨c, a.2⟩
            refine ⟨fun j h0 hj => ?_, d.2⟩
            by_cases hjk : j = L + 1
            · rw [hjk]; exact d.1
            · exact hlow' x b.1 j h0 (by omega)
          · have d := (sat x).1 ⟨h.1 (L + 1) (by omega) (Nat.le_refl _), h.2⟩
            have b := (A1.sat x hx).2 ⟨hlow x (fun j h0 hj => h.1 j h0 (by omega)), hTsat x d.1⟩
            have a := (A2.sat x hx).2 ⟨b, d.2⟩
            intro j h0 hj
            by_cases hjk : j = L + 1
            · rw [hjk, hK]; exact d.1
            · exact a j h0 (by omega)
          · by_cases hkL : k = L + 1
            · subst hkL
              intro x hx hs
              rw [hK]
              have a := (A2.sat x hx).1 (fun j h0 hj => hs j h0 (by omega))
              have b := (A1.sat x hx).1 a.1
              have := b.2
              unfold Sat at this
              rw [hvT x] at this
              exact this
            · exact A2.clo (A1.clo (fun q q0 hq => Clo.congr (fun j _ hj => upd_ne _ _ (by omega)) q0 (hc q q0 (by omega)))) k h0 (by omega)
        · intro h2 x hx h
          have d := (sat x).1 ⟨h.1 (L + 1) (by omega) (Nat.le_refl _), h.2⟩
          have b := (A1.sat x hx).2 ⟨hlow x (fun j h0 hj => h.1 j h0 (by omega)), hTsat x d.1⟩
          exact n2 h2 x hx ⟨b, d.2⟩
    · rw [if_neg hlast]
      obtain ⟨s1, n1⟩ := addS_ok m1 m2 L rows e hT he (by omega) (by omega)
      refine ⟨fun r h => ?_, fun h x hx hh => n1 h x hx ⟨fun j h0 hj => hh.1 j h0 (by omega), hh.2⟩⟩
      have A := s1 r h
      have hK : r (L + 1) = rows (L + 1) := A.over _ (by omega)
      refine ⟨A.tri, fun k hk => A.over k (by omega), fun x hx => ⟨fun h => ?_, fun h => ?_⟩, fun hc k h0 hk => ?_⟩
      · have a := (A.sat x hx).1 (fun j h0 hj => h j h0 (by omega))
        refine ⟨fun j h0 hj => ?_, a.2⟩
        by_cases hjk : j = L + 1
        · subst hjk
          rw [← hK]
          exact h (L + 1) h0 hj
        · exact a.1 j h0 (by omega)
      · have a := (A.sat x hx).2 ⟨fun j h0 hj => h.1 j h0 (by omega), h.2⟩
        intro j h0 hj
        by_cases hjk : j = L + 1
        · subst hjk
          rw [hK]
          exact h.1 (L + 1) h0 hj
        · exact a j h0 (by omega)
      · by_cases hkL : k = L + 1
        · subst hkL
          intro x hx hs
          rw [hK]
          exact hc (L + 1) h0 hk x hx (fun j h0 hj => ((A.sat x hx).1 (fun q q0 hq => hs q q0 (by omega))).1 j h0 (by omega))
        · exact A.clo (fun q q0 hq => hc q q0 (by omega)) k h0 (by omega)
end Sys
end Go.Proofs.YtfhdgcndiljjcaaGreatDoor

/- Plain number theory: the least solution of a linear equation. No program in sight. -/
namespace Go.Proofs.YtfhdgcndiljjcaaGreatDoor
namespace Num

theorem sol_none {m a b g : Int} (h1 : g ∣ a) (h2 : g ∣ m) (hb : ¬ g ∣ b) (y : Int) : ¬ a * y % m = b := by
  intro h
  apply hb
  have h3 := Int.emod_add_mul_ediv (a * y) m
  rw [h] at h3
  obtain ⟨p, rfl⟩ := h1
  obtain ⟨q, rfl⟩ := h2
  exact ⟨p * y - q * (g * p * y / (g * q)), by grind⟩

theorem sol_some {m a b g x : Int} (hg : 0 < g) (hm : 0 < m) (h1 : g ∣ a) (h2 : g ∣ m) (hx : m ∣ a * x - g) (hb0 : 0 ≤ b) (hb1 : b < m) (hb : g ∣ b) :
    0 < m / g ∧ 0 ≤ b / g * x % (m / g) ∧ b / g * x % (m / g) < m / g ∧ m / g ≤ m ∧ a * (b / g * x % (m / g)) % m = b ∧ (∀ y, 0 ≤ y → y < b / g * x % (m / g) → ¬ a * y % m = b) := by
  obtain ⟨a', rfl⟩ := h1
  obtain ⟨m', rfl⟩ := h2
  obtain ⟨b', rfl⟩ := hb
  rw [Int.mul_ediv_cancel_left _ (by omega), Int.mul_ediv_cancel_left _ (by omega)]
  have hm' : 0 < m' := by
    apply Classical.byContradiction
    intro h
    have := Int.mul_nonpos_of_nonneg_of_nonpos (show 0 ≤ g by omega) (show m' ≤ 0 by omega)
    omega
  have hle : m' ≤ g * m' := by
    have := Int.mul_le_mul_of_nonneg_right (show 1 ≤ g by omega) (show 0 ≤ m' by omega)
    omega
  have r1 := Int.emod_nonneg (b' * x) (show m' ≠ 0 by omega)
  have r2 := Int.emod_lt_of_pos (b' * x) hm'
  have r3 := Int.emod_add_mul_ediv (b' * x) m'
  obtain ⟨u, hu⟩ := hx
  have hu' : a' * x - 1 = m' * u := by
    have : g * (a' * x - 1) = g * (m' * u) := by grind
    exact Int.eq_of_mul_eq_mul_left (by omega) this
  generalize b' * x % m' = y0 at *
  generalize b' * x / m' = q at *
  refine ⟨hm', r1, r2, hle, ?_, fun y hy0 hy1 hy => ?_⟩
  · have e : g * a' * y0 = g * b' + g * m' * (b' * u - a' * q) := by
      have : a' * y0 = b' + m' * (b' * u - a' * q) := by grind
      grind
    rw [e, Int.add_mul_emod_self_left, Int.emod_eq_of_lt hb0 hb1]
  · have h3 := Int.emod_add_mul_ediv (g * a' * y) (g * m')
    rw [hy] at h3
    generalize g * a' * y / (g * m') = v at *
    have h4 : b' + m' * v = a' * y := by
      have : g * (b' + m' * v) = g * (a' * y) := by grind
      exact Int.eq_of_mul_eq_mul_left (by omega) this
    have h5 : y0 - y = m' * (u * y - v * x - q) := by grind
    have h6 : m' ∣ y0 - y := ⟨_, h5⟩
    have := Int.le_of_dvd (by omega) h6
    omega

end Num
end Go.Proofs.YtfhdgcndiljjcaaGreatDoor

/- Contracts of SolveModulo, of the program and of the model. -/
namespace Go.Proofs.YtfhdgcndiljjcaaGreatDoor
open Go.RowKit Go.WideShapes Go.ChangeShapes Go.ChangeAt

/-- the least solution, and the code -/
def solM (m a b : Int) : Int × Int :=
  if codeN m [a, b] = 0 then (if gcdI a m ∣ b then (b / gcdI a m * (egI m a).2 % (m / gcdI a m), 0) else (0, 4)) else (0, codeN m [a, b])

theorem gcdI_facts {m a : Int} (h1 : 2 ≤ m) (h2 : m ≤ 10000) : 1 ≤ gcdI a m ∧ gcdI a m ≤ m ∧ gcdI a m ∣ a ∧ gcdI a m ∣ m := by
  have hd : gcdI a m ∣ m := by
    unfold gcdI; exact Int.ofNat_dvd_left.2 (Nat.gcd_dvd_right _ _)
  refine ⟨?_, Int.le_of_dvd (by omega) hd, ?_, hd⟩
  · have : 0 < Nat.gcd a.natAbs m.natAbs := Nat.gcd_pos_of_pos_right _ (by omega)
    unfold gcdI; omega
  · unfold gcdI; exact Int.ofNat_dvd_left.2 (Nat.gcd_dvd_left _ _)

end Go.Proofs.YtfhdgcndiljjcaaGreatDoor

/- Plain facts: the least solution of a triangular system, number by number. -/
namespace Go.Proofs.YtfhdgcndiljjcaaGreatDoor
open Go.RowKit

namespace Sys
open Ser
/-- the least number with c times it equal to b, and whether there is one -/
theorem sol_facts {m c b : Int} (m1 : 2 ≤ m) (m2 : m ≤ 10000) (c0 : 0 ≤ c) (c1 : c < m) (b0 : 0 ≤ b) (b1 : b < m) :
    (gcdI m c ∣ b → (solM m c b).2 = 0 ∧ 0 ≤ (solM m c b).1 ∧ (solM m c b).1 < m ∧ c * (solM m c b).1 % m = b ∧ ∀ y, 0 ≤ y → y < (solM m c b).1 → ¬ c * y % m = b) ∧
    (¬ gcdI m c ∣ b → (solM m c b).2 = 4 ∧ ∀ y, ¬ c * y % m = b) := by
  have hg : gcdI c m = gcdI m c := by unfold gcdI; rw [Nat.gcd_comm]
  obtain ⟨g1, g2, g3, g4⟩ := gcdI_facts (a := c) m1 m2
  obtain ⟨-, e2, -, -⟩ := eg_fact m c c0 c1
  have h0 : codeN m [c, b] = 0 := (codeN_two m c b).2 ⟨m1, m2, c0, c1, b0, b1⟩
  rw [← hg]
  constructor
  · intro hd
    obtain ⟨s1, s2, s3, s4, s5, s6⟩ := Num.sol_some (by omega) (by omega) g3 g4 e2 b0 b1 hd
    unfold solM
    rw [if_pos h0, if_pos hd]
    exact ⟨rfl, s2, by dsimp only; omega, s5, s6⟩
  · intro hd
    unfold solM
    rw [if_pos h0, if_neg hd]
    exact ⟨rfl, fun y => Num.sol_none g3 g4 hd y⟩
def want (m : Int) (e : List Int) (k : Nat) (x : Nat → Int) : Int := -(low e k x) % m
def pick (m : Int) (e : List Int) (k : Nat) (x : Nat → Int) : Int := (solM m (co e k) (want m e k x)).1
/-- the numbers found up to k -/
def grd (m : Int) (rows : Nat → List Int) : Nat → Nat → Int
  | 0 => fun i => if i = 0 then 1 else 0
  | k + 1 => fun i => if i = k + 1 then pick m (rows (k + 1)) (k + 1) (grd m rows k) else grd m rows k i
theorem grd_keep (m : Int) (rows : Nat → List Int) {k i : Nat} (h : i ≤ k) : grd m rows (k + 1) i = grd m rows k i := if_neg (by omega)
theorem grd_zero (m : Int) (rows : Nat → List Int) : ∀ k, grd m rows k 0 = 1
  | 0 => rfl
  | k + 1 => (grd_keep m rows (Nat.zero_le k)).trans (grd_zero m rows k)
theorem grd_over (m : Int) (rows : Nat → List Int) : ∀ k i, k < i → grd m rows k i = 0
  | 0, i, h => if_neg (by omega)
  | k + 1, i, h => (show grd m rows (k + 1) i = grd m rows k i from if_neg (by omega)).trans (grd_over m rows k i (by omega))
theorem grd_at (m : Int) (rows : Nat → List Int) (k : Nat) : grd m rows (k + 1) (k + 1) = pick m (rows (k + 1)) (k + 1) (grd m rows k) := if_pos rfl
theorem low_congr {e : List Int} {k : Nat} {x y : Nat → Int} (h : ∀ i, i < k → x i = y i) : low e k x = low e k y := psum_ext k (fun i hi => by rw [h i hi])
theorem want_bd {m : Int} (hm : 0 < m) (e : List Int) (k : Nat) (x : Nat → Int) : 0 ≤ want m e k x ∧ want m e k x < m := ⟨Int.emod_nonneg _ (by omega), Int.emod_lt_of_pos _ hm⟩
theorem sat_iff {m : Int} {e : List Int} {k : Nat} (hk : k ≤ 10) (h : ∀ j, k < j → co e j = 0) (x : Nat → Int) : Sat m x e ↔ co e k * x k % m = want m e k x := by
  unfold Sat want
  rw [low_val hk h x]
  constructor
  · intro hs
    have h1 : m ∣ low e k x + co e k * x k := Int.dvd_of_emod_eq_zero hs
    obtain ⟨t, ht⟩ := h1
    rw [show co e k * x k = -low e k x + m * t by omega, Int.add_mul_emod_self_left]
  · intro hs
    rw [Int.add_emod, hs, ← Int.add_emod, show low e k x + -low e k x = 0 by omega]
    exact Int.zero_emod m
theorem clo_dvd {m c l : Int} (m1 : 2 ≤ m) (h : m / gcdI m c * l % m = 0) : gcdI m c ∣ l := by
  obtain ⟨g1, ⟨q, hq⟩, -⟩ := gcd_facts m1 c
  obtain ⟨G, hG⟩ : ∃ G, gcdI m c = G := ⟨_, rfl⟩
  rw [hG] at h hq g1 ⊢
  subst hq
  rw [Int.mul_ediv_cancel_left _ (by omega)] at h
  obtain ⟨t, ht⟩ := Int.dvd_of_emod_eq_zero h
  have hq0 : q ≠ 0 := by rintro rfl; omega
  exact ⟨t, Int.eq_of_mul_eq_mul_left hq0 (by rw [ht]; grind)⟩
theorem dvd_want {m c l : Int} (h1 : gcdI m c ∣ m) (h : gcdI m c ∣ l) : gcdI m c ∣ -l % m := by
  have h2 := Int.emod_add_mul_ediv (-l) m
  have h3 : gcdI m c ∣ m * (-l / m) := Int.dvd_trans h1 (Int.dvd_mul_right _ _)
  rw [show -l % m = -l - m * (-l / m) by omega]
  exact Int.dvd_sub (Int.dvd_neg.2 h) h3
structure Least (m : Int) (S : (Nat → Int) → Prop) (x : Nat → Int) : Prop where
  one : x 0 = 1
  bd : ∀ k, 0 < k → k ≤ 10 → 0 ≤ x k ∧ x k < m
  sat : S x
  least : ∀ y : Nat → Int, y 0 = 1 → S y → ∀ k, 0 < k → k ≤ 10 → (∀ j, j < k → y j = x j) → 0 ≤ y k → x k ≤ y k
/-- the numbers found fit, and are the least ones -/
theorem grd_ok {m : Int} (m1 : 2 ≤ m) (m2 : m ≤ 10000) {rows : Nat → List Int} (hT : Tri m rows) (hC : ∀ k, 0 < k → k ≤ 10 → Clo m rows k) :
    ∀ k, k ≤ 10 → (∀ j, 0 < j → j ≤ k → 0 ≤ grd m rows k j ∧ grd m rows k j < m ∧ Sat m (grd m rows k) (rows j) ∧ (solM m (co (rows j) j) (want m (rows j) j (grd m rows k))).2 = 0)
  | 0, _ => fun j h0 hj => absurd hj (by omega)
  | k + 1, hk => by
    have ih := grd_ok m1 m2 hT hC k (by omega)
    have hc := hC (k + 1) (by omega) hk (grd m rows k) (grd_zero m rows k) (fun j h0 hj => (ih j h0 (by omega)).2.2.1)
    have hr := (hT.ok (k + 1)).red (k + 1)
    obtain ⟨g1, g2, g3⟩ := gcd_facts m1 (co (rows (k + 1)) (k + 1))
    have hd : gcdI m (co (rows (k + 1)) (k + 1)) ∣ want m (rows (k + 1)) (k + 1) (grd m rows k) := dvd_want g2 (clo_dvd m1 hc)
    obtain ⟨w1, w2⟩ := want_bd (m := m) (by omega) (rows (k + 1)) (k + 1) (grd m rows k)
    obtain ⟨s0, s1, s2, s3, -⟩ := (sol_facts m1 m2 hr.1 hr.2 w1 w2).1 hd
    have hlow : ∀ j, j ≤ k + 1 → low (rows j) j (grd m rows (k + 1)) = low (rows j) j (grd m rows k) := fun j hj => low_congr (fun i hi => grd_keep m rows (by omega))
    intro j h0 hj
    by_cases hjk : j = k + 1
    · subst hjk
      rw [grd_at]
      refine ⟨s1, s2, ?_, ?_⟩
      · rw [sat_iff hk (hT.tri _ h0), grd_at]
        unfold want at s3 ⊢
        rw [hlow _ (Nat.le_refl _)]
        exact s3
      · unfold want at s0 ⊢
        rw [hlow _ (Nat.le_refl _)]
        exact s0
    · obtain ⟨i1, i2, i3, i4⟩ := ih j h0 (by omega)
      rw [grd_keep m rows (by omega)]
      refine ⟨i1, i2, ?_, ?_⟩
      · rw [sat_iff (by omega) (hT.tri _ h0)] at i3 ⊢
        rw [grd_keep m rows (by omega)]
        unfold want at i3 ⊢
        rw [hlow _ (by omega)]
        exact i3
      · unfold want at i4 ⊢
        rw [hlow _ (by omega)]
        exact i4
theorem grd_least {m : Int} (m1 : 2 ≤ m) (m2 : m ≤ 10000) {rows : Nat → List Int} (hT : Tri m rows) (hC : ∀ k, 0 < k → k ≤ 10 → Clo m rows k) :
    Least m (fun x => ∀ j, 0 < j → j ≤ 10 → Sat m x (rows j)) (grd m rows 10) := by
  have h10 := grd_ok m1 m2 hT hC 10 (Nat.le_refl _)
  refine ⟨grd_zero m rows 10, fun k h0 hk => ⟨(h10 k h0 hk).1, (h10 k h0 hk).2.1⟩, fun j h0 hj => (h10 j h0 hj).2.2.1, fun y hy hS k h0 hk he h => ?_⟩
  have hs := hS k h0 hk
  rw [sat_iff hk (hT.tri _ h0)] at hs
  have hr := (hT.ok k).red k
  obtain ⟨w1, w2⟩ := want_bd (m := m) (by omega) (rows k) k y
  have hw : want m (rows k) k y = want m (rows k) k (grd m rows 10) := by unfold want; rw [low_congr he]
  apply Classical.byContradiction
  intro hlt
  have hd : gcdI m (co (rows k) k) ∣ want m (rows k) k y := by
    apply Classical.byContradiction
    intro hn
    exact ((sol_facts m1 m2 hr.1 hr.2 w1 w2).2 hn).2 (y k) hs
  have hx : grd m rows 10 k = (solM m (co (rows k) k) (want m (rows k) k y)).1 := by
    have key : ∀ n, k ≤ n → n ≤ 10 → grd m rows n k = grd m rows k k := by
      intro n hn _
      obtain ⟨q, rfl⟩ : ∃ q, n = k + q := ⟨n - k, by omega⟩
      induction q with
      | zero => rfl
      | succ q ih => rw [← Nat.add_assoc, grd_keep m rows (by omega)]; exact ih (by omega) (by omega)
    have key2 : ∀ i, i < k → grd m rows 10 i = grd m rows (k - 1) i := by
      intro i hi
      have : ∀ q, k - 1 + q ≤ 10 → grd m rows (k - 1 + q) i = grd m rows (k - 1) i := by
        intro q
        induction q with
        | zero => intro _; rfl
        | succ q ih => intro h; rw [← Nat.add_assoc, grd_keep m rows (by omega)]; exact ih (by omega)
      have h2 := this (10 - (k - 1)) (by omega)
      rw [show k - 1 + (10 - (k - 1)) = 10 by omega] at h2
      exact h2
    rw [key 10 hk (Nat.le_refl _)]
    obtain ⟨q, rfl⟩ : ∃ q, k = q + 1 := ⟨k - 1, by omega⟩
    rw [grd_at, hw]
    unfold pick want
    rw [low_congr (x := grd m rows 10) (y := grd m rows q) (fun i hi => key2 i hi)]
  obtain ⟨-, -, -, -, s4⟩ := (sol_facts m1 m2 hr.1 hr.2 w1 w2).1 hd
  exact s4 (y k) h (by rw [← hx]; omega) hs
/-- least solutions of one and the same are equal -/
theorem Least.unique {m : Int} {S : (Nat → Int) → Prop} {x y : Nat → Int} (hx : Least m S x) (hy : Least m S y) : ∀ k, k ≤ 10 → x k = y k := by
  intro k
  induction k using Nat.strongRecOn with
  | _ k ih =>
    intro hk
    by_cases h0 : k = 0
    · rw [h0, hx.one, hy.one]
    · have a := hx.least y hy.one hy.sat k (by omega) hk (fun j hj => (ih j hj (by omega)).symm) (hy.bd k (by omega) hk).1
      have b := hy.least x hx.one hx.sat k (by omega) hk (fun j hj => ih j hj (by omega)) (hx.bd k (by omega) hk).1
      omega
theorem Least.congr {m : Int} {S S' : (Nat → Int) → Prop} {x : Nat → Int} (h : ∀ y : Nat → Int, y 0 = 1 → (S y ↔ S' y)) (hx : Least m S x) : Least m S' x :=
  ⟨hx.one, hx.bd, (h x hx.one).1 hx.sat, fun y hy hS k h0 hk he => hx.least y hy ((h y hy).2 hS) k h0 hk he⟩
/-- all equations of a list put into an empty system -/
def addAll (m : Int) (rows : Nat → List Int) : List (List Int) → Option (Nat → List Int)
  | [] => some rows
  | e :: es => match addS m 10 rows e with
    | none => none
    | some r => addAll m r es
def none0 : Nat → List Int := fun _ => List.replicate 11 0
theorem tri0 {m : Int} (hm : 0 < m) : Tri m none0 := ⟨fun _ => ⟨by unfold none0; rw [List.length_replicate], fun i => by unfold none0; rw [co_zeros]; omega⟩, fun _ _ _ _ => by unfold none0; rw [co_zeros]⟩
theorem sat0 (m : Int) (x : Nat → Int) (k : Nat) : Sat m x (none0 k) := by
  unfold Sat val none0
  rw [show psum (fun i => co (List.replicate 11 0) i * x i) 11 = psum (fun _ => 0) 11 from psum_ext 11 (fun i _ => by rw [co_zeros]; omega), psum_zero]
  exact Int.zero_emod m
theorem clo0 (m : Int) (k : Nat) : Clo m none0 k := by
  intro x _ _
  rw [show low (none0 k) k x = 0 by
    unfold low none0
    rw [show psum (fun i => co (List.replicate 11 0) i * x i) k = psum (fun _ => 0) k from psum_ext k (fun i _ => by rw [co_zeros]; omega), psum_zero]]
  simp
theorem addAll_ok {m : Int} (m1 : 2 ≤ m) (m2 : m ≤ 10000) : ∀ (es : List (List Int)) (rows : Nat → List Int), Tri m rows → (∀ k, 0 < k → k ≤ 10 → Clo m rows k) → (∀ e ∈ es, Ok m e) →
    (∀ r, addAll m rows es = some r → Tri m r ∧ (∀ k, 0 < k → k ≤ 10 → Clo m r k) ∧ ∀ x : Nat → Int, x 0 = 1 → ((∀ j, 0 < j → j ≤ 10 → Sat m x (r j)) ↔ ((∀ j, 0 < j → j ≤ 10 → Sat m x (rows j)) ∧ ∀ e ∈ es, Sat m x e))) ∧
    (addAll m rows es = none → ∀ x : Nat → Int, x 0 = 1 → ¬ ((∀ j, 0 < j → j ≤ 10 → Sat m x (rows j)) ∧ ∀ e ∈ es, Sat m x e))
  | [], rows, hT, hC, _ => by
    unfold addAll
    refine ⟨fun r h => ?_, fun h => (by cases h)⟩
    injection h with h
    subst h
    exact ⟨hT, hC, fun x _ => ⟨fun h => ⟨h, fun e he => by cases he⟩, fun h => h.1⟩⟩
  | e :: es, rows, hT, hC, hO => by
    have hO' := fun f hf => hO f (List.mem_cons_of_mem _ hf)
    obtain ⟨s1, n1⟩ := addS_ok m1 m2 10 rows e hT (hO e (List.mem_cons_self)) (lastF_le e 10) (Nat.le_refl _)
    unfold addAll
    cases h1 : addS m 10 rows e with
    | none =>
      exact ⟨fun r h => (by cases h), fun _ x hx h => n1 h1 x hx ⟨h.1, h.2 e (List.mem_cons_self)⟩⟩
    | some r1 =>
      have A := s1 r1 h1
      obtain ⟨s2, n2⟩ := addAll_ok m1 m2 es r1 A.tri (A.clo hC) hO'
      dsimp only
      refine ⟨fun r h => ?_, fun h x hx hh => n2 h x hx ⟨(A.sat x hx).2 ⟨hh.1, hh.2 e (List.mem_cons_self)⟩, fun f hf => hh.2 f (List.mem_cons_of_mem _ hf)⟩⟩
      obtain ⟨t1, t2, t3⟩ := s2 r h
      refine ⟨t1, t2, fun x hx => ?_⟩
      rw [t3 x hx, A.sat x hx]
      constructor
      · rintro ⟨⟨a, b⟩, c⟩
        refine ⟨a, fun f hf => ?_⟩
        rcases List.mem_cons.1 hf with rfl | hf
        · exact b
        · exact c f hf
      · rintro ⟨a, b⟩
        exact ⟨⟨a, b e (List.mem_cons_self)⟩, fun f hf => b f (List.mem_cons_of_mem _ hf)⟩
/-- the model of leastSolution: the numbers at 1 to 10, if there are any -/
def leastS (m : Int) (es : List (List Int)) : Option (Nat → Int) := (addAll m none0 es).map fun r => grd m r 10
theorem leastS_some {m : Int} (m1 : 2 ≤ m) (m2 : m ≤ 10000) {es : List (List Int)} (hO : ∀ e ∈ es, Ok m e) {x : Nat → Int} (h : leastS m es = some x) : Least m (fun y => ∀ e ∈ es, Sat m y e) x := by
  unfold leastS at h
  cases h1 : addAll m none0 es with
  | none => rw [h1] at h; cases h
  | some r =>
    rw [h1] at h
    injection h with h
    subst h
    obtain ⟨t1, t2, t3⟩ := (addAll_ok m1 m2 es none0 (tri0 (by omega)) (fun k _ _ => clo0 m k) hO).1 r h1
    exact (grd_least m1 m2 t1 t2).congr (fun y hy => by
      rw [t3 y hy]
      exact ⟨fun h => h.2, fun h => ⟨fun j _ _ => sat0 m y j, h⟩⟩)
theorem leastS_none {m : Int} (m1 : 2 ≤ m) (m2 : m ≤ 10000) {es : List (List Int)} (hO : ∀ e ∈ es, Ok m e) (h : leastS m es = none) (y : Nat → Int) (hy : y 0 = 1) : ¬ ∀ e ∈ es, Sat m y e := by
  unfold leastS at h
  cases h1 : addAll m none0 es with
  | none => exact fun hh => (addAll_ok m1 m2 es none0 (tri0 (by omega)) (fun k _ _ => clo0 m k) hO).2 h1 y hy ⟨fun j _ _ => sat0 m y j, hh⟩
  | some r => rw [h1] at h; cases h
end Sys
end Go.Proofs.YtfhdgcndiljjcaaGreatDoor

/- Plain number theory: numbers of choices. No program in sight. -/
namespace Go.Proofs.YtfhdgcndiljjcaaGreatDoor
namespace Num

/-- the number of ways to choose k of n things -/
def bin : Nat → Nat → Nat
  | _, 0 => 1
  | 0, _ + 1 => 0
  | n + 1, k + 1 => bin n k + bin n (k + 1)
theorem bin_zero (n : Nat) : bin n 0 = 1 := by cases n <;> rfl
theorem bin_succ (n k : Nat) : bin (n + 1) (k + 1) = bin n k + bin n (k + 1) := rfl
theorem bin_mul (n : Nat) : ∀ k, (k + 1) * bin n (k + 1) + k * bin n k = n * bin n k := by
  induction n with
  | zero =>
    intro k
    cases k <;> simp [bin]
  | succ n ih =>
    intro k
    cases k with
    | zero =>
      have h := ih 0
      rw [bin_zero] at h ⊢
      rw [bin_succ, bin_zero]
      omega
    | succ k =>
      have h1 := ih k
      have h2 := ih (k + 1)
      rw [bin_succ, bin_succ]
      generalize bin n k = b0 at *
      generalize bin n (k + 1) = b1 at *
      generalize bin n (k + 1 + 1) = b2 at *
      grind
theorem bin_over (n : Nat) : ∀ k, n < k → bin n k = 0 := by
  induction n with
  | zero => intro k h; cases k with
    | zero => omega
    | succ k => rfl
  | succ n ih => intro k h; cases k with
    | zero => omega
    | succ k => rw [bin_succ, ih k (by omega), ih (k + 1) (by omega)]
theorem bin_self (n : Nat) : bin n n = 1 := by
  induction n with
  | zero => rfl
  | succ n ih => rw [bin_succ, ih, bin_over n (n + 1) (by omega)]
theorem bin_pos (n : Nat) : ∀ k, k ≤ n → 0 < bin n k := by
  induction n with
  | zero => intro k h; obtain rfl : k = 0 := by omega
            exact Nat.one_pos
  | succ n ih => intro k h; cases k with
    | zero => rw [bin_zero]; omega
    | succ k => rw [bin_succ]; have := ih k (by omega); omega
theorem bin_mono (n k : Nat) : bin n k ≤ bin (n + 1) k := by
  cases k with
  | zero => rw [bin_zero, bin_zero]; omega
  | succ k => rw [bin_succ]; omega
theorem bin_mono' (n k : Nat) : ∀ d, bin n k ≤ bin (n + d) k
  | 0 => Nat.le_refl _
  | d + 1 => Nat.le_trans (bin_mono' n k d) (bin_mono (n + d) k)

/-- a row of the triangle, quickly -/
def rowL : Nat → List Nat
  | 0 => [1]
  | n + 1 => List.zipWith (· + ·) (0 :: rowL n) (rowL n ++ [0])
theorem rowL_length : ∀ n, (rowL n).length = n + 1
  | 0 => rfl
  | n + 1 => by simp [rowL, rowL_length n]
theorem rowL_get : ∀ n k, k ≤ n → (rowL n)[k]? = some (bin n k)
  | 0, k, h => by obtain rfl : k = 0 := by omega
                  rfl
  | n + 1, k, h => by
    have hl := rowL_length n
    rw [rowL, List.getElem?_zipWith]
    cases k with
    | zero =>
      have h0 := rowL_get n 0 (by omega)
      rw [List.getElem?_append_left (by omega), h0, bin_zero, bin_zero]
      rfl
    | succ k =>
      rw [List.getElem?_cons_succ, rowL_get n k (by omega)]
      by_cases hk : k + 1 ≤ n
      · rw [List.getElem?_append_left (by omega), rowL_get n (k + 1) hk, bin_succ]
      · obtain rfl : k = n := by omega
        rw [List.getElem?_append_right (by omega), hl, Nat.sub_self, bin_succ, bin_over k (k + 1) (by omega)]
        rfl
theorem row60 : (rowL 60).all (fun x => decide (x ≤ 118264581564861424)) = true := by decide +kernel
theorem bin_le (n k : Nat) (hn : n ≤ 60) : bin n k ≤ 118264581564861424 := by
  by_cases hk : k ≤ 60
  · have h1 := bin_mono' n k (60 - n)
    rw [show n + (60 - n) = 60 by omega] at h1
    have h2 := rowL_get 60 k hk
    have h3 := List.all_eq_true.1 row60 _ (List.mem_of_getElem? h2)
    have h4 := of_decide_eq_true h3
    omega
  · rw [bin_over n k (by omega)]; omega
/-- a step of the product -/
theorem bin_next {n k : Nat} (h : k < n) : bin n k * (n - k) = bin n (k + 1) * (k + 1) := by
  have h1 := bin_mul n k
  have h2 : n * bin n k = (n - k) * bin n k + k * bin n k := by rw [← Nat.add_mul]; congr 1; omega
  rw [Nat.mul_comm (bin n k), Nat.mul_comm (bin n (k + 1))]
  omega
theorem bin_step {n k : Nat} (h : k < n) : bin n k * (n - k) / (k + 1) = bin n (k + 1) := by
  rw [bin_next h, Nat.mul_div_cancel _ (by omega)]
theorem bin_prod {n k : Nat} (hn : n ≤ 60) : bin n k * (n - k) ≤ 118264581564861424 * 60 := Nat.mul_le_mul (bin_le n k hn) (by omega)

end Num
end Go.Proofs.YtfhdgcndiljjcaaGreatDoor

/- Contracts of the two binomial functions. -/
namespace Go.Proofs.YtfhdgcndiljjcaaGreatDoor
open Go.RowKit Go.WideShapes Go.ChangeShapes Go.ChangeAt

/-- the number of ways to choose k of n things -/
def binI (n k : Int) : Int := (Num.bin n.toNat k.toNat : Nat)
theorem binI_bd {n k : Int} (hn : n ≤ 60) : 0 ≤ binI n k ∧ binI n k ≤ 118264581564861424 := by
  have := Num.bin_le n.toNat k.toNat (by omega)
  unfold binI; omega

/-- the beginning of a row of the triangle -/
def rowI (n j : Nat) : List Int := (List.range j).map fun i => ((Num.bin n i : Nat) : Int)
theorem rowI_length (n j : Nat) : (rowI n j).length = j := by simp [rowI]
theorem rowI_succ (n j : Nat) : rowI n (j + 1) = rowI n j ++ [((Num.bin n j : Nat) : Int)] := by simp [rowI, List.range_succ]
theorem rowI_one (n : Nat) : rowI n 1 = [1] := by simp [rowI, Num.bin_zero]
theorem rowI_get (n j i : Nat) (h : i < j) : (rowI n j)[i]?.getD 0 = ((Num.bin n i : Nat) : Int) := by simp [rowI, h]

end Go.Proofs.YtfhdgcndiljjcaaGreatDoor

/- Contracts of greatestDivisor and CommonDivisor, of the program and of the model. -/
namespace Go.Proofs.YtfhdgcndiljjcaaGreatDoor
open Go.RowKit Go.WideShapes Go.ChangeShapes Go.ChangeAt

end Go.Proofs.YtfhdgcndiljjcaaGreatDoor

/- Contracts of BinomialNumber and BinomialDivisor, of the program and of the model. -/
namespace Go.Proofs.YtfhdgcndiljjcaaGreatDoor
open Go.RowKit Go.WideShapes Go.ChangeShapes Go.ChangeAt


/-- the greatest common divisor of the first numbers of choices -/
def lz (n : Int) : Nat → Int
  | 0 => 0
  | k + 1 => gcdI (lz n k) (binI n (k + 1 : Nat))
theorem gcdI_le (a : Int) {b : Int} (hb : 0 < b) : 0 ≤ gcdI a b ∧ gcdI a b ≤ b := by
  have := Nat.le_of_dvd (show 0 < b.natAbs by omega) (Nat.gcd_dvd_right a.natAbs b.natAbs)
  unfold gcdI; omega
theorem lz_bd {n : Int} (h2 : n ≤ 60) : ∀ k : Nat, (k : Int) ≤ n → 0 ≤ lz n k ∧ lz n k ≤ 118264581564861424
  | 0, _ => by simp [lz]
  | k + 1, h => by
    have hp : 0 < binI n (k + 1 : Nat) := by
      have := Num.bin_pos n.toNat (k + 1) (by omega)
      unfold binI; simp only [Int.toNat_natCast]; omega
    have h3 := gcdI_le (lz n k) hp
    have h4 := binI_bd (k := (k + 1 : Nat)) h2
    rw [lz]; omega

end Go.Proofs.YtfhdgcndiljjcaaGreatDoor

/- Plain facts on the layers of Lazard's cocycles. -/
namespace Go.Proofs.YtfhdgcndiljjcaaGreatDoor
open Go.RowKit

/-- the coefficient of C(n) at x^i y^(n - i) -/
def layF (n i : Nat) : Int := if 0 < i ∧ i < n then (binI (n : Int) (i : Int)).tdiv (lz (n : Int) (n - 1)) else 0
/-- a layer as far as the program has written it: below k -/
def layP (n k : Nat) : List Int := (List.range (n + 1)).map fun i => if i < k then layF n i else 0
def layL (n : Nat) : List Int := (List.range (n + 1)).map (layF n)
theorem layL_length (n : Nat) : (layL n).length = n + 1 := by simp [layL]
theorem layP_length (n k : Nat) : (layP n k).length = n + 1 := by simp [layP]
theorem layP_co {n k i : Nat} (h : i ≤ n) : Ser.co (layP n k) i = if i < k then layF n i else 0 := by
  unfold Ser.co layP
  rw [List.getElem?_map, List.getElem?_range (by omega)]; rfl
theorem layL_co {n i : Nat} (h : i ≤ n) : Ser.co (layL n) i = layF n i := by
  unfold Ser.co layL
  rw [List.getElem?_map, List.getElem?_range (by omega)]; rfl
theorem layP_one (n : Nat) : layP n 1 = List.replicate (n + 1) 0 := by
  refine Ser.list_ext (by rw [layP_length, List.length_replicate]) (fun i hi => ?_)
  rw [layP_length] at hi
  rw [layP_co (by omega), Ser.co_zeros]
  by_cases h : i < 1
  · rw [if_pos h]; unfold layF; rw [if_neg (by omega)]
  · rw [if_neg h]
theorem layP_end (n : Nat) : layP n n = layL n := by
  refine Ser.list_ext (by rw [layP_length, layL_length]) (fun i hi => ?_)
  rw [layP_length] at hi
  rw [layP_co (by omega), layL_co (by omega)]
  by_cases h : i < n
  · rw [if_pos h]
  · rw [if_neg h]; unfold layF; rw [if_neg (by omega)]
theorem layP_step {n k : Nat} (h : k ≤ n) : (layP n k).set k (layF n k) = layP n (k + 1) := by
  refine Ser.list_ext (by rw [List.length_set, layP_length, layP_length]) (fun i hi => ?_)
  rw [List.length_set, layP_length] at hi
  rw [Ser.co_set (by rw [layP_length]; omega), layP_co (by omega), layP_co (by omega)]
  by_cases e : i = k
  · rw [if_pos e, if_pos (by omega), e]
  · rw [if_neg e]
    by_cases c : i < k
    · rw [if_pos c, if_pos (by omega)]
    · rw [if_neg c, if_neg (by omega)]
theorem layF_mid {n k : Nat} (h1 : 0 < k) (h2 : k < n) : layF n k = (binI (n : Int) (k : Int)).tdiv (lz (n : Int) (n - 1)) := by
  unfold layF; rw [if_pos ⟨h1, h2⟩]
theorem lz_pos {n : Int} : ∀ k : Nat, 0 < k → (k : Int) ≤ n → 0 < lz n k
  | 0, h, _ => absurd h (by omega)
  | k + 1, _, h => by
    have hp : 0 < binI n (k + 1 : Nat) := by
      have := Num.bin_pos n.toNat (k + 1) (by omega)
      unfold binI; simp only [Int.toNat_natCast]; omega
    rw [lz]
    unfold gcdI
    have := Nat.gcd_pos_of_pos_right (lz n k).natAbs (show 0 < (binI n (k + 1 : Nat)).natAbs by omega)
    omega
theorem layF_small : ∀ n : Fin 11, ∀ i : Fin 11, 0 ≤ layF n i ∧ layF n i ≤ 252 := by decide +kernel
theorem layF_bd {n i : Nat} (h : n ≤ 10) : 0 ≤ layF n i ∧ layF n i ≤ 252 := by
  by_cases hi : i ≤ 10
  · exact layF_small ⟨n, by omega⟩ ⟨i, by omega⟩
  · unfold layF; rw [if_neg (by omega)]; omega
/-- a layer as a table: 0 below the degree -/
def ofLay (d : Nat) (f : Nat → Int) : Nat → Nat → Int := fun i j => if i + j < d then 0 else f i
/-- the model's table, its rows below k written -/
def lazQ (n k : Nat) : Nat → Nat → Int := fun i j => if i < k then ofLay n (layF n) i j else 0
theorem lazQ_one (m : Int) (n : Nat) : Pl.tab m n (lazQ n 1) = Pl.tab m n fun _ _ => 0 := Pl.tab_congr (Pl.Eq.of m n (fun i j _ => by
  unfold lazQ ofLay layF
  by_cases h : i < 1
  · rw [if_pos h]; split
    · rfl
    · rw [if_neg (by omega)]
  · rw [if_neg h]))
theorem lazQ_end (m : Int) (n : Nat) : Pl.tab m n (lazQ n n) = Pl.tab m n (ofLay n (layF n)) := Pl.tab_congr (Pl.Eq.of m n (fun i j _ => by
  unfold lazQ
  by_cases h : i < n
  · rw [if_pos h]
  · rw [if_neg h]; unfold ofLay layF; split
    · rfl
    · rw [if_neg (by omega)]))
theorem lazQ_step {m : Int} {n k : Nat} (h2 : k < n) : (Pl.tab m n (lazQ n k)).set k ((Pl.rw' (Pl.tab m n (lazQ n k)) k).set (n - k) (layF n k % m)) = Pl.tab m n (lazQ n (k + 1)) := by
  refine Pl.tab_put (by omega) ?_ (fun i j hij hne => ?_)
  · unfold lazQ ofLay
    rw [if_pos (by omega), if_neg (by omega)]
  · unfold lazQ ofLay
    by_cases hi : i < k
    · rw [if_pos hi, if_pos (by omega)]
    · rw [if_neg hi]
      by_cases he : i < k + 1
      · rw [if_pos he, if_pos (by omega)]
      · rw [if_neg he]
/-- the table of C(n) -/
def lazT (m : Int) (n : Nat) : List (List Int) := Pl.tab m n (ofLay n (layF n))
/-- the model of LazardCocycle -/
def lazP (m n : Int) : Int × List (List Int) × Int :=
  if isM m = true then (if inB n 2 10 = true then (m, lazT m n.toNat, 0) else (0, [], 2)) else (0, [], 1)
/-- the number of laws of degree k + 1, if it is not too great -/
def cntO (m : Int) : Nat → Option Int
  | 0 => some 1
  | k + 1 => match cntO m k with
    | none => none
    | some c => if 1000000000000000000 / m < c then none else some (c * m)
theorem cntO_bd {m : Int} (m1 : 2 ≤ m) : ∀ k c, cntO m k = some c → 1 ≤ c ∧ c ≤ 1000000000000000000
  | 0, c, h => by simp [cntO] at h; omega
  | k + 1, c, h => by
    unfold cntO at h
    cases hk : cntO m k with
    | none => rw [hk] at h; simp at h
    | some b =>
      rw [hk] at h
      obtain ⟨b1, b2⟩ := cntO_bd m1 k b hk
      by_cases hb : 1000000000000000000 / m < b
      · simp [hb] at h
      · simp [hb] at h
        have h3 : b * m ≤ 1000000000000000000 := Int.le_trans (Int.mul_le_mul_of_nonneg_right (show b ≤ 1000000000000000000 / m by omega) (by omega)) (Int.ediv_mul_le _ (by omega))
        have h4 : 1 * 1 ≤ b * m := Int.mul_le_mul (by omega) (by omega) (by omega) (by omega)
        omega
theorem cntO_none {m : Int} {k : Nat} (h : cntO m k = none) (n : Nat) (hn : k ≤ n) : cntO m n = none := by
  obtain ⟨q, rfl⟩ : ∃ q, n = k + q := ⟨n - k, by omega⟩
  clear hn
  induction q with
  | zero => exact h
  | succ q ih => rw [← Nat.add_assoc]; unfold cntO; rw [ih]
def cntM (m d : Int) : Int × Int :=
  if isM m = true then (if inB d 1 10 = true then (match cntO m (d.toNat - 1) with
    | some c => (c, 0)
    | none => (0, 3)) else (0, 2)) else (0, 1)
end Go.Proofs.YtfhdgcndiljjcaaGreatDoor

/- Plain facts: what fulfils the equations of cocycles in one degree is a multiple of Lazard's cocycle (degrees 2 to 10, by integer certificates that the kernel checks). -/
namespace Go.Proofs.YtfhdgcndiljjcaaGreatDoor
open Go.RowKit

namespace Coc
/-- a linear form in p(1), p(2), .. -/
def lin : List Int → Nat → (Nat → Int) → Int
  | [], _, _ => 0
  | c :: r, i, p => c * p i + lin r (i + 1) p
def unit (n i : Nat) (c : Int) : List Int := (List.range n).map fun j => if j = i then c else 0
def add (a b : List Int) : List Int := List.zipWith (· + ·) a b
def smul (c : Int) (a : List Int) : List Int := a.map (c * ·)
theorem lin_add (p : Nat → Int) : ∀ (a b : List Int) (i : Nat), a.length = b.length → lin (add a b) i p = lin a i p + lin b i p
  | [], [], _, _ => rfl
  | x :: a, y :: b, i, h => by
    show (x + y) * p i + lin (add a b) (i + 1) p = x * p i + lin a (i + 1) p + (y * p i + lin b (i + 1) p)
    rw [lin_add p a b (i + 1) (by simpa using h), Int.add_mul]
    omega
  | [], _ :: _, _, h => by simp at h
  | _ :: _, [], _, h => by simp at h
theorem lin_smul (p : Nat → Int) (c : Int) : ∀ (a : List Int) (i : Nat), lin (smul c a) i p = c * lin a i p
  | [], _ => by show (0 : Int) = c * 0; omega
  | x :: a, i => by
    show (c * x) * p i + lin (smul c a) (i + 1) p = c * (x * p i + lin a (i + 1) p)
    rw [lin_smul p c a (i + 1), Int.mul_add, Int.mul_assoc]
/-- the equations: symmetry, and cocycles' -/
def symF (n i : Nat) : List Int := add (unit (n - 1) (i - 1) 1) (unit (n - 1) (n - i - 1) (-1))
def cocF (n a b : Nat) : List Int := add (unit (n - 1) (a + b - 1) (Num.bin (a + b) a : Nat)) (unit (n - 1) (a - 1) (-(Num.bin (n - a) b : Nat)))
def pairs (n : Nat) : List (Nat × Nat) := (List.range n).flatMap fun a => (List.range n).filterMap fun b => if 0 < a ∧ 0 < b ∧ a + b < n then some (a, b) else none
def syms (n : Nat) : List Nat := (List.range n).filter fun i => decide (0 < i ∧ 2 * i < n)
def forms (n : Nat) : List (List Int) := (syms n).map (symF n) ++ (pairs n).map (fun ab => cocF n ab.1 ab.2)
def comb (n : Nat) : List Int → List (List Int) → List Int
  | c :: K, f :: F => add (smul c f) (comb n K F)
  | _, _ => List.replicate n 0
theorem lin_unit (p : Nat → Int) (n i : Nat) (c : Int) (h : i < n) : lin (unit n i c) 1 p = c * p (i + 1) := by
  have key : ∀ (k s : Nat), lin ((List.range' s k).map fun j => if j = i then c else 0) (s + 1) p = if s ≤ i ∧ i < s + k then c * p (i + 1) else 0 := by
    intro k
    induction k with
    | zero => intro s; rw [if_neg (by omega)]; rfl
    | succ k ih =>
      intro s
      rw [List.range'_succ]
      show (if s = i then c else 0) * p (s + 1) + lin ((List.range' (s + 1) k).map fun j => if j = i then c else 0) (s + 1 + 1) p = _
      rw [ih (s + 1)]
      by_cases hs : s = i
      · rw [if_pos hs, if_neg (by omega), if_pos (by omega), hs]; omega
      · rw [if_neg hs]
        by_cases hi : s + 1 ≤ i ∧ i < s + 1 + k
        · rw [if_pos hi, if_pos (by omega)]; omega
        · rw [if_neg hi, if_neg (by omega)]; omega
  have := key n 0
  unfold unit
  rw [List.range_eq_range', this, if_pos (by omega)]
theorem unit_length (n i : Nat) (c : Int) : (unit n i c).length = n := by simp [unit]
theorem add_length {a b : List Int} {n : Nat} (ha : a.length = n) (hb : b.length = n) : (add a b).length = n := by simp [add, ha, hb]
theorem comb_length (n : Nat) : ∀ (K : List Int) (F : List (List Int)), (∀ f ∈ F, f.length = n) → (comb n K F).length = n
  | [], _, _ => by simp [comb]
  | _ :: _, [], _ => by simp [comb]
  | c :: K, f :: F, h => by
    unfold comb
    exact add_length (by simp [smul]; exact h f (List.mem_cons_self)) (comb_length n K F (fun g hg => h g (List.mem_cons_of_mem _ hg)))
theorem lin_zeros (p : Nat → Int) : ∀ (n i : Nat), lin (List.replicate n 0) i p = 0
  | 0, _ => rfl
  | n + 1, i => by
    rw [List.replicate_succ]
    show 0 * p i + lin (List.replicate n 0) (i + 1) p = 0
    rw [lin_zeros p n (i + 1)]; omega
theorem comb_zero (m : Int) (p : Nat → Int) (n : Nat) : ∀ (K : List Int) (F : List (List Int)), (∀ f ∈ F, f.length = n ∧ lin f 1 p % m = 0) → lin (comb n K F) 1 p % m = 0
  | [], _, _ => by unfold comb; rw [lin_zeros]; exact Int.zero_emod m
  | _ :: _, [], _ => by unfold comb; rw [lin_zeros]; exact Int.zero_emod m
  | c :: K, f :: F, h => by
    have ih := comb_zero m p n K F (fun g hg => h g (List.mem_cons_of_mem _ hg))
    obtain ⟨h1, h2⟩ := h f (List.mem_cons_self)
    unfold comb
    rw [lin_add p _ _ 1 (by rw [comb_length n K F (fun g hg => (h g (List.mem_cons_of_mem _ hg)).1)]; simp [smul, h1]), lin_smul, Int.add_emod, ih, Int.mul_emod, h2]
    simp
def uOf : Nat → List Int
  | 2 => [1]
  | 3 => [1, 0]
  | 4 => [-1, 1, 0]
  | 5 => [1, 0, 0, 0]
  | 6 => [-14, 7, -1, 0, 0]
  | 7 => [1, 0, 0, 0, 0, 0]
  | 8 => [51, -17, 0, 1, 0, 0, 0]
  | 9 => [-9, 0, 1, 0, 0, 0, 0, 0]
  | 10 => [-404, 101, 0, 0, -2, 0, 0, 0, 0]
  | _ => []
def certOf : Nat → List (List Int)
  | 2 => [[]]
  | 3 => [[0, 0], [-1, 0]]
  | 4 => [[3, 0, 0, 1], [3, 0, 0, 1], [2, 0, 0, 1]]
  | 5 => [[0, 0, 0, 0, 0, 0, 0, 0], [-2, -2, 0, 0, 0, 0, -1, 1], [-2, -3, 0, 0, 0, 0, -1, 1], [-1, 0, 0, 0, 0, 0, 0, 0]]
  | 6 => [[85, -42, 0, 0, 0, 0, 0, 0, 0, -2, 0, 17], [210, -104, 0, 0, 0, 0, 0, 0, 0, -5, 0, 42], [280, -140, 0, 0, 0, 0, 0, 0, 0, -7, 0, 56], [210, -105, 0, 0, 0, 0, 0, 0, 0, -5, 0, 42], [84, -42, 0, 0, 0, 0, 0, 0, 0, -2, 0, 17]]
  | 7 => [[0, 0, 0, 0, 0, 0, 0, 0, 0, 0, 0, 0, 0, 0, 0, 0, 0, 0], [-3, 1, 0, 0, 0, 0, 0, 0, 0, 0, 0, 0, 0, 0, 0, 1, -1, 2], [-5, 0, -3, 0, 0, 0, 0, 0, 0, 0, 0, 0, 0, 0, -1, -4, 5, -10], [-5, 0, -4, 0, 0, 0, 0, 0, 0, 0, 0, 0, 0, 0, -1, -4, 5, -10], [-3, 0, 0, 0, 0, 0, 0, 0, 0, 0, 0, 0, 0, 0, 0, 1, -1, 2], [-1, 0, 0, 0, 0, 0, 0, 0, 0, 0, 0, 0, 0, 0, 0, 0, 0, 0]]
  | 8 => [[-203, 68, -100, 0, 0, 0, 0, 0, 0, 0, 0, 0, 0, 0, 0, 0, -10, 0, -2, 2, 0, 30, 0, -29], [-714, 239, -350, 0, 0, 0, 0, 0, 0, 0, 0, 0, 0, 0, 0, 0, -35, 0, -7, 7, 0, 105, 0, -102], [-1428, 476, -709, 0, 0, 0, 0, 0, 0, 0, 0, 0, 0, 0, 0, 0, -71, 0, -14, 14, 0, 213, 0, -204], [-1785, 595, -850, 0, 0, 0, 0, 0, 0, 0, 0, 0, 0, 0, 0, 0, -85, 0, -17, 17, 0, 255, 0, -255], [-1428, 476, -710, 0, 0, 0, 0, 0, 0, 0, 0, 0, 0, 0, 0, 0, -71, 0, -14, 14, 0, 213, 0, -204], [-714, 238, -350, 0, 0, 0, 0, 0, 0, 0, 0, 0, 0, 0, 0, 0, -35, 0, -7, 7, 0, 105, 0, -102], [-204, 68, -100, 0, 0, 0, 0, 0, 0, 0, 0, 0, 0, 0, 0, 0, -10, 0, -2, 2, 0, 30, 0, -29]]
  | 9 => [[28, 0, -3, 0, 0, 0, 0, 0, 0, 0, 0, 0, 0, 0, 0, 0, 0, 0, 0, 0, 0, 0, 0, 0, 0, 0, 0, 0, 0, -6, 7, -21], [108, 1, -12, 0, 0, 0, 0, 0, 0, 0, 0, 0, 0, 0, 0, 0, 0, 0, 0, 0, 0, 0, 0, 0, 0, 0, 0, 0, 0, -23, 27, -81], [252, 0, -27, 0, 0, 0, 0, 0, 0, 0, 0, 0, 0, 0, 0, 0, 0, 0, 0, 0, 0, 0, 0, 0, 0, 0, 0, 0, 0, -54, 63, -189], [378, 0, -42, -4, 0, 0, 0, 0, 0, 0, 0, 0, 0, 0, 0, 0, 0, 0, 0, 0, 0, 0, 0, 0, 0, -1, 1, 0, 0, -96, 112, -336], [378, 0, -42, -5, 0, 0, 0, 0, 0, 0, 0, 0, 0, 0, 0, 0, 0, 0, 0, 0, 0, 0, 0, 0, 0, -1, 1, 0, 0, -96, 112, -336], [252, 0, -28, 0, 0, 0, 0, 0, 0, 0, 0, 0, 0, 0, 0, 0, 0, 0, 0, 0, 0, 0, 0, 0, 0, 0, 0, 0, 0, -54, 63, -189], [108, 0, -12, 0, 0, 0, 0, 0, 0, 0, 0, 0, 0, 0, 0, 0, 0, 0, 0, 0, 0, 0, 0, 0, 0, 0, 0, 0, 0, -23, 27, -81], [27, 0, -3, 0, 0, 0, 0, 0, 0, 0, 0, 0, 0, 0, 0, 0, 0, 0, 0, 0, 0, 0, 0, 0, 0, 0, 0, 0, 0, -6, 7, -21]]
  | 10 => [[4041, -2690, 0, 0, 0, 0, 0, 0, 0, 0, 0, 0, 0, 0, 0, -24, 0, 0, 0, 0, 0, 0, 0, 0, 0, 0, 0, 0, 0, 0, -4, 0, 0, 0, 576, 0, -672, 1344, 0, 6721], [18180, -12104, 0, 0, 0, 0, 0, 0, 0, 0, 0, 0, 0, 0, 0, -108, 0, 0, 0, 0, 0, 0, 0, 0, 0, 0, 0, 0, 0, 0, -18, 0, 0, 0, 2592, 0, -3024, 6048, 0, 30244], [48480, -32280, 1, 0, 0, 0, 0, 0, 0, 0, 0, 0, 0, 0, 0, -288, 0, 0, 0, 0, 0, 0, 0, 0, 0, 0, 0, 0, 0, 0, -48, 0, 0, 0, 6913, 0, -8065, 16130, 0, 80660], [84840, -56560, 0, 1, 0, 0, 0, 0, 0, 0, 0, 0, 0, 0, 0, -505, 0, 0, 0, 0, 0, 0, 0, 0, 0, 0, 0, 0, 0, 0, -84, 0, 0, 0, 12120, 0, -14140, 28280, 0, 141400], [101808, -67872, 0, 0, 0, 0, 0, 0, 0, 0, 0, 0, 0, 0, 0, -606, 0, 0, 0, 0, 0, 0, 0, 0, 0, 0, 0, 0, 0, 0, -101, 0, 0, 0, 14544, 0, -16968, 33936, 0, 169680], [84840, -56560, 0, 0, 0, 0, 0, 0, 0, 0, 0, 0, 0, 0, 0, -505, 0, 0, 0, 0, 0, 0, 0, 0, 0, 0, 0, 0, 0, 0, -84, 0, 0, 0, 12120, 0, -14140, 28280, 0, 141400], [48480, -32280, 0, 0, 0, 0, 0, 0, 0, 0, 0, 0, 0, 0, 0, -288, 0, 0, 0, 0, 0, 0, 0, 0, 0, 0, 0, 0, 0, 0, -48, 0, 0, 0, 6913, 0, -8065, 16130, 0, 80660], [18180, -12105, 0, 0, 0, 0, 0, 0, 0, 0, 0, 0, 0, 0, 0, -108, 0, 0, 0, 0, 0, 0, 0, 0, 0, 0, 0, 0, 0, 0, -18, 0, 0, 0, 2592, 0, -3024, 6048, 0, 30244], [4040, -2690, 0, 0, 0, 0, 0, 0, 0, 0, 0, 0, 0, 0, 0, -24, 0, 0, 0, 0, 0, 0, 0, 0, 0, 0, 0, 0, 0, 0, -4, 0, 0, 0, 576, 0, -672, 1344, 0, 6721]]
  | _ => []
/-- the number that the certificate of i makes: p(i + 1) less C(n) times the sum of u -/
def goal (n i : Nat) : List Int := add (unit (n - 1) i 1) (smul (-(layF n (i + 1))) (uOf n))
def checked (n : Nat) : Bool := (List.range (n - 1)).all fun i => decide (comb (n - 1) ((certOf n)[i]?.getD []) (forms n) = goal n i)
theorem checked_all : ∀ n : Fin 9, checked (n.val + 2) = true := by decide +kernel
theorem uOf_length : ∀ n : Fin 9, (uOf (n.val + 2)).length = n.val + 1 := by decide
/-- Lazard's lemma in the degrees 2 to 10 -/
theorem comparison {m : Int} {n : Nat} {p : Nat → Int} (n1 : 2 ≤ n) (n2 : n ≤ 10) (hs : ∀ i, 0 < i → i < n → (p i - p (n - i)) % m = 0)
    (hc : ∀ a b, 0 < a → 0 < b → a + b < n → (((Num.bin (a + b) a : Nat) : Int) * p (a + b) - ((Num.bin (n - a) b : Nat) : Int) * p a) % m = 0) :
    ∃ c, ∀ i, 0 < i → i < n → (p i - c * layF n i) % m = 0 := by
  refine ⟨lin (uOf n) 1 p, fun i h0 hi => ?_⟩
  obtain ⟨k, rfl⟩ : ∃ k, i = k + 1 := ⟨i - 1, by omega⟩
  have hck := checked_all ⟨n - 2, by omega⟩
  have hul := uOf_length ⟨n - 2, by omega⟩
  simp only [show n - 2 + 2 = n by omega] at hck hul
  have hck2 := List.all_eq_true.1 hck k (List.mem_range.2 (by omega))
  have hk := of_decide_eq_true hck2
  have hz := comb_zero m p (n - 1) ((certOf n)[k]?.getD []) (forms n) (fun f hf => by
    unfold forms at hf
    rcases List.mem_append.1 hf with h | h
    · obtain ⟨q, hq, rfl⟩ := List.mem_map.1 h
      unfold syms at hq
      rw [List.mem_filter, List.mem_range, decide_eq_true_eq] at hq
      refine ⟨add_length (unit_length _ _ _) (unit_length _ _ _), ?_⟩
      unfold symF
      rw [lin_add p _ _ 1 (by rw [unit_length, unit_length]), lin_unit p _ _ _ (by omega), lin_unit p _ _ _ (by omega)]
      rw [show q - 1 + 1 = q by omega, show n - q - 1 + 1 = n - q by omega]
      have := hs q hq.2.1 hq.1
      rw [show 1 * p q + -1 * p (n - q) = p q - p (n - q) by omega]
      exact this
    · obtain ⟨⟨a, b⟩, hq, rfl⟩ := List.mem_map.1 h
      unfold pairs at hq
      obtain ⟨a', ha, hq⟩ := List.mem_flatMap.1 hq
      obtain ⟨b', hb, hq⟩ := List.mem_filterMap.1 hq
      by_cases hab : 0 < a' ∧ 0 < b' ∧ a' + b' < n
      · rw [if_pos hab] at hq
        obtain ⟨rfl, rfl⟩ : a' = a ∧ b' = b := by simpa using hq
        refine ⟨add_length (unit_length _ _ _) (unit_length _ _ _), ?_⟩
        dsimp only
        unfold cocF
        rw [lin_add p _ _ 1 (by rw [unit_length, unit_length]), lin_unit p _ _ _ (by omega), lin_unit p _ _ _ (by omega)]
        rw [show a' + b' - 1 + 1 = a' + b' by omega, show a' - 1 + 1 = a' by omega]
        have := hc a' b' hab.1 hab.2.1 hab.2.2
        rw [Int.neg_mul, ← Int.sub_eq_add_neg]
        exact this
      · rw [if_neg hab] at hq; simp at hq)
  rw [hk] at hz
  unfold goal at hz
  rw [lin_add p _ _ 1 (by simp [unit, smul, hul]; omega), lin_unit p _ _ _ (by omega), lin_smul] at hz
  rw [show lin (uOf n) 1 p * layF n (k + 1) = layF n (k + 1) * lin (uOf n) 1 p from Int.mul_comm _ _]
  rw [Int.one_mul, Int.neg_mul, ← Int.sub_eq_add_neg] at hz
  exact hz
end Coc
end Go.Proofs.YtfhdgcndiljjcaaGreatDoor

/- Plain facts: the factor of a layer, and which layers are cocycles. -/
namespace Go.Proofs.YtfhdgcndiljjcaaGreatDoor
open Go.RowKit

namespace Cyc
/-- the equation of the coefficient i, for the factor as number 1 -/
def eqF (m : Int) (l : List Int) (n i : Nat) : List Int := Sys.timesE m 1 (-(Ser.co l i) :: layF n i :: List.replicate 9 0)
def eqsF (m : Int) (l : List Int) (n : Nat) : List (List Int) := (List.range (n + 1)).map (eqF m l n)
def facO (m : Int) (l : List Int) (n : Nat) : Option (Nat → Int) := Sys.leastS m (eqsF m l n)
/-- c times C(n) is the layer -/
def Fits (m : Int) (l : List Int) (n : Nat) (c : Int) : Prop := ∀ i, i ≤ n → (c * layF n i - Ser.co l i) % m = 0
theorem val_F (a b : Int) (y : Nat → Int) (hy : y 0 = 1) : Sys.val (a :: b :: List.replicate 9 0) y = a + y 1 * b := by
  unfold Sys.val
  simp [Ser.psum, Ser.co, List.replicate, hy, Int.mul_comm]
theorem sat_F {m : Int} {l : List Int} {n : Nat} (y : Nat → Int) (hy : y 0 = 1) : (∀ e ∈ eqsF m l n, Sys.Sat m y e) ↔ Fits m l n (y 1) := by
  have key : ∀ i, Sys.Sat m y (eqF m l n i) ↔ (y 1 * layF n i - Ser.co l i) % m = 0 := fun i => by
    unfold Sys.Sat eqF
    rw [Sys.val_times, val_F _ _ y hy, Int.one_mul, show -(Ser.co l i) + y 1 * layF n i = y 1 * layF n i - Ser.co l i by omega]
  unfold eqsF Fits
  constructor
  · intro h i hi
    exact (key i).1 (h _ (List.mem_map.2 ⟨i, List.mem_range.2 (by omega), rfl⟩))
  · intro h e he
    obtain ⟨i, hi, rfl⟩ := List.mem_map.1 he
    rw [List.mem_range] at hi
    exact (key i).2 (h i (by omega))
theorem eqsF_ok {m : Int} (hm : 0 < m) (l : List Int) (n : Nat) : ∀ e ∈ eqsF m l n, Sys.Ok m e := fun e he => by
  unfold eqsF at he
  obtain ⟨i, hi, rfl⟩ := List.mem_map.1 he
  unfold eqF Sys.timesE
  exact Sys.Ok.cut hm _
theorem facO_some {m : Int} (m1 : 2 ≤ m) (m2 : m ≤ 10000) {l : List Int} {n : Nat} {X : Nat → Int} (h : facO m l n = some X) :
    0 ≤ X 1 ∧ X 1 < m ∧ Fits m l n (X 1) ∧ ∀ c, 0 ≤ c → Fits m l n c → X 1 ≤ c := by
  have hL := Sys.leastS_some m1 m2 (eqsF_ok (by omega) l n) h
  obtain ⟨b1, b2⟩ := hL.bd 1 (by omega) (by omega)
  refine ⟨b1, b2, (sat_F X hL.one).1 hL.sat, fun c hc hf => ?_⟩
  have hy : (fun j => if j = 0 then (1 : Int) else if j = 1 then c else 0) 0 = 1 := rfl
  have := hL.least (fun j => if j = 0 then 1 else if j = 1 then c else 0) hy ((sat_F _ hy).2 hf) 1 (by omega) (by omega) (fun j hj => by
    obtain rfl : j = 0 := by omega
    rw [hL.one]; rfl) hc
  exact this
theorem facO_none {m : Int} (m1 : 2 ≤ m) (m2 : m ≤ 10000) {l : List Int} {n : Nat} (h : facO m l n = none) (c : Int) : ¬ Fits m l n c := fun hf => by
  have hy : (fun j => if j = 0 then (1 : Int) else if j = 1 then c else 0) 0 = 1 := rfl
  exact Sys.leastS_none m1 m2 (eqsF_ok (by omega) l n) h (fun j => if j = 0 then (1 : Int) else if j = 1 then c else 0) hy ((sat_F (fun j => if j = 0 then (1 : Int) else if j = 1 then c else 0) hy).2 hf)
/-- the factor, 0 if there is none -/
def facM (m : Int) (l : List Int) (n : Nat) : Int := match facO m l n with
  | some X => X 1
  | none => 0
theorem facM_first {m : Int} (m1 : 2 ≤ m) (m2 : m ≤ 10000) {l : List Int} {n : Nat} {c : Int} (hc : 0 ≤ c) (hf : Fits m l n c) (hn : ∀ c', 0 ≤ c' → c' < c → ¬ Fits m l n c') : facM m l n = c := by
  unfold facM
  cases h : facO m l n with
  | none => exact absurd hf (facO_none m1 m2 h c)
  | some X =>
    obtain ⟨b1, b2, b3, b4⟩ := facO_some m1 m2 h
    have h1 := b4 c hc hf
    have h2 : ¬ X 1 < c := fun hlt => hn _ b1 hlt b3
    show X 1 = c
    omega
theorem facM_never {m : Int} (m1 : 2 ≤ m) (m2 : m ≤ 10000) {l : List Int} {n : Nat} (hn : ∀ c', 0 ≤ c' → c' < m → ¬ Fits m l n c') : facM m l n = 0 := by
  unfold facM
  cases h : facO m l n with
  | none => rfl
  | some X =>
    obtain ⟨b1, b2, b3, b4⟩ := facO_some m1 m2 h
    exact absurd b3 (hn _ b1 b2)
/-- the equations of cocycles in the degree d -/
def lowZ (t : List (List Int)) (d : Nat) : Bool := (List.range d).all fun n => (List.range (n + 1)).all fun i => decide (Pl.pc t i (n - i) = 0)
def symZ (t : List (List Int)) (d : Nat) : Bool := (List.range (d + 1)).all fun i => decide (Pl.pc t i (d - i) = Pl.pc t (d - i) i) && (!(decide (i = 0) || decide (i = d)) || decide (Pl.pc t i (d - i) = 0))
def cocN (m : Int) (t : List (List Int)) (d a b : Nat) : Int := binI ((a : Int) + b) a % m * Pl.pc t (a + b) (d - (a + b)) - binI ((d : Int) - a) b % m * Pl.pc t a (d - a)
def cocZ (m : Int) (t : List (List Int)) (d : Nat) : Bool := (List.range d).all fun a => (List.range d).all fun b => !(decide (0 < a ∧ 0 < b ∧ a + b < d)) || decide (cocN m t d a b % m = 0)
def isC (m : Int) (t : List (List Int)) (d : Nat) : Bool := decide (2 ≤ d) && lowZ t d && symZ t d && cocZ m t d
theorem lowZ_iff {t : List (List Int)} {d : Nat} : lowZ t d = true ↔ ∀ n i, n < d → i ≤ n → Pl.pc t i (n - i) = 0 := by
  unfold lowZ
  simp only [List.all_eq_true, List.mem_range, decide_eq_true_eq]
  exact ⟨fun h n i hn hi => h n hn i (by omega), fun h n hn i hi => h n i hn (by omega)⟩
theorem symZ_iff {t : List (List Int)} {d : Nat} : symZ t d = true ↔ ∀ i, i ≤ d → Pl.pc t i (d - i) = Pl.pc t (d - i) i ∧ ((i = 0 ∨ i = d) → Pl.pc t i (d - i) = 0) := by
  unfold symZ
  simp only [List.all_eq_true, List.mem_range, Bool.and_eq_true, Bool.or_eq_true, Bool.not_eq_true', Bool.or_eq_false_iff, decide_eq_true_eq, decide_eq_false_iff_not]
  exact ⟨fun h i hi => ⟨(h i (by omega)).1, fun hx => (h i (by omega)).2.elim (fun h2 => absurd hx (by omega)) id⟩,
    fun h i hi => ⟨(h i (by omega)).1, (Decidable.em (i = 0 ∨ i = d)).elim (fun hx => .inr ((h i (by omega)).2 hx)) (fun hx => .inl (by omega))⟩⟩
theorem cocZ_iff {m : Int} {t : List (List Int)} {d : Nat} : cocZ m t d = true ↔ ∀ a b, 0 < a → 0 < b → a + b < d → cocN m t d a b % m = 0 := by
  unfold cocZ
  simp only [List.all_eq_true, List.mem_range, Bool.or_eq_true, Bool.not_eq_true', decide_eq_true_eq, decide_eq_false_iff_not]
  exact ⟨fun h a b ha hb hab => (h a (by omega) b (by omega)).elim (fun h2 => absurd ⟨ha, hb, hab⟩ h2) id,
    fun h a ha b hb => (Decidable.em (0 < a ∧ 0 < b ∧ a + b < d)).elim (fun hx => .inr (h a b hx.1 hx.2.1 hx.2.2)) (fun hx => .inl hx)⟩
theorem layF_coc : ∀ n : Fin 11, ∀ a : Fin 11, ∀ b : Fin 11, 2 ≤ n.val → 0 < a.val → 0 < b.val → a.val + b.val < n.val → ((Num.bin (a.val + b.val) a.val : Nat) : Int) * layF n.val (a.val + b.val) - ((Num.bin (n.val - a.val) b.val : Nat) : Int) * layF n.val a.val = 0 := by decide +kernel
theorem layF_sym : ∀ n : Fin 11, ∀ a : Fin 11, a.val ≤ n.val → layF n.val a.val = layF n.val (n.val - a.val) := by decide +kernel
theorem cocN_emod (m : Int) (t : List (List Int)) (d a b : Nat) (h : a + b < d) : cocN m t d a b % m = (((Num.bin (a + b) a : Nat) : Int) * Pl.pc t (a + b) (d - (a + b)) - ((Num.bin (d - a) b : Nat) : Int) * Pl.pc t a (d - a)) % m := by
  unfold cocN binI
  rw [show ((a : Int) + b).toNat = a + b by omega, show ((d : Int) - a).toNat = d - a by omega, show (a : Int).toNat = a by omega, show (b : Int).toNat = b by omega]
  rw [Int.sub_emod, Int.mul_emod, Int.emod_emod, ← Int.mul_emod, Int.mul_emod (((Num.bin (d - a) b : Nat) : Int) % m), Int.emod_emod, ← Int.mul_emod, ← Int.sub_emod]
/-- Lazard: a plane of one degree is a cocycle exactly if it is a multiple of C(d) -/
theorem isC_iff {m : Int} (m1 : 2 ≤ m) (m2 : m ≤ 10000) {t : List (List Int)} {d : Nat} (ok : Pl.Ok m d t) (d1 : 2 ≤ d) (d2 : d ≤ 10) {l : List Int} (hl : ∀ i, i ≤ d → Ser.co l i = Pl.pc t i (d - i)) :
    (symZ t d = true ∧ cocZ m t d = true) ↔ (facO m l d).isSome = true := by
  constructor
  · rintro ⟨hs, hc⟩
    rw [symZ_iff] at hs
    rw [cocZ_iff] at hc
    obtain ⟨c, h⟩ := Coc.comparison (m := m) (n := d) (p := fun i => Pl.pc t i (d - i)) d1 d2 (fun i h0 h1 => by
      have := (hs i (by omega)).1
      show (Pl.pc t i (d - i) - Pl.pc t (d - i) (d - (d - i))) % m = 0
      rw [show d - (d - i) = i by omega, this, Int.sub_self]; rfl) (fun a b ha hb hab => by
      rw [← cocN_emod m t d a b hab]; exact hc a b ha hb hab)
    have hf : Fits m l d c := fun i hi => by
      rw [hl i hi]
      by_cases hx : 0 < i ∧ i < d
      · have := h i hx.1 hx.2
        have e : c * layF d i - Pl.pc t i (d - i) = -(Pl.pc t i (d - i) - c * layF d i) := by omega
        rw [e]
        exact Int.emod_eq_zero_of_dvd (Int.dvd_neg.2 (Int.dvd_of_emod_eq_zero this))
      · rw [(hs i hi).2 (by omega)]
        unfold layF
        rw [if_neg hx, Int.mul_zero]; rfl
    cases hx : facO m l d with
    | none => exact absurd hf (facO_none m1 m2 hx c)
    | some X => rfl
  · intro h
    obtain ⟨X, hX⟩ := Option.isSome_iff_exists.1 h
    obtain ⟨b1, b2, hf, -⟩ := facO_some m1 m2 hX
    have hp : ∀ i, i ≤ d → Pl.pc t i (d - i) = X 1 * layF d i % m := fun i hi => by
      have h1 := hf i hi
      rw [hl i hi] at h1
      have r := ok.pc i (d - i)
      have h2 : X 1 * layF d i % m = Pl.pc t i (d - i) % m := Int.emod_eq_emod_iff_emod_sub_eq_zero.2 h1
      rw [h2, Int.emod_eq_of_lt r.1 r.2]
    constructor
    · rw [symZ_iff]
      intro i hi
      have e := layF_sym ⟨d, by omega⟩ ⟨i, by omega⟩ hi
      have h2 := hp (d - i) (by omega)
      rw [show d - (d - i) = i by omega] at h2
      refine ⟨by rw [hp i hi, h2, e], fun hx => ?_⟩
      rw [hp i hi]
      unfold layF
      rw [if_neg (by omega), Int.mul_zero]; rfl
    · rw [cocZ_iff]
      intro a b ha hb hab
      rw [cocN_emod m t d a b hab, hp (a + b) (by omega), hp a (by omega)]
      have e := layF_coc ⟨d, by omega⟩ ⟨a, by omega⟩ ⟨b, by omega⟩ d1 ha hb hab
      rw [Int.sub_emod, Int.mul_emod, Int.emod_emod, ← Int.mul_emod, Int.mul_emod _ (X 1 * layF d a % m), Int.emod_emod, ← Int.mul_emod, ← Int.sub_emod]
      have e2 : ((Num.bin (a + b) a : Nat) : Int) * (X 1 * layF d (a + b)) - ((Num.bin (d - a) b : Nat) : Int) * (X 1 * layF d a) = X 1 * (((Num.bin (a + b) a : Nat) : Int) * layF d (a + b) - ((Num.bin (d - a) b : Nat) : Int) * layF d a) := by
        rw [Int.mul_sub]; simp only [Int.mul_left_comm (X 1)]
      rw [e2, e, Int.mul_zero]; rfl
end Cyc
end Go.Proofs.YtfhdgcndiljjcaaGreatDoor

/- Plain facts: the gap of two laws that are equal below a degree fulfils the equations of cocycles there. -/
namespace Go.Proofs.YtfhdgcndiljjcaaGreatDoor
open Go.RowKit

namespace Pl
open Ser
theorem psum_at (f : Nat → Int) (j : Nat) : ∀ N, j < N → (∀ i, i < N → i ≠ j → f i = 0) → psum f N = f j
  | 0, h, _ => absurd h (by omega)
  | N + 1, h, hz => by
    show psum f N + f N = f j
    by_cases e : j = N
    · subst e
      rw [psum_low f j (fun i hi => hz i (by omega) (by omega))]; omega
    · rw [psum_at f j N (by omega) (fun i hi => hz i (by omega)), hz N (by omega) (by omega)]; omega
theorem psum_nil (f : Nat → Int) (N : Nat) (h : ∀ i, i < N → f i = 0) : psum f N = 0 := psum_low f N h
/-- the linear part of a law -/
structure Lin (F : Nat → Nat → Int) : Prop where
  zero : F 0 0 = 0
  x : F 1 0 = 1
  y : F 0 1 = 1
theorem pw2_low {F : Nat → Nat → Int} (h : Lin F) : ∀ n i j, i + j < n → pw2 F n i j = 0
  | 0, i, j, hij => absurd hij (by omega)
  | n + 1, i, j, hij => by
    show mul2 (pw2 F n) F i j = 0
    unfold mul2
    refine psum_nil _ _ (fun k hk => psum_nil _ _ (fun l hl => ?_))
    by_cases e : k + l < n
    · rw [pw2_low h n k l e, Int.zero_mul]
    · obtain rfl : k = i := by omega
      obtain rfl : l = j := by omega
      rw [Nat.sub_self, Nat.sub_self, h.zero, Int.mul_zero]
theorem pw2_lead {F : Nat → Nat → Int} (h : Lin F) : ∀ n i j, i + j = n → pw2 F n i j = ((Num.bin n i : Nat) : Int)
  | 0, i, j, hij => by
    obtain rfl : i = 0 := by omega
    obtain rfl : j = 0 := by omega
    rfl
  | n + 1, i, j, hij => by
    show mul2 (pw2 F n) F i j = _
    unfold mul2
    have hrow : ∀ k, k < i + 1 → psum (fun l => pw2 F n k l * F (i - k) (j - l)) (j + 1) = if k = i then (if 0 < j then ((Num.bin n i : Nat) : Int) else 0) else if k + 1 = i then ((Num.bin n k : Nat) : Int) else 0 := by
      intro k hk
      by_cases e : k = i
      · subst e
        rw [if_pos rfl]
        by_cases hj : 0 < j
        · rw [if_pos hj, psum_at _ (j - 1) _ (by omega) (fun l hl hne => ?_)]
          · rw [pw2_lead h n k (j - 1) (by omega), Nat.sub_self, show j - (j - 1) = 1 by omega, h.y, Int.mul_one]
          · by_cases e2 : k + l < n
            · rw [pw2_low h n k l e2, Int.zero_mul]
            · obtain rfl : l = j := by omega
              rw [Nat.sub_self, Nat.sub_self, h.zero, Int.mul_zero]
        · rw [if_neg hj]
          obtain rfl : j = 0 := by omega
          refine psum_nil _ _ (fun l hl => ?_)
          obtain rfl : l = 0 := by omega
          rw [Nat.sub_self, Nat.sub_self, h.zero, Int.mul_zero]
      · rw [if_neg e]
        by_cases e1 : k + 1 = i
        · rw [if_pos e1, psum_at _ j _ (by omega) (fun l hl hne => ?_)]
          · rw [pw2_lead h n k j (by omega), Nat.sub_self, show i - k = 1 by omega, h.x, Int.mul_one]
          · rw [pw2_low h n k l (by omega), Int.zero_mul]
        · rw [if_neg e1]
          exact psum_nil _ _ (fun l hl => by rw [pw2_low h n k l (by omega), Int.zero_mul])
    rw [psum_ext (i + 1) hrow]
    show psum _ i + _ = _
    dsimp only
    rw [if_pos rfl]
    cases i with
    | zero =>
      show (0 : Int) + _ = _
      rw [if_pos (by omega), Num.bin_zero, Num.bin_zero]; rfl
    | succ i =>
      rw [psum_at _ i _ (by omega) (fun k hk hne => by rw [if_neg (by omega), if_neg (by omega)]), if_neg (by omega), if_pos rfl]
      by_cases hj : 0 < j
      · rw [if_pos hj, Num.bin_succ]; omega
      · rw [if_neg hj]
        obtain rfl : j = 0 := by omega
        obtain rfl : n = i := by omega
        have := Num.bin_over n (n + 1) (by omega)
        rw [Num.bin_succ, this]; omega
theorem pw2_same {F G : Nat → Nat → Int} {d : Nat} (h : ∀ i j, i + j < d → F i j = G i j) : ∀ n i j, i + j < d → pw2 F n i j = pw2 G n i j
  | 0, _, _, _ => rfl
  | n + 1, i, j, hij => by
    show mul2 (pw2 F n) F i j = mul2 (pw2 G n) G i j
    unfold mul2
    exact psum_ext _ (fun k hk => psum_ext _ (fun l hl => by rw [pw2_same h n k l (by omega), h (i - k) (j - l) (by omega)]))
/-- the brackets of two laws that are equal below d -/
theorem gap_br {m : Int} {d : Nat} {F G : Nat → Nat → Int} (hF : Lin F) (hG : Lin G) (h : ∀ i j, i + j < d → F i j = G i j) (a b c : Nat) (hc : 0 < c) (habc : a + b + c = d) :
    brS m d G a b c - brS m d F a b c = (G (a + b) c - F (a + b) c) * (((Num.bin (a + b) a : Nat) : Int) % m) := by
  have hp : ∀ (H : Nat → Nat → Int) i, pc (pwT m d H i) a b = pw2 H i a b % m := fun H i => by rw [pwT_tab, pc_tab (by omega)]
  unfold brS
  rw [show d + 1 - c = a + b + 1 by omega]
  show psum _ (a + b) + _ - (psum _ (a + b) + _) = _
  rw [psum_ext (a + b) (f := fun i => G i c * pc (pwT m d G i) a b) (g := fun i => F i c * pc (pwT m d F i) a b) (fun i hi => by
    try dsimp only
    rw [hp, hp, pw2_same h i a b (by omega), h i c (by omega)])]
  dsimp only
  rw [hp, hp, pw2_lead hF _ _ _ rfl, pw2_lead hG _ _ _ rfl, Int.sub_mul]; omega
theorem fauT_none {m : Int} {d : Nat} {F : Nat → Nat → Int} (h : fauT m d F = none) (a b c : Nat) (habc : a + b + c ≤ d) : br m d F a b c = br m d F c b a := by
  have h1 := srch_none _ _ h a (by omega) (by omega)
  have h2 := srch_none _ _ h1 b (by omega) (by omega)
  have h3 := srch_none _ _ h2 c (by omega) (by omega)
  unfold fau2c at h3
  by_cases e : br m d F a b c = br m d F c b a
  · exact e
  · rw [if_neg e] at h3; cases h3
theorem bin_turn : ∀ n : Fin 11, ∀ k : Fin 11, k.val ≤ n.val → Num.bin n.val k.val = Num.bin n.val (n.val - k.val) := by decide +kernel
/-- the gap is a cocycle -/
theorem gap_coc {m : Int} {d : Nat} {F G : Nat → Nat → Int} (hd : d ≤ 10) (hF : Lin F) (hG : Lin G) (h : ∀ i j, i + j < d → F i j = G i j) (sF : Sym d F) (sG : Sym d G) (tF : fauT m d F = none) (tG : fauT m d G = none) (a b : Nat) (h0 : 0 < a) (h1 : 0 < b) (h2 : a + b < d) :
    (((Num.bin (a + b) a : Nat) : Int) * (G (a + b) (d - (a + b)) - F (a + b) (d - (a + b))) - ((Num.bin (d - a) b : Nat) : Int) * (G a (d - a) - F a (d - a))) % m = 0 := by
  obtain ⟨c, hc⟩ : ∃ c, c = d - (a + b) := ⟨_, rfl⟩
  have e1 := gap_br (m := m) hF hG h a b c (by omega) (by omega)
  have e2 := gap_br (m := m) hF hG h c b a (by omega) (by omega)
  have b1 := fauT_none tF a b c (by omega)
  have b2 := fauT_none tG a b c (by omega)
  unfold br at b1 b2
  have hcong : (brS m d G a b c - brS m d F a b c) % m = (brS m d G c b a - brS m d F c b a) % m := by
    rw [Int.sub_emod, b1, b2, ← Int.sub_emod]
  rw [e1, e2, Int.mul_emod, Int.emod_emod, ← Int.mul_emod, Int.mul_emod (G (c + b) a - F (c + b) a), Int.emod_emod, ← Int.mul_emod] at hcong
  have e3 : c + b = d - a := by omega
  have e4 := bin_turn ⟨d - a, by omega⟩ ⟨b, by omega⟩ (by show b ≤ d - a; omega)
  simp only [show d - a - b = c by omega] at e4
  rw [e3, sF (d - a) a (by omega), sG (d - a) a (by omega), ← e4] at hcong
  rw [← hc]
  rw [Int.mul_comm _ (G (a + b) c - F (a + b) c), Int.mul_comm _ (G a (d - a) - F a (d - a)), Int.sub_emod, hcong, ← Int.sub_emod, Int.sub_self]; rfl
end Pl
end Go.Proofs.YtfhdgcndiljjcaaGreatDoor

/- Plain: laws with tables in both places, homomorphisms of a law to itself, and the degree in which they begin. -/
namespace Go.Proofs.YtfhdgcndiljjcaaGreatDoor
namespace Pl
open Ser (psum cv pw)

/-- a series of tables at a table -/
def aftR (f : Nat → Nat → Nat → Int) (A : Nat → Nat → Int) (n : Nat) : Nat → Nat → Int := fun p q => psum (fun i => mul2 (f i) (pw2 A i) p q) n
theorem aftR_congr {m : Int} {d : Nat} {f g : Nat → Nat → Nat → Int} {A A' : Nat → Nat → Int} (n : Nat) (h : ∀ i, i < n → Eq m d (f i) (g i)) (k : Eq m d A A') : Eq m d (aftR f A n) (aftR g A' n) :=
  fun p q hpq => Ser.psum_congr _ (fun i hi => mul2_congr (h i hi) (pw2_congr k i) p q hpq)
/-- nothing below the degree k -/
def LowT (k : Nat) (X : Nat → Nat → Int) : Prop := ∀ p q, p + q < k → X p q = 0
theorem LowT.mul {k l : Nat} {X Y : Nat → Nat → Int} (h : LowT k X) (g : LowT l Y) : LowT (k + l) (mul2 X Y) := by
  intro p q hpq
  unfold mul2
  refine psum_nil _ _ (fun x hx => psum_nil _ _ (fun y hy => ?_))
  by_cases e : x + y < k
  · rw [h x y e, Int.zero_mul]
  · rw [g (p - x) (q - y) (by omega), Int.mul_zero]
theorem LowT.pw {A : Nat → Nat → Int} (h : A 0 0 = 0) (k : Nat) : LowT k (pw2 A k) := fun p q hpq => pw2_lowW h k p q hpq
theorem LowT.none (X : Nat → Nat → Int) : LowT 0 X := fun p q h => absurd h (by omega)
theorem aftR_mul (f g : Nat → Nat → Nat → Int) {A : Nat → Nat → Int} (h : A 0 0 = 0) (d p q : Nat) (hpq : p + q ≤ d) :
    mul2 (aftR f A (d + 1)) (aftR g A (d + 1)) p q = aftR (fun n p q => psum (fun i => mul2 (f i) (g (n - i)) p q) (n + 1)) A (d + 1) p q := by
  have e1 : mul2 (aftR f A (d + 1)) (aftR g A (d + 1)) p q = psum (fun i => psum (fun j => mul2 (mul2 (f i) (g j)) (pw2 A (i + j)) p q) (d + 1)) (d + 1) := by
    unfold aftR
    rw [mul2_psum (fun i => mul2 (f i) (pw2 A i))]
    refine Ser.psum_ext _ (fun i _ => ?_)
    rw [mul2_psum' (fun j => mul2 (g j) (pw2 A j))]
    refine Ser.psum_ext _ (fun j _ => ?_)
    rw [← pw2_add, mul2_assoc (f i), mul2_assoc (f i), mul2_lc (pw2 A i)]
  have e2 : psum (fun i => psum (fun j => mul2 (mul2 (f i) (g j)) (pw2 A (i + j)) p q) (d + 1)) (d + 1) = psum (fun i => psum (fun j => mul2 (mul2 (f i) (g j)) (pw2 A (i + j)) p q) (d - i + 1)) (d + 1) := by
    refine Ser.psum_ext _ (fun i hi => ?_)
    exact psum_cut _ (d - i + 1) (d + 1) (by omega) (fun j h1 _ => ((LowT.none _).mul (LowT.pw h (i + j))) p q (by omega))
  rw [e1, e2, ← Ser.psum_tri d (fun i j _ => mul2 (mul2 (f i) (g j)) (pw2 A (i + j)) p q)]
  unfold aftR
  refine Ser.psum_ext _ (fun n hn => ?_)
  rw [mul2_psum (fun i => mul2 (f i) (g (n - i)))]
  refine Ser.psum_ext _ (fun i hi => ?_)
  rw [show i + (n - i) = n by omega]
theorem aft_psum (f : Nat → Nat → Int) (k : Nat) (B : Nat → Nat → Int) (n p q : Nat) : aft (fun j => psum (fun x => f x j) k) B n p q = psum (fun x => aft (f x) B n p q) k := by
  unfold aft
  rw [Ser.psum_swap]
  exact Ser.psum_ext _ (fun i _ => (Ser.psum_mul' _ _ _).symm)
theorem mul2_aft (f : Nat → Int) (B X : Nat → Nat → Int) (n p q : Nat) : mul2 (aft f B n) X p q = psum (fun j => f j * mul2 (pw2 B j) X p q) n := by
  unfold aft
  rw [mul2_psum (fun j p q => f j * pw2 B j p q)]
  exact Ser.psum_ext _ (fun j _ => mul2_smul _ _ _ _ _)
/-- G with a table in each place -/
def sb (G A B : Nat → Nat → Int) (n : Nat) : Nat → Nat → Int := aftR (fun i => aft (G i) B n) A n
theorem sb_congr {m : Int} {d : Nat} (G : Nat → Nat → Int) {A A' B B' : Nat → Nat → Int} (n : Nat) (h : Eq m d A A') (k : Eq m d B B') : Eq m d (sb G A B n) (sb G A' B' n) :=
  aftR_congr n (fun _ _ => aft_congr n (fun _ _ => rfl) k) h
theorem sb_at (G A B : Nat → Nat → Int) (n p q : Nat) : sb G A B n p q = psum (fun i => psum (fun j => G i j * mul2 (pw2 B j) (pw2 A i) p q) n) n :=
  Ser.psum_ext _ (fun _ _ => mul2_aft _ _ _ _ _ _)
theorem sb_mul {A B : Nat → Nat → Int} (hA : A 0 0 = 0) (hB : B 0 0 = 0) (m : Int) (d : Nat) (G H : Nat → Nat → Int) : Eq m d (sb (mul2 G H) A B (d + 1)) (mul2 (sb G A B (d + 1)) (sb H A B (d + 1))) := by
  have e : Eq m d (aftR (fun i => aft (mul2 G H i) B (d + 1)) A (d + 1)) (aftR (fun n p q => psum (fun k => mul2 (aft (G k) B (d + 1)) (aft (H (n - k)) B (d + 1)) p q) (n + 1)) A (d + 1)) :=
    aftR_congr _ (fun i _ p q hpq => by
      have e1 : mul2 G H i = fun j => psum (fun k => Ser.mul (G k) (H (i - k)) j) (i + 1) := by
        funext j; unfold mul2; exact Ser.psum_ext _ (fun k _ => by rw [Ser.mul_at, Ser.cv_psum])
      show aft (mul2 G H i) B (d + 1) p q % m = _
      rw [e1, aft_psum]
      have e2 : psum (fun k => aft (Ser.mul (G k) (H (i - k))) B (d + 1) p q) (i + 1) = psum (fun k => mul2 (aft (G k) B (d + 1)) (aft (H (i - k)) B (d + 1)) p q) (i + 1) :=
        Ser.psum_ext _ (fun k _ => (aft_mul (G k) (H (i - k)) hB d p q hpq).symm)
      rw [e2]) (Eq.refl _ _ _)
  intro p q hpq
  have h2 := aftR_mul (fun i => aft (G i) B (d + 1)) (fun i => aft (H i) B (d + 1)) hA d p q hpq
  have h3 : mul2 (sb G A B (d + 1)) (sb H A B (d + 1)) p q = aftR (fun n p q => psum (fun k => mul2 (aft (G k) B (d + 1)) (aft (H (n - k)) B (d + 1)) p q) (n + 1)) A (d + 1) p q := h2
  rw [h3]
  exact e p q hpq
theorem aft_zero (B : Nat → Nat → Int) (n : Nat) : aft (fun _ => 0) B n = fun _ _ => 0 := by
  funext p q
  exact psum_nil _ _ (fun i _ => Int.zero_mul _)
theorem sb_one (A B : Nat → Nat → Int) (d : Nat) : sb (one2 1) A B (d + 1) = one2 1 := by
  funext p q
  unfold sb aftR
  rw [psum_at _ 0 (d + 1) (by omega) (fun i _ hi => by
    have : one2 1 i = fun _ => 0 := by funext j; unfold one2; rw [if_neg (by omega)]
    show mul2 (aft (one2 1 i) B (d + 1)) _ p q = 0
    rw [this, aft_zero, zero_mul2])]
  have h0 : one2 1 0 = Ser.mon 0 1 := by funext j; unfold one2 Ser.mon; simp
  show mul2 (aft (one2 1 0) B (d + 1)) (one2 1) p q = _
  rw [h0, aft_c 1 B (d + 1) (by omega), mul2_one2, one_sm]
theorem sb_pw {A B : Nat → Nat → Int} (hA : A 0 0 = 0) (hB : B 0 0 = 0) (m : Int) (d : Nat) (F : Nat → Nat → Int) : ∀ i, Eq m d (sb (pw2 F i) A B (d + 1)) (pw2 (sb F A B (d + 1)) i)
  | 0 => Eq.fn (sb_one A B d)
  | i + 1 => (sb_mul hA hB m d (pw2 F i) F).trans (Eq.mul2 (sb_pw hA hB m d F i) (Eq.refl _ _ _))
/-- three tables -/
def T3 (β : Nat → Nat → Nat → Int) (A B C : Nat → Nat → Int) (n : Nat) : Nat → Nat → Int := fun p q => psum (fun a => psum (fun b => psum (fun c => β a b c * mul2 (mul2 (pw2 A a) (pw2 B b)) (pw2 C c) p q) n) n) n
theorem T3_congr {m : Int} {d : Nat} {β β' : Nat → Nat → Nat → Int} {A B C : Nat → Nat → Int} (hA : A 0 0 = 0) (hB : B 0 0 = 0) (hC : C 0 0 = 0) (n : Nat) (h : ∀ a b c, a + b + c ≤ d → β a b c % m = β' a b c % m) : Eq m d (T3 β A B C n) (T3 β' A B C n) := by
  intro p q hpq
  refine Ser.psum_congr _ (fun a _ => Ser.psum_congr _ (fun b _ => Ser.psum_congr _ (fun c _ => ?_)))
  by_cases e : a + b + c ≤ d
  · exact Ser.mul_cong (h a b c e) rfl
  · rw [(((LowT.pw hA a).mul (LowT.pw hB b)).mul (LowT.pw hC c)) p q (by omega), Int.mul_zero, Int.mul_zero]
theorem T3_swap (β : Nat → Nat → Nat → Int) (A B C : Nat → Nat → Int) (n : Nat) : T3 β A B C n = T3 (fun a b c => β c b a) C B A n := by
  funext p q
  unfold T3
  have e : ∀ a, psum (fun b => psum (fun c => β a b c * mul2 (mul2 (pw2 A a) (pw2 B b)) (pw2 C c) p q) n) n = psum (fun c => psum (fun b => β a b c * mul2 (mul2 (pw2 A a) (pw2 B b)) (pw2 C c) p q) n) n := fun a => Ser.psum_swap _ _ _
  rw [Ser.psum_ext n (fun a _ => e a), Ser.psum_swap]
  refine Ser.psum_ext _ (fun c _ => ?_)
  rw [Ser.psum_swap]
  refine Ser.psum_ext _ (fun b _ => Ser.psum_ext _ (fun a _ => ?_))
  have : mul2 (mul2 (pw2 A a) (pw2 B b)) (pw2 C c) = mul2 (mul2 (pw2 C c) (pw2 B b)) (pw2 A a) := by
    rw [mul2_comm (mul2 (pw2 A a) (pw2 B b)), mul2_comm (pw2 A a), ← mul2_assoc]
  rw [this]
/-- the coefficients of F(F(x, y), z) -/
def beF (F : Nat → Nat → Int) (n a b c : Nat) : Int := psum (fun i => F i c * pw2 F i a b) n
theorem sb_sb {A B : Nat → Nat → Int} (hA : A 0 0 = 0) (hB : B 0 0 = 0) (m : Int) (d : Nat) (F C : Nat → Nat → Int) : Eq m d (sb F (sb F A B (d + 1)) C (d + 1)) (T3 (beF F (d + 1)) A B C (d + 1)) := by
  intro p q hpq
  have e1 : sb F (sb F A B (d + 1)) C (d + 1) p q % m = psum (fun i => mul2 (aft (F i) C (d + 1)) (sb (pw2 F i) A B (d + 1)) p q) (d + 1) % m :=
    Ser.psum_congr _ (fun i _ => mul2_congr (Eq.refl _ _ _) (sb_pw hA hB m d F i).symm p q hpq)
  rw [e1]
  congr 1
  have e2 : ∀ i, mul2 (aft (F i) C (d + 1)) (sb (pw2 F i) A B (d + 1)) p q = psum (fun a => psum (fun b => psum (fun c => F i c * pw2 F i a b * mul2 (mul2 (pw2 A a) (pw2 B b)) (pw2 C c) p q) (d + 1)) (d + 1)) (d + 1) := by
    intro i
    unfold sb aftR
    rw [mul2_psum' (fun a => mul2 (aft (pw2 F i a) B (d + 1)) (pw2 A a))]
    refine Ser.psum_ext _ (fun a _ => ?_)
    rw [mul2_lc, mul2_aft]
    refine Ser.psum_ext _ (fun b _ => ?_)
    rw [mul2_lc, mul2_aft, ← Ser.psum_mul]
    refine Ser.psum_ext _ (fun c _ => ?_)
    have : mul2 (pw2 C c) (mul2 (pw2 B b) (pw2 A a)) = mul2 (mul2 (pw2 A a) (pw2 B b)) (pw2 C c) := by
      rw [mul2_comm (pw2 C c), mul2_comm (pw2 B b)]
    rw [this, ← Int.mul_assoc, Int.mul_comm (pw2 F i a b)]
  rw [Ser.psum_ext _ (fun i _ => e2 i), Ser.psum_swap]
  refine Ser.psum_ext _ (fun a _ => ?_)
  rw [Ser.psum_swap]
  refine Ser.psum_ext _ (fun b _ => ?_)
  rw [Ser.psum_swap]
  refine Ser.psum_ext _ (fun c _ => ?_)
  exact Ser.psum_mul' _ _ _
theorem beF_br {m : Int} {d : Nat} {F : Nat → Nat → Int} (hN : Norm d F) {a b c : Nat} (h : a + b + c ≤ d) : beF F (d + 1) a b c % m = br m d F a b c := by
  unfold beF br brS
  rw [psum_cut _ (d + 1 - c) (d + 1) (by omega) (fun i h1 _ => by rw [hN.over i c (by omega), Int.zero_mul])]
  refine Ser.psum_congr _ (fun i _ => Ser.mul_cong rfl ?_)
  rw [pwT_tab, pc_tab (by omega), Int.emod_emod]
/-- a law: its table, and that it is associative -/
structure LawF (m : Int) (d : Nat) (F : Nat → Nat → Int) : Prop where
  norm : Norm d F
  ass : ∀ a b c, a + b + c ≤ d → br m d F a b c = br m d F c b a
theorem sb_turn {m : Int} {d : Nat} {F A B C : Nat → Nat → Int} (hF : LawF m d F) (hA : A 0 0 = 0) (hB : B 0 0 = 0) (hC : C 0 0 = 0) :
    Eq m d (sb F (sb F A B (d + 1)) C (d + 1)) (sb F (sb F C B (d + 1)) A (d + 1)) := by
  refine (sb_sb hA hB m d F C).trans (Eq.trans ?_ (sb_sb hC hB m d F A).symm)
  refine (T3_congr hA hB hC (β' := fun a b c => beF F (d + 1) c b a) _ (fun a b c h => ?_)).trans (Eq.fn ?_)
  · rw [beF_br hF.norm h, beF_br hF.norm (show c + b + a ≤ d by omega), hF.ass a b c h]
  · rw [T3_swap]
theorem norm_00 {d : Nat} {F : Nat → Nat → Int} (h : Norm d F) : F 0 0 = 0 := h.x 0 (Nat.zero_le _)
theorem sb_00 {d : Nat} {F A B : Nat → Nat → Int} (h : Norm d F) (hA : A 0 0 = 0) (hB : B 0 0 = 0) : sb F A B (d + 1) 0 0 = 0 := by
  rw [sb_at]
  refine psum_nil _ _ (fun i _ => psum_nil _ _ (fun j _ => ?_))
  by_cases e : 0 < j + i
  · rw [((LowT.pw hB j).mul (LowT.pw hA i)) 0 0 (by omega), Int.mul_zero]
  · obtain ⟨rfl, rfl⟩ : i = 0 ∧ j = 0 := by omega
    rw [norm_00 h, Int.zero_mul]
/-- four in the places: the two in the middle change -/
theorem sb_four {m : Int} {d : Nat} {F A B C D : Nat → Nat → Int} (hF : LawF m d F) (hA : A 0 0 = 0) (hB : B 0 0 = 0) (hC : C 0 0 = 0) (hD : D 0 0 = 0) :
    Eq m d (sb F (sb F A B (d + 1)) (sb F C D (d + 1)) (d + 1)) (sb F (sb F A C (d + 1)) (sb F B D (d + 1)) (d + 1)) := by
  have hCD := sb_00 hF.norm hC hD
  have hBD := sb_00 hF.norm hB hD
  refine (sb_turn hF hA hB hCD).trans ?_
  refine (sb_congr F _ (sb_turn hF hC hD hB) (Eq.refl _ _ A)).trans ?_
  exact sb_turn hF hBD hC hA
theorem aft_pwE {G : Nat → Nat → Int} (hG : G 0 0 = 0) (m : Int) (d : Nat) (f : Nat → Int) : ∀ i, Eq m d (aft (pw f i) G (d + 1)) (pw2 (aft f G (d + 1)) i)
  | 0 => Eq.fn (aft_c 1 G (d + 1) (by omega))
  | i + 1 => (Eq.of m d (fun p q hpq => (aft_mul (pw f i) f hG d p q hpq).symm)).trans (Eq.mul2 (aft_pwE hG m d f i) (Eq.refl _ _ _))
/-- a sum of curves at a table -/
theorem aft_put {G : Nat → Nat → Int} (hG : G 0 0 = 0) (m : Int) (d : Nat) (F : Nat → Nat → Int) (b c : Nat → Int) :
    Eq m d (aft (putF F b c (d + 1)) G (d + 1)) (sb F (aft b G (d + 1)) (aft c G (d + 1)) (d + 1)) := by
  intro p q hpq
  have e1 : aft (putF F b c (d + 1)) G (d + 1) p q = psum (fun i => psum (fun j => F i j * aft (Ser.mul (pw b i) (pw c j)) G (d + 1) p q) (d + 1)) (d + 1) := by
    have h1 := aft_psum (fun i n => psum (fun j => F i j * cv n (pw b i) (pw c j)) (d + 1)) (d + 1) G (d + 1) p q
    refine h1.trans (Ser.psum_ext _ (fun i _ => ?_))
    have h2 := aft_psum (fun j n => F i j * cv n (pw b i) (pw c j)) (d + 1) G (d + 1) p q
    refine h2.trans (Ser.psum_ext _ (fun j _ => ?_))
    exact congrFun (congrFun (aft_smul (F i j) (fun n => cv n (pw b i) (pw c j)) G (d + 1)) p) q
  rw [e1, sb_at]
  refine Ser.psum_congr _ (fun i _ => Ser.psum_congr _ (fun j _ => Ser.mul_cong rfl ?_))
  rw [← aft_mul (pw b i) (pw c j) hG d p q hpq, mul2_comm]
  exact mul2_congr (aft_pwE hG m d c j) (aft_pwE hG m d b i) p q hpq
/-- a homomorphism of the law to itself -/
def Endo (m : Int) (d : Nat) (F : Nat → Nat → Int) (a : Nat → Int) : Prop := Eq m d (aft a F (d + 1)) (sb F (aft a (mon2 1 0) (d + 1)) (aft a (mon2 0 1) (d + 1)) (d + 1))
theorem Endo.congr {m : Int} {d : Nat} {F : Nat → Nat → Int} {a b : Nat → Int} (h : ∀ i, i ≤ d → a i % m = b i % m) (ha : Endo m d F a) : Endo m d F b := by
  have k : ∀ G, Eq m d (aft a G (d + 1)) (aft b G (d + 1)) := fun G => aft_congr (d + 1) (fun i hi => h i (by omega)) (Eq.refl _ _ _)
  exact (k F).symm.trans (Eq.trans ha (sb_congr F _ (k _) (k _)))
theorem aft_00 {G : Nat → Nat → Int} (hG : G 0 0 = 0) {a : Nat → Int} (ha : a 0 = 0) (n : Nat) : aft a G n 0 0 = 0 := by
  refine psum_nil _ _ (fun i _ => ?_)
  by_cases e : i = 0
  · rw [e, ha, Int.zero_mul]
  · rw [(LowT.pw hG i) 0 0 (by omega), Int.mul_zero]
theorem Endo.put {m : Int} {d : Nat} {F : Nat → Nat → Int} {b c : Nat → Int} (hF : LawF m d F) (b0 : b 0 = 0) (c0 : c 0 = 0) (hb : Endo m d F b) (hc : Endo m d F c) : Endo m d F (putF F b c (d + 1)) := by
  have hx : mon2 1 0 0 0 = 0 := rfl
  have hy : mon2 0 1 0 0 = 0 := rfl
  refine (aft_put (norm_00 hF.norm) m d F b c).trans ?_
  refine (sb_congr F _ hb hc).trans ?_
  refine (sb_four hF (aft_00 hx b0 _) (aft_00 hy b0 _) (aft_00 hx c0 _) (aft_00 hy c0 _)).trans ?_
  exact sb_congr F _ (aft_put hx m d F b c).symm (aft_put hy m d F b c).symm
theorem pw2_zeroT : ∀ j, 0 < j → pw2 (fun _ _ => 0) j = fun _ _ => 0
  | j + 1, _ => by
    show mul2 (pw2 (fun _ _ => 0) j) (fun _ _ => 0) = _
    rw [mul2_comm, zero_mul2]
theorem Endo.zero {m : Int} {d : Nat} {F : Nat → Nat → Int} (hF : LawF m d F) : Endo m d F (fun _ => 0) := by
  unfold Endo
  rw [aft_zero, aft_zero, aft_zero]
  refine Eq.of m d (fun p q _ => ?_)
  rw [sb_at]
  refine (psum_nil _ _ (fun i _ => psum_nil _ _ (fun j _ => ?_))).symm
  by_cases hi : i = 0
  · by_cases hj : j = 0
    · rw [hi, hj, norm_00 hF.norm, Int.zero_mul]
    · rw [pw2_zeroT j (by omega), zero_mul2, Int.mul_zero]
  · rw [pw2_zeroT i (by omega), mul2_comm, zero_mul2, Int.mul_zero]
theorem Endo.one {m : Int} {d : Nat} (d1 : 1 ≤ d) (F : Nat → Nat → Int) : Endo m d F (Ser.mon 1 1) := by
  unfold Endo
  rw [aft_t 1 F (d + 1) (by omega), aft_t 1 _ (d + 1) (by omega), aft_t 1 _ (d + 1) (by omega), one_sm, one_sm, one_sm]
  refine Eq.of m d (fun p q hpq => ?_)
  unfold sb aftR
  have e : ∀ i, mul2 (aft (F i) (mon2 0 1) (d + 1)) (pw2 (mon2 1 0) i) p q = if i = p then F i q else 0 := by
    intro i
    rw [pw2_x, mul2_mon2, aft_y _ _ _ _ (by omega)]
    by_cases h : i = p
    · rw [if_pos h, if_pos ⟨by omega, by omega⟩, if_pos (by omega), Nat.sub_zero]
    · rw [if_neg h]
      by_cases h2 : i ≤ p ∧ 0 ≤ q
      · rw [if_pos h2, if_neg (by omega)]
      · rw [if_neg h2]
  rw [psum_at _ p (d + 1) (by omega) (fun i _ hi => by rw [e, if_neg hi]), e, if_pos rfl]
/-- with curves of both variables -/
theorem sb_xy (m : Int) (d : Nat) (F : Nat → Nat → Int) (a b : Nat → Int) : Eq m d (sb F (aft a (mon2 1 0) (d + 1)) (aft b (mon2 0 1) (d + 1)) (d + 1)) (subB F a b (d + 1)) := by
  intro p q hpq
  rw [sb_at]
  refine Ser.psum_congr _ (fun i _ => Ser.psum_congr _ (fun j _ => Ser.mul_cong rfl ?_))
  rw [mul2_congr (aft_pwE (G := mon2 0 1) rfl m d b j).symm (aft_pwE (G := mon2 1 0) rfl m d a i).symm p q hpq]
  congr 1
  unfold mul2
  rw [psum_at _ 0 (p + 1) (by omega) (fun x hx h0 => psum_nil _ _ (fun y hy => by rw [aft_y _ _ _ _ (by omega), if_neg h0, Int.zero_mul])),
    psum_at _ q (q + 1) (by omega) (fun y hy h0 => by rw [aft_x _ _ _ _ (by omega), if_neg (show ¬ q - y = 0 by omega), Int.mul_zero]),
    aft_y _ _ _ _ (by omega), if_pos rfl, aft_x _ _ _ _ (by omega), if_pos (by omega), Nat.sub_zero, Int.mul_comm]
theorem pw_lowM {m : Int} {a : Nat → Int} {n : Nat} (h : ∀ i, i < n → a i % m = 0) : ∀ j k, 0 < j → k < n → pw a j k % m = 0
  | j + 1, k, _, hk => by
    show Ser.mul (pw a j) a k % m = 0
    rw [Ser.mul_at, Ser.cv_psum]
    have e := Ser.psum_congr (m := m) (f := fun i => pw a j i * a (k - i)) (g := fun _ => 0) (k + 1) (fun i _ => by
      have := Ser.mul_cong (m := m) (x := pw a j i) (y := pw a j i) rfl (show a (k - i) % m = 0 % m by rw [h (k - i) (by omega), Int.zero_emod])
      rw [this, Int.mul_zero])
    rw [e, Ser.psum_zero, Int.zero_emod]
/-- the first coefficient, times the binomial numbers of its degree, is nothing -/
theorem Endo.lead {m : Int} {d : Nat} {F : Nat → Nat → Int} {a : Nat → Int} (hL : Lin F) (he : Endo m d F a) {n k : Nat} (hk0 : 0 < k) (hkn : k < n) (hnd : n ≤ d) (hl : ∀ i, i < n → a i % m = 0) :
    (a n * ((Num.bin n k : Nat) : Int)) % m = 0 := by
  have h := he k (n - k) (by omega)
  rw [sb_xy m d F a a k (n - k) (by omega)] at h
  have e1 : aft a F (d + 1) k (n - k) % m = (a n * ((Num.bin n k : Nat) : Int)) % m := by
    have := Ser.psum_congr (m := m) (f := fun i => a i * pw2 F i k (n - k)) (g := fun i => if i = n then a n * ((Num.bin n k : Nat) : Int) else 0) (d + 1) (fun i _ => by
      by_cases e : i = n
      · subst e
        rw [if_pos rfl, pw2_lead hL i k (i - k) (by omega)]
      · rw [if_neg e]
        by_cases e2 : i < n
        · have := Ser.mul_cong (m := m) (show a i % m = 0 % m by rw [hl i e2, Int.zero_emod]) (show pw2 F i k (n - k) % m = pw2 F i k (n - k) % m from rfl)
          rw [this, Int.zero_mul]
        · rw [pw2_low hL i k (n - k) (by omega), Int.mul_zero])
    refine this.trans ?_
    rw [psum_at _ n (d + 1) (by omega) (fun i _ hi => if_neg hi), if_pos rfl]
  have e2 : subB F a a (d + 1) k (n - k) % m = 0 := by
    have := Ser.psum_congr (m := m) (f := fun i => psum (fun j => F i j * (pw a i k * pw a j (n - k))) (d + 1)) (g := fun _ => 0) (d + 1) (fun i _ => by
      by_cases e : i = 0
      · subst e
        rw [psum_nil _ _ (fun j _ => by
          have : pw a 0 k = 0 := by show Ser.mon 0 1 k = 0; unfold Ser.mon; rw [if_neg (by omega)]
          rw [this, Int.zero_mul, Int.mul_zero])]
      · have h0 := pw_lowM hl i k (by omega) hkn
        rw [Ser.psum_congr (m := m) (g := fun _ => 0) (d + 1) (fun j _ => by
          have h1 := Ser.mul_cong (m := m) (show pw a i k % m = 0 % m by rw [h0, Int.zero_emod]) (show pw a j (n - k) % m = pw a j (n - k) % m from rfl)
          rw [Int.zero_mul] at h1
          have h2 := Ser.mul_cong (m := m) (show F i j % m = F i j % m from rfl) h1
          rw [h2, Int.mul_zero]), Ser.psum_zero])
    refine this.trans ?_
    rw [Ser.psum_zero, Int.zero_emod]
  rw [← e1, h, e2]
/-- up to degree 10, modulo a prime number: the first degree is a power of it -/
theorem pow_lead : ∀ p ∈ [2, 3, 5, 7], ∀ a ∈ List.range p, a ≠ 0 → ∀ n ∈ List.range 11, 2 ≤ n → (∀ k ∈ List.range n, k ≠ 0 → (a * Num.bin n k) % p = 0) → n = p ∨ n = p ^ 2 ∨ n = p ^ 3 := by decide +kernel
end Pl
end Go.Proofs.YtfhdgcndiljjcaaGreatDoor

/- Plain: multiples are homomorphisms of the law to itself; the multiple by the prime number begins at a power of it. -/
namespace Go.Proofs.YtfhdgcndiljjcaaGreatDoor
open Go.RowKit

namespace Pl
open Ser (psum pw)
theorem psum_head2 (f : Nat → Int) (h : ∀ i, 2 ≤ i → f i = 0) : ∀ n, psum f (n + 2) = f 0 + f 1
  | 0 => by show 0 + f 0 + f 1 = _; omega
  | n + 1 => by
    show psum f (n + 2) + f (n + 2) = _
    rw [psum_head2 f h n, h (n + 2) (by omega), Int.add_zero]
theorem put_1 {d : Nat} {F : Nat → Nat → Int} {a b : Nat → Int} (hN : Norm d F) (hd : 1 ≤ d) (ha : a 0 = 0) (hb : b 0 = 0) : putF F a b (d + 1) 1 = a 1 + b 1 := by
  have c1 : ∀ u v : Nat → Int, Ser.cv 1 u v = u 0 * v 1 + u 1 * v 0 := fun _ _ => rfl
  have p1 : ∀ u : Nat → Int, pw u 1 1 = u 1 := fun u => by
    show Ser.cv 1 (Ser.mon 0 1) u = u 1
    rw [c1]; show 1 * u 1 + 0 * u 0 = u 1; omega
  have z0 : ∀ u : Nat → Int, pw u 0 0 = 1 := fun _ => rfl
  have z1 : ∀ u : Nat → Int, pw u 0 1 = 0 := fun _ => rfl
  obtain ⟨e, rfl⟩ : ∃ e, d = e + 1 := ⟨d - 1, by omega⟩
  unfold putF
  rw [show e + 1 + 1 = e + 2 by omega, psum_head2 _ (fun i hi => psum_nil _ _ (fun j _ => by
    rw [c1, Ser.pw_low ha i 0 (by omega), Ser.pw_low ha i 1 (by omega), Int.zero_mul, Int.zero_mul]; exact Int.mul_zero _))]
  rw [psum_head2 (fun j => F 0 j * Ser.cv 1 (pw a 0) (pw b j)) (fun j hj => by
    show F 0 j * Ser.cv 1 (pw a 0) (pw b j) = 0
    rw [c1, Ser.pw_low hb j 0 (by omega), Ser.pw_low hb j 1 (by omega), Int.mul_zero, Int.mul_zero]; exact Int.mul_zero _)]
  rw [psum_head2 (fun j => F 1 j * Ser.cv 1 (pw a 1) (pw b j)) (fun j hj => by
    show F 1 j * Ser.cv 1 (pw a 1) (pw b j) = 0
    rw [c1, Ser.pw_low hb j 0 (by omega), Ser.pw_low hb j 1 (by omega), Int.mul_zero, Int.mul_zero]; exact Int.mul_zero _)]
  have f10 : F 1 0 = 1 := hN.x 1 (by omega)
  have f01 : F 0 1 = 1 := hN.y 1 (by omega)
  rw [c1, c1, c1, c1, z0, z1, p1, z0, z1, p1, Ser.pw_low ha 1 0 (by omega), Ser.pw_low hb 1 0 (by omega), norm_00 hN, f10, f01]
  omega
end Pl

theorem law_F {m : Int} {d : Nat} {t : List (List Int)} (hs : Pl.Ok m d t) (hf : Pl.fau m d (Pl.pc t) = none) : Pl.LawF m d (Pl.pc t) := by
  refine ⟨Pl.norm_law hf hs, Pl.fauT_none ?_⟩
  obtain ⟨h1, h2⟩ := Pl.fau_parts hf
  unfold Pl.fau at hf
  rw [h1, h2, Pl.orE_none, Pl.orE_none] at hf
  exact hf
theorem mulK_endo {m : Int} {d : Nat} {t : List (List Int)} (hs : Pl.Ok m d t) (hf : Pl.fau m d (Pl.pc t) = none) (K : Nat) {l : List Int} (hl : Cv m d l) (he : Pl.Endo m d (Pl.pc t) (Ser.co l)) :
    Pl.Endo m d (Pl.pc t) (Ser.co (mulK m d t K l)) := by
  have hF := law_F hs hf
  refine (Ser.repS_keep _ (fun l => Cv m d l ∧ Pl.Endo m d (Pl.pc t) (Ser.co l)) (fun P S hP hS => ⟨put_cv hs hF.norm P S hP.1 hS.1, ?_⟩) K _ _ ⟨lin_cv hs 0, ?_⟩ ⟨hl, he⟩).2
  · exact (Pl.Endo.put hF hP.1.2 hS.1.2 hP.2 hS.2).congr (fun i hi => by rw [Pl.put_cut hi, Int.emod_emod])
  · refine (Pl.Endo.zero hF).congr (fun i hi => ?_)
    unfold Pl.lin
    rw [Ser.co_cut hi, Int.emod_emod]
    unfold Ser.mon
    by_cases h : i = 1
    · rw [if_pos h]
    · rw [if_neg h]
theorem lin_endo {m : Int} {d : Nat} (hd : 1 ≤ d) (F : Nat → Nat → Int) : Pl.Endo m d F (Ser.co (Pl.lin m d 1)) :=
  (Pl.Endo.one hd F).congr (fun i hi => by unfold Pl.lin; rw [Ser.co_cut hi, Int.emod_emod])
theorem repS_one {m : Int} {d : Nat} {t : List (List Int)} (hs : Pl.Ok m d t) (hN : Pl.Norm d (Pl.pc t)) : ∀ (K : Nat) (P S : List Int), Cv m d P → Cv m d S → Ser.co (Ser.repS (Pl.putL m d (Pl.pc t)) K P S) 1 % m = (Ser.co P 1 + (K : Int) * Ser.co S 1) % m := by
  have hop : ∀ P S, Cv m d P → Cv m d S → Ser.co (Pl.putL m d (Pl.pc t) P S) 1 = (Ser.co P 1 + Ser.co S 1) % m := fun P S hP hS => by
    rw [Pl.put_cut hs.d1, Pl.put_1 hN hs.d1 hP.2 hS.2]
  intro K
  induction K using Nat.strongRecOn with
  | ind K ih =>
    intro P S hP hS
    by_cases h0 : K = 0
    · subst h0
      rw [Ser.repS_zero, Int.natCast_zero, Int.zero_mul, Int.add_zero]
    · have hSS := put_cv hs hN S S hS hS
      by_cases h1 : K % 2 = 1
      · rw [Ser.repS_odd _ _ _ h1, ih (K / 2) (by omega) _ _ (put_cv hs hN P S hP hS) hSS, hop P S hP hS, hop S S hS hS]
        have hk : (K : Int) = 2 * ((K / 2 : Nat) : Int) + 1 := by omega
        obtain ⟨k, hk2⟩ : ∃ k, ((K / 2 : Nat) : Int) = k := ⟨_, rfl⟩
        rw [hk2] at hk ⊢
        rw [hk, Int.add_emod, Int.emod_emod, Int.mul_emod, Int.emod_emod, ← Int.mul_emod, ← Int.add_emod]
        congr 1; grind
      · rw [Ser.repS_even _ _ _ h0 h1, ih (K / 2) (by omega) _ _ hP hSS, hop S S hS hS]
        have hk : (K : Int) = 2 * ((K / 2 : Nat) : Int) := by omega
        obtain ⟨k, hk2⟩ : ∃ k, ((K / 2 : Nat) : Int) = k := ⟨_, rfl⟩
        rw [hk2] at hk ⊢
        rw [hk, Int.add_emod, Int.mul_emod, Int.emod_emod, ← Int.mul_emod, ← Int.add_emod]
        congr 1; grind
/-- the multiple by p, modulo p: it begins at a power of p -/
theorem mulP_lead {p d : Nat} {t : List (List Int)} (hp : p = 2 ∨ p = 3 ∨ p = 5 ∨ p = 7) (hs : Pl.Ok p d t) (hf : Pl.fau p d (Pl.pc t) = none) {n : Nat} (hn : n ≤ d)
    (hl : ∀ i, i < n → Ser.co (mulK p d t p (Pl.lin p d 1)) i = 0) (hn0 : Ser.co (mulK p d t p (Pl.lin p d 1)) n ≠ 0) : n = p ∨ n = p ^ 2 ∨ n = p ^ 3 := by
  have hF := law_F hs hf
  have hc := mulK_cv hs hF.norm p (lin_cv hs 1)
  have he := mulK_endo hs hf p (lin_cv hs 1) (lin_endo hs.d1 _)
  have h1 := repS_one hs hF.norm p _ _ (lin_cv hs 0) (lin_cv hs 1)
  have hr := hc.1.red
  have hL : Pl.Lin (Pl.pc t) := ⟨Pl.norm_00 hF.norm, hF.norm.x 1 hs.d1, hF.norm.y 1 hs.d1⟩
  change Ser.co (mulK p d t p (Pl.lin p d 1)) 1 % _ = _ at h1
  obtain ⟨l, hll⟩ : ∃ l, mulK p d t p (Pl.lin p d 1) = l := ⟨_, rfl⟩
  rw [hll] at hl hn0 hc he h1 hr
  have hb : ∀ i, 0 ≤ Ser.co l i ∧ Ser.co l i < (p : Int) := hr
  have h1z : Ser.co l 1 = 0 := by
    have e0 : Ser.co (Pl.lin (p : Int) d 0) 1 = 0 := by
      unfold Pl.lin; rw [Ser.co_cut hs.d1]; unfold Ser.mon; rw [if_pos rfl, Int.zero_emod]
    rw [e0, Int.zero_add, Int.mul_emod_right] at h1
    have := hb 1
    rw [Int.emod_eq_of_lt this.1 this.2] at h1
    exact h1
  have hn2 : 2 ≤ n := by
    rcases Nat.lt_or_ge n 2 with h | h
    · exfalso
      rcases Nat.lt_or_ge n 1 with h' | h'
      · obtain rfl : n = 0 := by omega
        exact hn0 hc.2
      · obtain rfl : n = 1 := by omega
        exact hn0 h1z
    · exact h
  obtain ⟨a, ha⟩ := Int.eq_ofNat_of_zero_le (hb n).1
  have hlt := (hb n).2
  refine Pl.pow_lead p (by simp; exact hp) a (List.mem_range.2 (by omega)) (by omega) n (List.mem_range.2 (by have := hs.d2; omega)) hn2 (fun k hk hk0 => ?_)
  have hk := List.mem_range.1 hk
  have := he.lead hL (by omega) hk hn (fun i hi => by rw [hl i hi, Int.zero_emod])
  rw [ha] at this
  have h3 : ((a * Num.bin n k : Nat) : Int) % (p : Int) = 0 := by rw [Int.natCast_mul]; exact this
  omega
end Go.Proofs.YtfhdgcndiljjcaaGreatDoor

/- Plain: the height, as the model finds it, is what the program reads off the order of the multiple. -/
namespace Go.Proofs.YtfhdgcndiljjcaaGreatDoor
open Go.RowKit

/-- the model's search: the least power of p with a number other than 0 -/
def hgS (R : List Int) (p : Nat) : Nat → Nat → Nat → Nat
  | 0, _, _ => 0
  | f + 1, h, n => if n < R.length then (if Ser.co R n = 0 then hgS R p f (h + 1) (n * p) else h) else 0
def hgN (R : List Int) (p : Nat) : Nat := hgS R p 5 1 p
theorem ordF_at (l : List Int) : ∀ f k, (∃ n : Nat, ordF l f k = ((n : Int), 0) ∧ k ≤ n ∧ n < k + f ∧ Ser.co l n ≠ 0 ∧ ∀ i, k ≤ i → i < n → Ser.co l i = 0) ∨ (ordF l f k = (0, 5) ∧ ∀ i, k ≤ i → i < k + f → Ser.co l i = 0)
  | 0, k => .inr ⟨rfl, fun i h1 h2 => absurd h2 (by omega)⟩
  | f + 1, k => by
    by_cases h : Ser.co l k = 0
    · rw [ordF_zero l f k h]
      rcases ordF_at l f (k + 1) with ⟨n, h1, h2, h3, h4, h5⟩ | ⟨h1, h2⟩
      · refine .inl ⟨n, h1, by omega, by omega, h4, fun i i1 i2 => ?_⟩
        rcases Nat.eq_or_lt_of_le i1 with rfl | h6
        · exact h
        · exact h5 i h6 i2
      · refine .inr ⟨h1, fun i i1 i2 => ?_⟩
        rcases Nat.eq_or_lt_of_le i1 with rfl | h6
        · exact h
        · exact h2 i h6 (by omega)
    · rw [ordF_not l f k h]
      exact .inl ⟨k, rfl, Nat.le_refl _, by omega, h, fun i i1 i2 => absurd i2 (by omega)⟩
theorem tk_pow {p : Nat} (hp : 2 ≤ p) : ∀ h : Nat, tk (p : Int) ((p ^ h : Nat) : Int) = ((h : Int), 1)
  | 0 => by
    rw [Nat.pow_zero]
    refine tk_no ?_
    have h0 : ((1 : Nat) : Int).tmod (p : Int) = ((1 % p : Nat) : Int) := rfl
    rw [h0, Nat.mod_eq_of_lt (by omega)]
    omega
  | h + 1 => by
    have hpos : 0 < p ^ h := Nat.pow_pos (by omega)
    have e0 : p ^ (h + 1) = p ^ h * p := Nat.pow_succ _ _
    have e1 : ((p ^ (h + 1) : Nat) : Int).tmod (p : Int) = 0 := by
      have : ((p ^ (h + 1) : Nat) : Int).tmod (p : Int) = ((p ^ (h + 1) % p : Nat) : Int) := rfl
      rw [this, e0, Nat.mul_mod_left]; rfl
    have e2 : ((p ^ (h + 1) : Nat) : Int).tdiv (p : Int) = ((p ^ h : Nat) : Int) := by
      have : ((p ^ (h + 1) : Nat) : Int).tdiv (p : Int) = ((p ^ (h + 1) / p : Nat) : Int) := rfl
      rw [this, e0, Nat.mul_div_cancel _ (by omega)]
    have hne : ((p ^ (h + 1) : Nat) : Int) ≠ 0 := by
      have : 0 < p ^ (h + 1) := Nat.pow_pos (by omega)
      omega
    rw [tk_yes (by omega) hne e1, e2, tk_pow hp h]
    rfl
/-- what the multiple by p tells -/
structure Hgt (R : List Int) (p d h : Nat) : Prop where
  h1 : 1 ≤ h
  le : p ^ h ≤ d
  ord : ordF R R.length 0 = (((p ^ h : Nat) : Int), 0)
  ne : Ser.co R (p ^ h) ≠ 0
  is : hgN R p = h
theorem hgt_or {p d : Nat} {t : List (List Int)} (hp : p = 2 ∨ p = 3 ∨ p = 5 ∨ p = 7) (hs : Pl.Ok p d t) (hf : Pl.fau p d (Pl.pc t) = none) {R : List Int} (hR : mulC (p : Int) d t p (Pl.lin p d 1) = R) :
    (∃ h, Hgt R p d h) ∨ (ordF R R.length 0 = (0, 5) ∧ hgN R p = 0) := by
  have hK : mulC (p : Int) d t p (Pl.lin p d 1) = mulK p d t p (Pl.lin p d 1) := by
    unfold mulC; rw [if_neg (by omega), Int.toNat_natCast]
  rw [hK] at hR
  have hlen : R.length = d + 1 := by rw [← hR]; exact (mulK_cv hs (Pl.norm_law hf hs) p (lin_cv hs 1)).1.len
  have hd2 := hs.d2
  have hlead := fun n hn hl h0 => mulP_lead (n := n) hp hs hf hn hl h0
  rw [hR] at hlead
  rcases ordF_at R R.length 0 with ⟨n, h1, -, h3, h4, h5⟩ | ⟨h1, h2⟩
  · left
    have hn := hlead n (by omega) (fun i hi => h5 i (Nat.zero_le _) hi) h4
    have z := fun i (hi : i < n) => h5 i (Nat.zero_le _) hi
    have p2 : p ^ 2 = p * p := by rw [Nat.pow_succ, Nat.pow_one]
    have p3 : p ^ 3 = p * p * p := by rw [Nat.pow_succ, p2]
    have hp2 : 2 ≤ p := by omega
    have l1 : p < p * p := by have := Nat.mul_le_mul_left p hp2; omega
    have l2 : p * p < p * p * p := by have := Nat.mul_le_mul_left (p * p) hp2; omega
    rcases hn with rfl | rfl | rfl
    · refine ⟨1, Nat.le_refl _, by rw [Nat.pow_one]; omega, by rw [Nat.pow_one]; exact h1, by rw [Nat.pow_one]; exact h4, ?_⟩
      unfold hgN hgS
      rw [if_pos (by omega), if_neg h4]
    · rw [p2] at h1 h3 h4 z
      refine ⟨2, by omega, by rw [p2]; omega, by rw [p2]; exact h1, by rw [p2]; exact h4, ?_⟩
      unfold hgN hgS
      rw [if_pos (by omega), if_pos (z p l1)]
      unfold hgS
      rw [if_pos (by omega), if_neg h4]
    · rw [p3] at h1 h3 h4 z
      refine ⟨3, by omega, by rw [p3]; omega, by rw [p3]; exact h1, by rw [p3]; exact h4, ?_⟩
      unfold hgN hgS
      rw [if_pos (by omega), if_pos (z p (by omega))]
      unfold hgS
      rw [if_pos (by omega), if_pos (z (p * p) l2)]
      unfold hgS
      rw [if_pos (by omega), if_neg h4]
  · right
    refine ⟨h1, ?_⟩
    have z : ∀ f h n, hgS R p f h n = 0 := by
      intro f
      induction f with
      | zero => intros; rfl
      | succ f ih =>
        intro h n
        unfold hgS
        by_cases hn : n < R.length
        · rw [if_pos hn, if_pos (h2 n (Nat.zero_le _) (by omega)), ih]
        · rw [if_neg hn]
    exact z _ _ _
/-- height, unit, series and code of a law -/
def stM (m : Int) (t : List (List Int)) : Int × Int × List Int × Int :=
  if codeH m t = 0 then
    (if hgN (mulC m (t.length - 1) t m (Pl.lin m (t.length - 1) 1)) m.toNat = 0 then (0, 0, [], 4)
      else ((hgN (mulC m (t.length - 1) t m (Pl.lin m (t.length - 1) 1)) m.toNat : Int), Ser.co (mulC m (t.length - 1) t m (Pl.lin m (t.length - 1) 1)) (m.toNat ^ hgN (mulC m (t.length - 1) t m (Pl.lin m (t.length - 1) 1)) m.toNat),
        serH (mulC m (t.length - 1) t m (Pl.lin m (t.length - 1) 1)) (m.toNat ^ hgN (mulC m (t.length - 1) t m (Pl.lin m (t.length - 1) 1)) m.toNat) ((t.length - 1) / m.toNat ^ hgN (mulC m (t.length - 1) t m (Pl.lin m (t.length - 1) 1)) m.toNat), 0))
  else (0, 0, [], codeH m t)
theorem stM_ok {p d h : Nat} {t : List (List Int)} {R : List Int} (hc : codeH p t = 0) (hl : t.length = d + 1) (hR : mulC (p : Int) d t p (Pl.lin p d 1) = R) (hH : Hgt R p d h) : stM p t = ((h : Int), Ser.co R (p ^ h), serH R (p ^ h) (d / p ^ h), 0) := by
  unfold stM
  have h1 := hH.h1
  rw [if_pos hc, hl, Nat.add_sub_cancel, Int.toNat_natCast, hR, hH.is, if_neg (by omega)]
theorem stM_none {p d : Nat} {t : List (List Int)} {R : List Int} (hc : codeH p t = 0) (hl : t.length = d + 1) (hR : mulC (p : Int) d t p (Pl.lin p d 1) = R) (hH : hgN R p = 0) : stM p t = (0, 0, [], 4) := by
  unfold stM
  rw [if_pos hc, hl, Nat.add_sub_cancel, Int.toNat_natCast, hR, hH, if_pos rfl]
end Go.Proofs.YtfhdgcndiljjcaaGreatDoor

/- Contracts of statureOf, HeightOf, UnitOfHeight, SeriesOfHeight, of the program. -/
namespace Go.Proofs.YtfhdgcndiljjcaaGreatDoor
open Go Go.RowKit Go.WideShapes Go.ChangeShapes Go.ChangeAt

theorem pro_st (w : World) (m : Int) (A : Option Addr) (n c : Nat) : ∃ W, ((w.alloc (.cells #[.int .i64 m, .slice A n c] 28)).alloc (.cells #[.int .i64 0, .int .i64 0, .slice none 0 0] 49)).alloc (.cells #[.int .i64 m, .slice A n c] 28) = W ∧
    Box W w.heap.size m A n c ∧ VarC 49 W (w.heap.size + 1) #[.int .i64 0, .int .i64 0, .slice none 0 0] ∧ Box W (w.heap.size + 1 + 1) m A n c ∧ Below w.heap.size w W := by
  refine ⟨_, rfl, ((Box.newT _ _ _ _ _ _).keep (below_one _ _)).keep (below_one _ _), ?_, ?_, below_alloc _ (below_alloc _ (below_one _ _))⟩
  · have := (VarC.new 49 (w.alloc (.cells #[.int .i64 m, .slice A n c] 28)) #[.int .i64 0, .int .i64 0, .slice none 0 0]).keep (below_one _ (.cells #[.int .i64 m, .slice A n c] 28))
    simpa using this
  · have := Box.newT 28 ((w.alloc (.cells #[.int .i64 m, .slice A n c] 28)).alloc (.cells #[.int .i64 0, .int .i64 0, .slice none 0 0] 49)) m A n c
    simpa using this
set_option maxHeartbeats 8000000 in
set_option maxRecDepth 100000 in
/-- a law's stature, whatever it and its error tell -/
theorem statureOf_gen (m : Int) (A : Option Addr) (c d : Nat) (t : List (List Int)) (H U C : Int) (S : List Int) (x : Value) (w : World) (hz : szT t ≤ 1048576) (hr : RP w A t) (h0 : isL m t = true) (e1 : t.length = d + 1)
    (hst : ∀ W0, Below w.heap.size w W0 → Calls Tryz.prog 40 #[.agg #[.int .i64 m, .int .i64 d, .slice A t.length c]] W0 fun e w' => ∃ v, e = .returned (.tuple #[.agg #[.int .i64 H, .int .i64 U, v], x]) ∧ OwnI w' W0.heap.size v S ∧ Below W0.heap.size W0 w')
    (hce : ∀ W0, Below w.heap.size w W0 → Calls Tryz.prog 41 #[x] W0 fun e w' => e = .returned (.int .i64 C) ∧ Below W0.heap.size W0 w') :
    Calls Tryz.prog 32 #[.agg #[.int .i64 m, .slice A t.length c]] w fun e w' => ∃ v, e = .returned (.tuple #[.agg #[.int .i64 H, .int .i64 U, v], .int .i64 C]) ∧ OwnI w' w.heap.size v S ∧ Below w.heap.size w w' := by
  obtain ⟨W, hW, b1, v2, b4, hwb⟩ := pro_st w m A t.length c
  have B1 := Lib.hid b1
  have V2 := Lib.hid v2
  have HB := Lib.hid hwb
  have HW := Lib.hid hW
  have hc := codeL1_any (w.heap.size + 1 + 1) m A c t W hz (hr.below hwb) b4
  unfold codeL1 at hc
  rw [if_pos h0] at hc
  have HC0 := Lib.hid hc
  obtain ⟨-, d', e2, ok, hf⟩ := isL_of h0
  have hd2 := ok.d2
  have HG := Lib.hid (fun W0 => lawOf_nat m A t.length c d W0 e1 (by omega))
  have HST := Lib.hid hst
  have HCE := Lib.hid hce
  have hsz : w.heap.size + 1 < W.heap.size := v2.lt
  obtain ⟨L, hL⟩ : ∃ L, t.length = L := ⟨_, rfl⟩
  rw [hL] at HG HST HW B1 ⊢
  obtain ⟨x1, x2, x3⟩ := B1.out
  clear b1 v2 b4 hwb hW hr hc h0 ok hf e1 e2 hz hL hst hce
  go_enter Tryz.func32, Tryz.ntmps32
  go_wp2_with fail
  rw [HW.out]
  refine HC0.out.mono ?_
  rintro e w1 ⟨rfl, hb1⟩
  have hb1W := below_step HB.out hb1
  obtain ⟨y1, y2, y3⟩ := B1.out.keep hb1
  go_wp2_with fail
  refine (HG.out _).mono ?_
  rintro e w2 ⟨rfl, hb2⟩
  have hbW2 := below_step hb1 hb2
  go_wp2_with fail
  refine (HST.out _ (below_step HB.out hbW2)).mono ?_
  rintro e w3 ⟨u, rfl, ho, hb3⟩
  obtain ⟨A1, c1, rfl, -⟩ := ho.form
  obtain ⟨X, hX⟩ : ∃ X, w3.alloc (.cells #[.int .i64 H, .int .i64 U, .slice A1 S.length c1] 49) = X := ⟨_, rfl⟩
  have hbX : Below W.heap.size W X := by rw [← hX]; exact below_alloc _ (below_step hbW2 hb3)
  have v5 : VarC 49 X w3.heap.size #[.int .i64 H, .int .i64 U, .slice A1 S.length c1] := by rw [← hX]; exact VarC.new _ _ _
  have hoX : OwnI X w2.heap.size (.slice A1 S.length c1) S := by rw [← hX]; exact ho.keep (below_one _ _)
  have hs2 : W.heap.size ≤ w2.heap.size := hbW2.size
  have HX := Lib.hid hX
  have HOX := Lib.hid hoX
  obtain ⟨g5, hg5⟩ : ∃ g, w3.heap.size = g := ⟨_, rfl⟩
  rw [hg5] at v5
  have HG5 := Lib.hid hg5
  have V5 := Lib.hid v5
  have hv := V2.out.keep hbX
  have VX := Lib.hid hv
  obtain ⟨q0, q1, q2, q3, q4, q5⟩ := hv.tells3
  obtain ⟨c0, c1', c2, -, -, -⟩ := v5.tells3
  have HBX := Lib.hid (below_step HB.out hbX)
  have HB1 := Lib.hid ((below_step HB.out hbX).trans ((below_drew0 X).mono (below_step HB.out hbX).size))
  have h3 := hv.set3 (.int .i64 H) (.int .i64 U) (.slice A1 S.length c1)
  obtain ⟨g0, g1, g2, g3, g4⟩ := fin_stat (w := w) hv hoX (by omega) (by omega) (below_step HB.out hbX) (.int .i64 H) (.int .i64 U) (.slice A1 S.length c1)
  unfold set3 at g3 g4 h3
  have HB2 := Lib.hid g4.drew
  have HV3 := Lib.hid h3.drew
  have HO3 := Lib.hid g3
  clear hX hbX hb1 hb2 hb3 ho hg5 v5 hoX hv h3 g0 g1 g2 g3 g4 x1 x2 x3 y1 y2 y3 hb1W hbW2
  go_upto_region 5 with fail
  rw [HX.out, HG5.out]
  go_region_with (first
    | (go_at_call 41; with_reducible refine Calls.mono (HCE.out _ (by first | exact HB1.out | exact HB2.out)) ?_; rintro e wa ⟨rfl, hba⟩; first
        | (have hbX := below_step (below_drew0 X) hba; have hv9 := VX.out.keep hbX; obtain ⟨r0, r1, r2, r3, r4, r5⟩ := hv9.tells3; have h59 := V5.out.keep hbX; obtain ⟨s0, s1, s2, -, -, -⟩ := h59.tells3)
        | (have hv9 := HV3.out.keep hba; obtain ⟨r0, r1, r2, r3, r4, r5⟩ := hv9.tells3)))
  all_goals
    obtain ⟨f0, f1, f2, f3, f4⟩ := fin_stat (w := w) hv9 (HOX.out.keep (hbX.mono (Nat.le_refl _))) (by omega) (by omega) (below_step HBX.out hbX) (.int .i64 H) (.int .i64 U) (.slice A1 S.length c1)
    unfold set3 at f0 f1 f2 f3 f4
    have F3 := Lib.hid (OwnI.more (b' := w.heap.size) f3 (by omega))
    have F4 := Lib.hid f4
    clear f3 f4
    go_wp2
    exact bodyPost_ret (v := .tuple #[.agg #[.int .i64 H, .int .i64 U, .slice A1 S.length c1], .int .i64 C]) (by simp [results, Tryz.results32, go_sem, f0, f1, f2]) rfl ⟨_, rfl, F3.out, F4.out⟩
/-- no law: the code alone -/
theorem statureOf_bad (m : Int) (A : Option Addr) (c : Nat) (t : List (List Int)) (w : World) (hz : szT t ≤ 1048576) (hr : RP w A t) (h0 : ¬ isL m t = true) :
    Calls Tryz.prog 32 #[.agg #[.int .i64 m, .slice A t.length c]] w fun e w' => e = .returned (.tuple #[.agg #[.int .i64 0, .int .i64 0, .slice none 0 0], .int .i64 1]) ∧ Below w.heap.size w w' := by
  obtain ⟨W, hW, b1, v2, b4, hwb⟩ := pro_st w m A t.length c
  have V2 := Lib.hid v2
  have HB := Lib.hid hwb
  have HW := Lib.hid hW
  have hc := codeL1_any (w.heap.size + 1 + 1) m A c t W hz (hr.below hwb) b4
  unfold codeL1 at hc
  rw [if_neg h0] at hc
  have HC0 := Lib.hid hc
  obtain ⟨x1, x2, x3⟩ := b1
  clear v2 b4 hwb hW hr hc h0 hz
  go_enter Tryz.func32, Tryz.ntmps32
  go_wp2_with fail
  rw [HW.out]
  refine HC0.out.mono ?_
  rintro e w1 ⟨rfl, hb1⟩
  have hv := V2.out.keep hb1
  obtain ⟨q0, q1, q2, q3, q4, q5⟩ := hv.tells3
  obtain ⟨f0, f1, f2, f3, f4⟩ := fin_stat (w := w) hv (OwnI.nil _ (w.heap.size + 1 + 1)) (by omega) (by omega) (below_step HB.out hb1) (.int .i64 0) (.int .i64 0) (.slice none 0 0)
  unfold set3 at f0 f1 f2 f4
  have F4 := Lib.hid f4
  clear f3 f4 hv hb1
  go_wp2
  exact bodyPost_ret (v := .tuple #[.agg #[.int .i64 0, .int .i64 0, .slice none 0 0], .int .i64 1]) (by simp [results, Tryz.results32, go_sem, f0, f1, f2]) rfl ⟨rfl, F4.out⟩
/-- a law's stature and code -/
theorem statureOf_any (m : Int) (A : Option Addr) (c : Nat) (t : List (List Int)) (w : World) (hz : szT t ≤ 1048576) (hr : RP w A t) (hE : ErrT w) (z : Value) (hZ : ErrZ w z) :
    Calls Tryz.prog 32 #[.agg #[.int .i64 m, .slice A t.length c]] w fun e w' => ∃ v, e = .returned (.tuple #[.agg #[.int .i64 (stM m t).1, .int .i64 (stM m t).2.1, v], .int .i64 (stM m t).2.2.2]) ∧ OwnI w' w.heap.size v (stM m t).2.2.1 ∧ Below w.heap.size w w' := by
  have hw0 : 0 < w.heap.size := Nat.lt_trans Nat.zero_lt_one hE.lt
  by_cases h0 : isL m t = true
  · obtain ⟨-, d, e1, ok, hf⟩ := isL_of h0
    by_cases hp : isP4 m = true
    · have hcH : codeH m t = 0 := by unfold codeH; rw [if_pos h0, if_pos hp]
      have hp4 := (isP4_iff m).1 hp
      obtain ⟨p, rfl⟩ := Int.eq_ofNat_of_zero_le (show 0 ≤ m by omega)
      obtain ⟨R, hR⟩ : ∃ R, mulC (p : Int) d t p (Pl.lin p d 1) = R := ⟨_, rfl⟩
      have hsR : isS (p : Int) R = true := by rw [← hR]; exact (mulC_cv ok (Pl.norm_law hf ok) p (lin_cv ok 1)).1.toS
      rcases hgt_or (by omega) ok hf hR with ⟨h, hH⟩ | ⟨ho, hn⟩
      · rw [stM_ok hcH e1 hR hH]
        have hpos : 1 ≤ p ^ h := Nat.pow_pos (by omega)
        have hC : ordM (p : Int) R = (((p ^ h : Nat) : Int), 0) := by unfold ordM; rw [if_pos hsR]; exact hH.ord
        refine statureOf_gen p A c d t h (Ser.co R (p ^ h)) 0 (serH R (p ^ h) (d / p ^ h)) .nilIface w hz hr h0 e1 (fun W0 hb => ?_) (fun W0 _ => codeOfError_nil W0)
        have := stature_ok p d A c t (p ^ h) W0 ok hf hp (hr.below hb) R hR hC hpos hH.le
        rw [tk_pow (by omega)] at this
        exact this
      · rw [stM_none hcH e1 hR hn]
        have hC : (ordM (p : Int) R).2 ≠ 0 := by unfold ordM; rw [if_pos hsR, ho]; show (5 : Int) ≠ 0; omega
        refine statureOf_gen p A c d t 0 0 4 [] (.iface 155 z) w hz hr h0 e1 (fun W0 hb => ?_) (fun W0 hb => codeOfError_miss z W0 (hE.keep hb hE.lt))
        refine (stature_err p d A t.length c 155 z W0 (fun W1 hb1 => ?_)).mono ?_
        · have hbb := hb.trans (hb1.mono hb.size)
          exact andOrder_zero p d A c t p z W1 ok hf hp (by omega) (by omega) (hr.below hbb) (hZ.keep hbb hw0) (by have := hbb.size; omega) (by rw [hR]; exact hC)
        · rintro e w' ⟨rfl, hb2⟩
          exact ⟨_, rfl, OwnI.nil _ _, hb2⟩
    · have hcH : codeH m t = 5 := by unfold codeH; rw [if_pos h0, if_neg hp]
      have hs : stM m t = (0, 0, [], 5) := by unfold stM; rw [hcH, if_neg (by omega)]
      rw [hs]
      refine statureOf_gen m A c d t 0 0 5 [] (.iface 83 (.agg #[.int .i64 m])) w hz hr h0 e1 (fun W0 hb => ?_) (fun W0 hb => codeOfError_hit m W0 (hE.keep hb hE.lt))
      refine (stature_err m d A t.length c 83 (.agg #[.int .i64 m]) W0 (fun W1 hb1 => andOrder_no m d A t.length c m W1 (by simpa using hp))).mono ?_
      rintro e w' ⟨rfl, hb2⟩
      exact ⟨_, rfl, OwnI.nil _ _, hb2⟩
  · have hcH : codeH m t = 1 := by unfold codeH; rw [if_neg h0]
    have hs : stM m t = (0, 0, [], 1) := by unfold stM; rw [hcH, if_neg (by omega)]
    rw [hs]
    refine (statureOf_bad m A c t w hz hr h0).mono ?_
    rintro e w' ⟨rfl, hb2⟩
    exact ⟨_, rfl, OwnI.nil _ _, hb2⟩
def hgtM (m : Int) (t : List (List Int)) : Int × Int := ((stM m t).1, (stM m t).2.2.2)
def uohM (m : Int) (t : List (List Int)) : Int × Int := ((stM m t).2.1, (stM m t).2.2.2)
def sohM (m : Int) (t : List (List Int)) : List Int × Int := ((stM m t).2.2.1, (stM m t).2.2.2)
set_option maxHeartbeats 4000000 in
set_option maxRecDepth 100000 in
theorem HeightOf_any (m : Int) (A : Option Addr) (c : Nat) (t : List (List Int)) (w : World) (hz : szT t ≤ 1048576) (hr : RP w A t) (hE : ErrT w) (z : Value) (hZ : ErrZ w z) :
    Calls Tryz.prog 12 #[.agg #[.int .i64 m, .slice A t.length c]] w fun e w' => e = .returned (.tuple #[.int .i64 (hgtM m t).1, .int .i64 (hgtM m t).2]) ∧ Below w.heap.size w w' := by
  obtain ⟨W, hW, b1, hwb⟩ := start1 28 w m A t.length c
  have HB := Lib.hid hwb
  have HW := Lib.hid hW
  have HS := Lib.hid (statureOf_any m A c t W hz (hr.below hwb) (hE.keep hwb hE.lt) z (hZ.keep hwb (Nat.lt_trans Nat.zero_lt_one hE.lt)))
  unfold hgtM
  obtain ⟨⟨H, U, S, C⟩, hQ⟩ : ∃ Q, stM m t = Q := ⟨_, rfl⟩
  rw [hQ] at HS ⊢
  obtain ⟨x1, x2, x3⟩ := b1
  clear hwb hW hr hz hE hZ hQ
  go_enter Tryz.func12, Tryz.ntmps12
  go_wp2_with fail
  rw [HW.out]
  go_wp2_with fail
  refine HS.out.mono ?_
  rintro e w1 ⟨v, rfl, ho, hb1⟩
  obtain ⟨A1, c1, rfl, -⟩ := ho.form
  have v5 : VarC 49 (w1.alloc (.cells #[.int .i64 H, .int .i64 U, .slice A1 S.length c1] 49)) w1.heap.size #[.int .i64 H, .int .i64 U, .slice A1 S.length c1] := VarC.new _ _ _
  obtain ⟨c0, c1', c2, -, -, -⟩ := v5.tells3
  have HB1 := Lib.hid (below_step HB.out (below_alloc (.cells #[.int .i64 H, .int .i64 U, .slice A1 S.length c1] 49) hb1))
  clear v5 ho hb1
  go_wp2
  exact bodyPost_ret (v := .tuple #[.int .i64 H, .int .i64 C]) (by simp [results, Tryz.results12, go_sem]) rfl ⟨rfl, HB1.out⟩
set_option maxHeartbeats 4000000 in
set_option maxRecDepth 100000 in
theorem UnitOfHeight_any (m : Int) (A : Option Addr) (c : Nat) (t : List (List Int)) (w : World) (hz : szT t ≤ 1048576) (hr : RP w A t) (hE : ErrT w) (z : Value) (hZ : ErrZ w z) :
    Calls Tryz.prog 15 #[.agg #[.int .i64 m, .slice A t.length c]] w fun e w' => e = .returned (.tuple #[.int .i64 (uohM m t).1, .int .i64 (uohM m t).2]) ∧ Below w.heap.size w w' := by
  obtain ⟨W, hW, b1, hwb⟩ := start1 28 w m A t.length c
  have HB := Lib.hid hwb
  have HW := Lib.hid hW
  have HS := Lib.hid (statureOf_any m A c t W hz (hr.below hwb) (hE.keep hwb hE.lt) z (hZ.keep hwb (Nat.lt_trans Nat.zero_lt_one hE.lt)))
  unfold uohM
  obtain ⟨⟨H, U, S, C⟩, hQ⟩ : ∃ Q, stM m t = Q := ⟨_, rfl⟩
  rw [hQ] at HS ⊢
  obtain ⟨x1, x2, x3⟩ := b1
  clear hwb hW hr hz hE hZ hQ
  go_enter Tryz.func15, Tryz.ntmps15
  go_wp2_with fail
  rw [HW.out]
  go_wp2_with fail
  refine HS.out.mono ?_
  rintro e w1 ⟨v, rfl, ho, hb1⟩
  obtain ⟨A1, c1, rfl, -⟩ := ho.form
  have v5 : VarC 49 (w1.alloc (.cells #[.int .i64 H, .int .i64 U, .slice A1 S.length c1] 49)) w1.heap.size #[.int .i64 H, .int .i64 U, .slice A1 S.length c1] := VarC.new _ _ _
  obtain ⟨c0, c1', c2, -, -, -⟩ := v5.tells3
  have HB1 := Lib.hid (below_step HB.out (below_alloc (.cells #[.int .i64 H, .int .i64 U, .slice A1 S.length c1] 49) hb1))
  clear v5 ho hb1
  go_wp2
  exact bodyPost_ret (v := .tuple #[.int .i64 U, .int .i64 C]) (by simp [results, Tryz.results15, go_sem]) rfl ⟨rfl, HB1.out⟩
set_option maxHeartbeats 4000000 in
set_option maxRecDepth 100000 in
theorem SeriesOfHeight_any (m : Int) (A : Option Addr) (c : Nat) (t : List (List Int)) (w : World) (hz : szT t ≤ 1048576) (hr : RP w A t) (hE : ErrT w) (z : Value) (hZ : ErrZ w z) :
    Calls Tryz.prog 17 #[.agg #[.int .i64 m, .slice A t.length c]] w fun e w' => ∃ s, e = .returned (.tuple #[s, .int .i64 (sohM m t).2]) ∧ OwnI w' w.heap.size s (sohM m t).1 ∧ Below w.heap.size w w' := by
  obtain ⟨W, hW, b1, hwb⟩ := start1 28 w m A t.length c
  have HB := Lib.hid hwb
  have HW := Lib.hid hW
  have HS := Lib.hid (statureOf_any m A c t W hz (hr.below hwb) (hE.keep hwb hE.lt) z (hZ.keep hwb (Nat.lt_trans Nat.zero_lt_one hE.lt)))
  unfold sohM
  obtain ⟨⟨H, U, S, C⟩, hQ⟩ : ∃ Q, stM m t = Q := ⟨_, rfl⟩
  rw [hQ] at HS ⊢
  obtain ⟨x1, x2, x3⟩ := b1
  clear hwb hW hr hz hE hZ hQ
  go_enter Tryz.func17, Tryz.ntmps17
  go_wp2_with fail
  rw [HW.out]
  go_wp2_with fail
  refine HS.out.mono ?_
  rintro e w1 ⟨v, rfl, ho, hb1⟩
  obtain ⟨A1, c1, rfl, -⟩ := ho.form
  have v5 : VarC 49 (w1.alloc (.cells #[.int .i64 H, .int .i64 U, .slice A1 S.length c1] 49)) w1.heap.size #[.int .i64 H, .int .i64 U, .slice A1 S.length c1] := VarC.new _ _ _
  obtain ⟨c0, c1', c2, -, -, -⟩ := v5.tells3
  have HO := Lib.hid ((ho.keep (below_one w1 (.cells #[.int .i64 H, .int .i64 U, .slice A1 S.length c1] 49))).more (b' := w.heap.size) HB.out.size)
  have HB1 := Lib.hid (below_step HB.out (below_alloc (.cells #[.int .i64 H, .int .i64 U, .slice A1 S.length c1] 49) hb1))
  clear v5 ho hb1
  go_wp2
  exact bodyPost_ret (v := .tuple #[.slice A1 S.length c1, .int .i64 C]) (by simp [results, Tryz.results17, go_sem]) rfl ⟨_, rfl, HO.out, HB1.out⟩
end Go.Proofs.YtfhdgcndiljjcaaGreatDoor

/- Contracts of l10Height and l10Series, of the model. -/
namespace Go.Proofs.YtfhdgcndiljjcaaGreatDoor
open Go Go.RowKit Go.WideShapes Go.ChangeShapes Go.ChangeAt

theorem hgS_go {R : List Int} {p f h n : Nat} (h1 : n < R.length) (h2 : Ser.co R n = 0) : hgS R p (f + 1) h n = hgS R p f (h + 1) (n * p) := by rw [hgS, if_pos h1, if_pos h2]
theorem hgS_hit {R : List Int} {p f h n : Nat} (h1 : n < R.length) (h2 : ¬ Ser.co R n = 0) : hgS R p (f + 1) h n = h := by rw [hgS, if_pos h1, if_neg h2]
theorem hgS_end {R : List Int} {p f h n : Nat} (h1 : ¬ n < R.length) : hgS R p f h n = 0 := by
  cases f with
  | zero => rfl
  | succ f => rw [hgS, if_neg h1]
theorem pow_grow {n p f : Nat} (hp : 2 ≤ p) (h : 32 ≤ n * 2 ^ (f + 1)) : 32 ≤ n * p * 2 ^ f := by
  rw [Nat.pow_succ, Nat.mul_comm (2 ^ f) 2, ← Nat.mul_assoc] at h
  exact Nat.le_trans h (Nat.mul_le_mul_right _ (Nat.mul_le_mul_left n hp))
theorem pow_zeroN {n : Nat} (h : 32 ≤ n * 2 ^ 0) : 32 ≤ n := by rw [Nat.pow_zero, Nat.mul_one] at h; exact h
theorem wrap_mul {n p q : Nat} (hq : n * p = q) (h : q ≤ 100) : wrap64 ((n : Int) * (p : Int)) = (q : Int) := by
  rw [← Int.natCast_mul, hq]
  unfold wrap64; omega
theorem pow_pos1 {n f : Nat} (h : 32 ≤ n * 2 ^ f) : 1 ≤ n := by
  rcases Nat.eq_zero_or_pos n with rfl | h0
  · rw [Nat.zero_mul] at h; omega
  · exact h0
theorem wrap_add {j q d : Nat} (h2 : j ≤ d) (h3 : q ≤ d) (hd : d ≤ 10) : wrap64 ((j : Int) + (q : Int)) = (j : Int) + (q : Int) := by
  unfold wrap64; omega
theorem meas_lt {d j q : Nat} (h1 : 1 ≤ q) (h2 : j ≤ d) (h3 : q ≤ d) (hd : d ≤ 10) : 2 * d + 1 - (wrap64 ((j : Int) + (q : Int))).toNat < 2 * d + 1 - ((j : Int)).toNat := by
  rw [wrap_add h2 h3 hd]; omega
theorem hgN_is (R : List Int) (p : Nat) : hgN R p = hgS R p 5 1 p := rfl
set_option maxHeartbeats 8000000 in
set_option maxRecDepth 100000 in
theorem l10Height_any (p : Nat) (d : Nat) (A : Option Addr) (c : Nat) (t : List (List Int)) (R : List Int) (w : World) (hs : Pl.Ok p d t) (hf : Pl.fau p d (Pl.pc t) = none) (hp : p = 2 ∨ p = 3 ∨ p = 5 ∨ p = 7) (hr : RP w A t) (hR : mulC (p : Int) d t p (Pl.lin p d 1) = R) :
    Calls Tryz.prog 30 #[.agg #[.int .i64 p, .slice A t.length c]] w fun e w' => ∃ v, e = .returned (.tuple #[.int .i64 (hgN R p : Nat), v]) ∧ OwnI w' w.heap.size v R ∧ Below w.heap.size w w' := by
  obtain ⟨W, hW, b1, hwb⟩ := start1 28 w p A t.length c
  have B1 := Lib.hid b1
  have HB := Lib.hid hwb
  have HW := Lib.hid hW
  have HO := Lib.hid (fun W0 (h : Below W.heap.size W W0) => l04Of_any p d A c t p W0 hs hf (by omega) (by omega) ((hr.below hwb).below h))
  have hRl : R.length = d + 1 := by rw [← hR]; exact (mulC_cv hs (Pl.norm_law hf hs) p (lin_cv hs 1)).1.len
  have hd2 := hs.d2
  rw [hR] at HO
  have hl11 : R.length ≤ 11 := by omega
  obtain ⟨Z, hZ⟩ : ∃ Z, hgN R p = Z := ⟨_, rfl⟩
  rw [hZ]
  have HZ := Lib.hid hZ
  obtain ⟨L, hL⟩ : ∃ L, t.length = L := ⟨_, rfl⟩
  rw [hL] at HO HW B1 ⊢
  have hp2 : 2 ≤ p := by omega
  have hp7 : p ≤ 7 := by omega
  obtain ⟨x1, x2, x3⟩ := B1.out
  clear b1 hwb hW hr hs hf hR hL hZ hp hRl hd2
  go_enter Tryz.func30, Tryz.ntmps30
  go_wp2_with fail
  rw [HW.out]
  go_wp2_with fail
  refine (HO.out _ (Below.refl _ _)).mono ?_
  rintro e w1 ⟨u, rfl, ho, hb1⟩
  obtain ⟨A1, c1, rfl, -⟩ := ho.form
  have HR := Lib.hid ho.ri
  have HOw := Lib.hid (ho.more (b' := w.heap.size) HB.out.size)
  obtain ⟨y1, y2, y3⟩ := B1.out.keep hb1
  have HB1 := Lib.hid (below_step HB.out hb1)
  clear x1 x2 x3 hb1 ho
  go_wp2
  go_loop [5, 6] (fun a b => ∃ h n f : Nat, a = .int .i64 h ∧ b = .int .i64 n ∧ hgN R p = hgS R p f h n ∧ 32 ≤ n * 2 ^ f ∧ n ≤ 100 ∧ h + f = 6) (fun a _ => 10 - (intOf a).toNat)
  case atStart => exact ⟨1, p, 5, rfl, rfl, hgN_is R p, by omega, by omega, by omega⟩
  case round =>
    obtain ⟨h, n, f, rfl, rfl, hq, hm, hn, hhn⟩ := hrel
    have HQ := Lib.hid hq
    have HM := Lib.hid hm
    clear hq hm
    by_cases hlt : n < R.length
    · obtain ⟨b, off, rfl, hb, hc⟩ := HR.out.at n hlt
      obtain ⟨f, rfl⟩ : ∃ f', f = f' + 1 := by
        cases f with
        | zero => exact absurd (pow_zeroN HM.out) (by omega)
        | succ f => exact ⟨f, rfl⟩
      by_cases hz : Ser.co R n = 0
      · have HN := Lib.hid (show hgN R p = hgS R p f (h + 1) (n * p) by rw [HQ.out, hgS_go hlt hz])
        have h2n : n * 2 ≤ n * p := Nat.mul_le_mul_left n hp2
        have hnp : n * p ≤ 10 * 7 := Nat.mul_le_mul (by omega) hp7
        have HM2 := Lib.hid (pow_grow hp2 HM.out)
        have n1 : 1 ≤ n := pow_pos1 HM.out
        obtain ⟨q, hq⟩ : ∃ q, n * p = q := ⟨_, rfl⟩
        rw [hq] at HN HM2 h2n hnp
        have hwh : IntKind.i64.wrap ((h : Int) + 1) = ((h + 1 : Nat) : Int) := by rw [IntKind.wrap_i64]; omega
        have HW6 := Lib.hid (wrap_mul hq (by omega))
        rw [hz] at hc
        clear hz hq
        go_wp2
        go_round
        case rel => exact ⟨h + 1, q, f, by go_num, by rw [HW6.out], HN.out, HM2.out, by omega, by omega⟩
        case measure =>
          simp only [intOf]; omega
      · have HN := Lib.hid (show Z = h by rw [← HZ.out, HQ.out, hgS_hit hlt hz])
        obtain ⟨n1, n2⟩ := ne_facts hz
        obtain ⟨X, hX⟩ : ∃ X, Ser.co R n = X := ⟨_, rfl⟩
        rw [hX] at hc n1 n2 hz
        clear hX
        go_wp2
        exact bodyPost_ret (v := .tuple #[.int .i64 h, .slice (some ⟨b, off, none⟩) R.length c1]) (by simp [results, Tryz.results30, go_sem]) rfl ⟨_, by rw [HN.out], HOw.out, HB1.out⟩
    · have HN := Lib.hid (show Z = 0 by rw [← HZ.out, HQ.out, hgS_end hlt])
      go_wp2
      exact bodyPost_ret (v := .tuple #[.int .i64 0, .slice A1 R.length c1]) (by simp [results, Tryz.results30, go_sem]) rfl ⟨_, by rw [HN.out]; rfl, HOw.out, HB1.out⟩
set_option maxHeartbeats 8000000 in
set_option maxRecDepth 100000 in
theorem l10Series_h (p d h : Nat) (A : Option Addr) (c : Nat) (t : List (List Int)) (R : List Int) (w : World) (hs : Pl.Ok p d t) (hf : Pl.fau p d (Pl.pc t) = none) (hp : p = 2 ∨ p = 3 ∨ p = 5 ∨ p = 7) (hr : RP w A t) (hR : mulC (p : Int) d t p (Pl.lin p d 1) = R) (hH : Hgt R p d h) :
    Calls Tryz.prog 34 #[.agg #[.int .i64 p, .slice A t.length c]] w fun e w' => ∃ v, e = .returned v ∧ OwnI w' w.heap.size v (serH R (p ^ h) (d / p ^ h)) ∧ Below w.heap.size w w' := by
  obtain ⟨W, hW, b1, hwb⟩ := start1 28 w p A t.length c
  have B1 := Lib.hid b1
  have HB := Lib.hid hwb
  have HW := Lib.hid hW
  have HO := Lib.hid (l10Height_any p d A c t R W hs hf hp (hr.below hwb) hR)
  have hRl : R.length = d + 1 := by rw [← hR]; exact (mulC_cv hs (Pl.norm_law hf hs) p (lin_cv hs 1)).1.len
  have hd2 := hs.d2
  rw [hH.is] at HO
  have hh1 := hH.h1
  have hle := hH.le
  obtain ⟨L, hL⟩ : ∃ L, t.length = L := ⟨_, rfl⟩
  rw [hL] at HO HW B1 ⊢
  have hp2 : 2 ≤ p := by omega
  have HPOS := Lib.hid (show 1 ≤ p ^ h from Nat.pow_pos (by omega))
  have HPK := Lib.hid (fun k (hk : k ≤ h) => Nat.le_trans (Nat.pow_le_pow_right (show 0 < p by omega) hk) (Nat.le_trans hle hd2))
  have hh9 : h ≤ 9 := by
    have h2 : 2 ^ h ≤ p ^ h := Nat.pow_le_pow_left hp2 h
    have h3 : h < 2 ^ h := Nat.lt_two_pow_self
    omega
  have HRL := Lib.hid hRl
  have HLE := Lib.hid hle
  obtain ⟨x1, x2, x3⟩ := B1.out
  clear b1 hwb hW hr hs hf hR hL hp hRl hH hle
  go_enter Tryz.func34, Tryz.ntmps34
  go_wp2_with fail
  rw [HW.out]
  go_wp2_with fail
  refine HO.out.mono ?_
  rintro e w1 ⟨u, rfl, ho, hb1⟩
  obtain ⟨A1, c1, rfl, -⟩ := ho.form
  have HR := Lib.hid ho.ri
  have y1 := B1.out.keep hb1
  have Y1 := Lib.hid y1
  have HB1 := Lib.hid (below_step HB.out hb1)
  clear x1 x2 x3 hb1 ho y1
  go_wp2
  have HE := Lib.hid (OwnI.empty w1)
  have HE1 := Lib.hid (below_one w1 (.cells #[] 2))
  obtain ⟨X, hX⟩ : ∃ X, w1.alloc (.cells #[] 2) = X := ⟨_, rfl⟩
  rw [hX] at HE HE1
  have HX := Lib.hid hX
  obtain ⟨z1, z2, z3⟩ := Y1.out.keep HE1.out
  clear hX
  rw [HX.out]
  go_loop [5, 7] (fun a b => ∃ k q : Nat, p ^ k = q ∧ a = .int .i64 q ∧ b = .int .i64 k ∧ k ≤ h) (fun _ b => h - (intOf b).toNat)
  case atStart => exact ⟨0, 1, Nat.pow_zero p, rfl, rfl, Nat.zero_le _⟩
  case round =>
    obtain ⟨k, q, hq, rfl, rfl, hk⟩ := hrel
    by_cases hlt : k < h
    · have hq2 : q * p ≤ 10 := by
        have := HPK.out (k + 1) hlt
        rw [Nat.pow_succ, hq] at this
        exact this
      obtain ⟨q', hq'⟩ : ∃ q', q * p = q' := ⟨_, rfl⟩
      have HQ := Lib.hid (show p ^ (k + 1) = q' by rw [Nat.pow_succ, hq, hq'])
      have HW6 := Lib.hid (wrap_mul hq' (by omega))
      have j2 : (k : Int) < (h : Int) := by omega
      clear hq hq2 hq'
      go_wp2
      go_round
      case rel => exact ⟨k + 1, q', HQ.out, by rw [HW6.out], by go_num, hlt⟩
      case measure => simp only [intOf]; omega
    · obtain rfl : k = h := by omega
      have HN1 := Lib.hid (show 1 ≤ q by rw [← hq]; exact HPOS.out)
      have HN2 := Lib.hid (show q ≤ d by rw [← hq]; exact HLE.out)
      have HQ := Lib.hid hq
      have hk0 : (0 : Int) < (k : Int) := by omega
      clear hq
      go_wp2
      go_loopw [6, 8] (fun v i wr => ∃ s j : Nat, j = (s + 1) * q ∧ i = .int .i64 j ∧ s * q ≤ d ∧ OwnI wr w1.heap.size v (serH R q s) ∧ Below w1.heap.size w1 wr) (fun _ i _ => 2 * d + 1 - (intOf i).toNat)
      case atStart => exact ⟨0, q, by omega, rfl, by omega, HE.out, HE1.out⟩
      case round =>
        obtain ⟨s, j, hkj, rfl, hkd, hown, hbel⟩ := hrel
        have HOw := Lib.hid hown
        have HBW := Lib.hid hbel
        have hsz := hbel.size
        have HKJ := Lib.hid hkj
        have HKD := Lib.hid hkd
        clear hown hbel hkj hkd
        by_cases hlt2 : j < R.length
        · obtain ⟨b, off, rfl, hb, hc⟩ := HR.out.at j hlt2
          have cc := (HBW.out.cell (p := ⟨b, off + j, none⟩) hb).trans hc
          have j0 : (0 : Int) ≤ (j : Int) := by omega
          have j1 : (j : Int) < (R.length : Int) := by omega
          obtain ⟨Y, hY⟩ : ∃ Y, Ser.co R j = Y := ⟨_, rfl⟩
          rw [hY] at cc
          have HST := Lib.hid (show serH R q (s + 1) = serH R q s ++ [Y] by rw [serH, ← HKJ.out, hY])
          have HLN := Lib.hid (serH_len R q s)
          have hk9 : s ≤ d := by
            have h1 := HKJ.out
            have h2 := HN1.out
            have : s * 1 ≤ s * q := Nat.mul_le_mul_left s h2
            have := HKD.out
            omega
          have hjd : j ≤ d := by have := HRL.out; omega
          have hq9 : q ≤ d := HN2.out
          have hwr : IntKind.i64.wrap ((j : Int) + (q : Int)) = ((j + q : Nat) : Int) := by rw [IntKind.wrap_i64]; omega
          clear hY hc
          go_wp2_with (at_builtin; refine wp_push _ _ _ (by rfl) (by rfl) Tryz.underlying32 w1.heap.size _ _ (by rfl) HOw.out Y (by rfl) (by have := HLN.out; omega) hsz ?_; intro v' w4 ho1 hpb)
          have HP := Lib.hid (HBW.out.trans hpb)
          have HQ2 := Lib.hid ho1
          clear hpb ho1 hk9
          go_wp2
          go_roundw
          case rel => exact ⟨s + 1, j + q, next_mult HKJ.out, by first | rfl | rw [Int.natCast_add], by rw [← HKJ.out]; exact hjd, by rw [HST.out]; exact HQ2.out, HP.out⟩
          case measure => simp only [intOf]; have := HN1.out; omega
        · have hqd : s = d / q := by
            have h1 := HKJ.out
            have h2 := HKD.out
            have h3 : d < (s + 1) * q := by have := HRL.out; omega
            have h4 := Nat.div_lt_of_lt_mul (show d < q * (s + 1) by rw [Nat.mul_comm]; exact h3)
            have h5 := (Nat.le_div_iff_mul_le (show 0 < q from HN1.out)).2 h2
            omega
          have HS := Lib.hid (show serH R (p ^ k) (d / p ^ k) = serH R q s by rw [HQ.out, hqd])
          have HF := Lib.hid (HOw.out.more (b' := w.heap.size) HB1.out.size)
          have HFB := Lib.hid (below_step HB1.out HBW.out)
          clear hqd
          go_wp2
          go_ret
          exact ⟨_, rfl, by rw [HS.out]; exact HF.out, HFB.out⟩
set_option maxHeartbeats 4000000 in
set_option maxRecDepth 100000 in
theorem l10Series_0 (p d : Nat) (A : Option Addr) (c : Nat) (t : List (List Int)) (R : List Int) (w : World) (hs : Pl.Ok p d t) (hf : Pl.fau p d (Pl.pc t) = none) (hp : p = 2 ∨ p = 3 ∨ p = 5 ∨ p = 7) (hr : RP w A t) (hR : mulC (p : Int) d t p (Pl.lin p d 1) = R) (hH : hgN R p = 0) :
    Calls Tryz.prog 34 #[.agg #[.int .i64 p, .slice A t.length c]] w fun e w' => ∃ v, e = .returned v ∧ OwnI w' w.heap.size v [] ∧ Below w.heap.size w w' := by
  obtain ⟨W, hW, b1, hwb⟩ := start1 28 w p A t.length c
  have HB := Lib.hid hwb
  have HW := Lib.hid hW
  have HO := Lib.hid (l10Height_any p d A c t R W hs hf hp (hr.below hwb) hR)
  rw [hH] at HO
  obtain ⟨L, hL⟩ : ∃ L, t.length = L := ⟨_, rfl⟩
  rw [hL] at HO HW b1 ⊢
  obtain ⟨x1, x2, x3⟩ := b1
  clear hwb hW hr hs hf hR hL hp hH
  go_enter Tryz.func34, Tryz.ntmps34
  go_wp2_with fail
  rw [HW.out]
  go_wp2_with fail
  refine HO.out.mono ?_
  rintro e w1 ⟨u, rfl, ho, hb1⟩
  obtain ⟨A1, c1, rfl, -⟩ := ho.form
  have HB1 := Lib.hid (below_step HB.out hb1)
  clear x1 x2 x3 hb1 ho
  go_wp2
  have HE := Lib.hid ((OwnI.empty w1).more (b' := w.heap.size) HB1.out.size)
  have HE1 := Lib.hid (below_step HB1.out (below_one w1 (.cells #[] 2)))
  obtain ⟨X, hX⟩ : ∃ X, w1.alloc (.cells #[] 2) = X := ⟨_, rfl⟩
  rw [hX] at HE HE1
  have HX := Lib.hid hX
  clear hX
  rw [HX.out]
  go_loop [5, 7] (fun a b => a = .int .i64 1 ∧ b = .int .i64 0) (fun _ _ => 0)
  case atStart => exact ⟨rfl, rfl⟩
  case round =>
    obtain ⟨rfl, rfl⟩ := hrel
    go_wp2
    go_loop [6, 8] (fun v b => v = .slice (some ⟨w1.heap.size, 0, none⟩) 0 0 ∧ b = .int .i64 1) (fun _ _ => 0)
    case atStart => exact ⟨rfl, rfl⟩
    case round =>
      obtain ⟨rfl, rfl⟩ := hrel
      go_wp2
      go_ret
      exact ⟨_, rfl, HE.out, HE1.out⟩
end Go.Proofs.YtfhdgcndiljjcaaGreatDoor

/- Contracts of HeightOf, UnitOfHeight, SeriesOfHeight, of the model. -/
namespace Go.Proofs.YtfhdgcndiljjcaaGreatDoor
open Go Go.RowKit Go.WideShapes Go.ChangeShapes Go.ChangeAt

theorem stM_bad {m : Int} {t : List (List Int)} (h : codeH m t ≠ 0) : stM m t = (0, 0, [], codeH m t) := by unfold stM; rw [if_neg h]
/-- with a prime number as modulus: the model's two helpers, and what they tell -/
theorem model_h (m : Int) (A : Option Addr) (c : Nat) (t : List (List Int)) (w : World) (hc : codeH m t = 0) (hr : RP w A t) :
    ∃ h : Nat, (∀ W0, Below w.heap.size w W0 → Calls Tryz.prog 30 #[.agg #[.int .i64 m, .slice A t.length c]] W0 fun e w' => ∃ v R, e = .returned (.tuple #[.int .i64 h, v]) ∧ OwnI w' W0.heap.size v R ∧ Below W0.heap.size W0 w') ∧
      (∀ W0, Below w.heap.size w W0 → Calls Tryz.prog 34 #[.agg #[.int .i64 m, .slice A t.length c]] W0 fun e w' => ∃ v, e = .returned v ∧ OwnI w' W0.heap.size v (stM m t).2.2.1 ∧ Below W0.heap.size W0 w') ∧
      ((h = 0 ∧ stM m t = (0, 0, [], 4)) ∨ (1 ≤ h ∧ ∃ U S, stM m t = ((h : Int), U, S, 0) ∧ 1 ≤ S.length ∧ S.length ≤ 11 ∧ Ser.co S 0 = U)) := by
  obtain ⟨hl, hp⟩ := codeH_ok hc
  obtain ⟨-, d, e1, ok, hf⟩ := isL_of hl
  have hp4 := (isP4_iff m).1 hp
  obtain ⟨p, rfl⟩ := Int.eq_ofNat_of_zero_le (show 0 ≤ m by omega)
  obtain ⟨R, hR⟩ : ∃ R, mulC (p : Int) d t p (Pl.lin p d 1) = R := ⟨_, rfl⟩
  have hp4' : p = 2 ∨ p = 3 ∨ p = 5 ∨ p = 7 := by omega
  have hd2 := ok.d2
  rcases hgt_or hp4' ok hf hR with ⟨h, hH⟩ | ⟨ho, hn⟩
  · have hS := stM_ok hc e1 hR hH
    have hpos : 1 ≤ p ^ h := Nat.pow_pos (by omega)
    have h1 := hH.h1
    have hle := hH.le
    refine ⟨h, fun W0 hb => ?_, fun W0 hb => ?_, .inr ⟨h1, _, _, hS, ?_, ?_, ?_⟩⟩
    · refine (l10Height_any p d A c t R W0 ok hf hp4' (hr.below hb) hR).mono ?_
      rintro e w' ⟨v, rfl, ho, hb2⟩
      rw [hH.is]
      exact ⟨v, R, rfl, ho, hb2⟩
    · rw [hS]
      exact l10Series_h p d h A c t R W0 ok hf hp4' (hr.below hb) hR hH
    · rw [serH_len]; exact Nat.div_pos hle hpos
    · rw [serH_len]; have := Nat.div_le_self d (p ^ h); omega
    · obtain ⟨q, hq⟩ : ∃ q, d / p ^ h = q + 1 := ⟨d / p ^ h - 1, by have := Nat.div_pos hle hpos; omega⟩
      rw [hq]; exact serH_head R (p ^ h) q
  · have hS := stM_none hc e1 hR hn
    refine ⟨0, fun W0 hb => ?_, fun W0 hb => ?_, .inl ⟨rfl, hS⟩⟩
    · refine (l10Height_any p d A c t R W0 ok hf hp4' (hr.below hb) hR).mono ?_
      rintro e w' ⟨v, rfl, ho, hb2⟩
      rw [hn]
      exact ⟨v, R, rfl, ho, hb2⟩
    · rw [hS]
      exact l10Series_0 p d A c t R W0 ok hf hp4' (hr.below hb) hR hn
set_option maxHeartbeats 4000000 in
set_option maxRecDepth 100000 in
theorem hgtM_bad (m : Int) (A : Option Addr) (c : Nat) (t : List (List Int)) (w : World) (hz : szT t ≤ 1048576) (hr : RP w A t) (hc : codeH m t ≠ 0) :
    Calls Tryz.prog 10 #[.agg #[.int .i64 m, .slice A t.length c]] w fun e w' => e = .returned (.tuple #[.int .i64 (hgtM m t).1, .int .i64 (hgtM m t).2]) ∧ Below w.heap.size w w' := by
  obtain ⟨W, hW, b1, hwb⟩ := start1 28 w m A t.length c
  have HB := Lib.hid hwb
  have HW := Lib.hid hW
  have HC := Lib.hid (l10Code_any m A c t W hz (hr.below hwb))
  have HA : Hid (hgtM m t = (0, codeH m t)) := Lib.hid (by unfold hgtM; rw [stM_bad hc])
  rw [HA.out]
  obtain ⟨n1, n2⟩ := ne_facts hc
  obtain ⟨C, hC⟩ : ∃ C, codeH m t = C := ⟨_, rfl⟩
  rw [hC] at HC n1 n2 ⊢
  obtain ⟨x1, x2, x3⟩ := b1
  clear hwb hW hr hz hc HA hC
  go_enter Tryz.func10, Tryz.ntmps10
  go_wp2_with fail
  rw [HW.out]
  go_wp2_with fail
  refine HC.out.mono ?_
  rintro e w1 ⟨rfl, hb1⟩
  go_wp2
  exact bodyPost_ret (v := .tuple #[.int .i64 0, .int .i64 C]) (by simp [results, Tryz.results10, go_sem]) rfl ⟨rfl, below_step HB.out hb1⟩
set_option maxHeartbeats 4000000 in
set_option maxRecDepth 100000 in
theorem uohM_bad (m : Int) (A : Option Addr) (c : Nat) (t : List (List Int)) (w : World) (hz : szT t ≤ 1048576) (hr : RP w A t) (hc : codeH m t ≠ 0) :
    Calls Tryz.prog 14 #[.agg #[.int .i64 m, .slice A t.length c]] w fun e w' => e = .returned (.tuple #[.int .i64 (uohM m t).1, .int .i64 (uohM m t).2]) ∧ Below w.heap.size w w' := by
  obtain ⟨W, hW, b1, hwb⟩ := start1 28 w m A t.length c
  have HB := Lib.hid hwb
  have HW := Lib.hid hW
  have HC := Lib.hid (l10Code_any m A c t W hz (hr.below hwb))
  have HA : Hid (uohM m t = (0, codeH m t)) := Lib.hid (by unfold uohM; rw [stM_bad hc])
  rw [HA.out]
  obtain ⟨n1, n2⟩ := ne_facts hc
  obtain ⟨C, hC⟩ : ∃ C, codeH m t = C := ⟨_, rfl⟩
  rw [hC] at HC n1 n2 ⊢
  obtain ⟨x1, x2, x3⟩ := b1
  clear hwb hW hr hz hc HA hC
  go_enter Tryz.func14, Tryz.ntmps14
  go_wp2_with fail
  rw [HW.out]
  go_wp2_with fail
  refine HC.out.mono ?_
  rintro e w1 ⟨rfl, hb1⟩
  go_wp2
  exact bodyPost_ret (v := .tuple #[.int .i64 0, .int .i64 C]) (by simp [results, Tryz.results14, go_sem]) rfl ⟨rfl, below_step HB.out hb1⟩
set_option maxHeartbeats 4000000 in
set_option maxRecDepth 100000 in
theorem sHeightOf_any (m : Int) (A : Option Addr) (c : Nat) (t : List (List Int)) (w : World) (hz : szT t ≤ 1048576) (hr : RP w A t) :
    Calls Tryz.prog 10 #[.agg #[.int .i64 m, .slice A t.length c]] w fun e w' => e = .returned (.tuple #[.int .i64 (hgtM m t).1, .int .i64 (hgtM m t).2]) ∧ Below w.heap.size w w' := by
  by_cases hc : codeH m t = 0
  · obtain ⟨W, hW, b1, hwb⟩ := start1 28 w m A t.length c
    have B1 := Lib.hid b1
    have HB := Lib.hid hwb
    have HW := Lib.hid hW
    have HC := Lib.hid (l10Code_any m A c t W hz (hr.below hwb))
    rw [hc] at HC
    obtain ⟨h, hh, -, hS⟩ := model_h m A c t W hc (hr.below hwb)
    have HH := Lib.hid hh
    obtain ⟨x1, x2, x3⟩ := b1
    rcases hS with ⟨rfl, hS⟩ | ⟨h1, U, S, hS, -, -, -⟩
    · have HA : Hid (hgtM m t = (0, 4)) := Lib.hid (by unfold hgtM; rw [hS])
      rw [HA.out]
      clear hwb hW hr hz hS hc hh HA
      go_enter Tryz.func10, Tryz.ntmps10
      go_wp2_with fail
      rw [HW.out]
      go_wp2_with fail
      refine HC.out.mono ?_
      rintro e w1 ⟨rfl, hb1⟩
      obtain ⟨y1, y2, y3⟩ := B1.out.keep hb1
      go_wp2_with fail
      refine (HH.out _ hb1).mono ?_
      rintro e w2 ⟨v, R, rfl, ho, hb2⟩
      have HB2 := Lib.hid (below_step HB.out (below_step hb1 hb2))
      clear ho hb1 hb2
      go_wp2
      exact bodyPost_ret (v := .tuple #[.int .i64 0, .int .i64 4]) (by simp [results, Tryz.results10, go_sem]) rfl ⟨rfl, HB2.out⟩
    · have HA : Hid (hgtM m t = ((h : Int), 0)) := Lib.hid (by unfold hgtM; rw [hS])
      rw [HA.out]
      have hn : ¬ (h : Int) = 0 := by omega
      have hn2 : ((h : Int) == 0) = false := by simpa using hn
      clear hwb hW hr hz hS hc hh HA
      go_enter Tryz.func10, Tryz.ntmps10
      go_wp2_with fail
      rw [HW.out]
      go_wp2_with fail
      refine HC.out.mono ?_
      rintro e w1 ⟨rfl, hb1⟩
      obtain ⟨y1, y2, y3⟩ := B1.out.keep hb1
      go_wp2_with fail
      refine (HH.out _ hb1).mono ?_
      rintro e w2 ⟨v, R, rfl, ho, hb2⟩
      have HB2 := Lib.hid (below_step HB.out (below_step hb1 hb2))
      have hn3 : ¬ h = 0 := by omega
      clear ho hb1 hb2
      go_wp2
      exact bodyPost_ret (v := .tuple #[.int .i64 h, .int .i64 0]) (by simp [results, Tryz.results10, go_sem]) rfl ⟨rfl, HB2.out⟩
  · exact hgtM_bad m A c t w hz hr hc
set_option maxHeartbeats 4000000 in
set_option maxRecDepth 100000 in
theorem sUnitOfHeight_any (m : Int) (A : Option Addr) (c : Nat) (t : List (List Int)) (w : World) (hz : szT t ≤ 1048576) (hr : RP w A t) :
    Calls Tryz.prog 14 #[.agg #[.int .i64 m, .slice A t.length c]] w fun e w' => e = .returned (.tuple #[.int .i64 (uohM m t).1, .int .i64 (uohM m t).2]) ∧ Below w.heap.size w w' := by
  by_cases hc : codeH m t = 0
  · obtain ⟨W, hW, b1, hwb⟩ := start1 28 w m A t.length c
    have B1 := Lib.hid b1
    have HB := Lib.hid hwb
    have HW := Lib.hid hW
    have HC := Lib.hid (l10Code_any m A c t W hz (hr.below hwb))
    rw [hc] at HC
    obtain ⟨h, -, hh, hS⟩ := model_h m A c t W hc (hr.below hwb)
    obtain ⟨x1, x2, x3⟩ := b1
    rcases hS with ⟨rfl, hS⟩ | ⟨h1, U, S, hS, s1, -, s2⟩
    · have HA : Hid (uohM m t = (0, 4)) := Lib.hid (by unfold uohM; rw [hS])
      rw [HA.out]
      rw [hS] at hh
      have HH := Lib.hid hh
      clear hwb hW hr hz hS hc hh HA
      go_enter Tryz.func14, Tryz.ntmps14
      go_wp2_with fail
      rw [HW.out]
      go_wp2_with fail
      refine HC.out.mono ?_
      rintro e w1 ⟨rfl, hb1⟩
      obtain ⟨y1, y2, y3⟩ := B1.out.keep hb1
      go_wp2_with fail
      refine (HH.out _ hb1).mono ?_
      rintro e w2 ⟨v, rfl, ho, hb2⟩
      obtain ⟨A2, c2, rfl, -⟩ := ho.form
      have HB2 := Lib.hid (below_step HB.out (below_step hb1 hb2))
      clear ho hb1 hb2
      go_wp2
      exact bodyPost_ret (v := .tuple #[.int .i64 0, .int .i64 4]) (by simp [results, Tryz.results14, go_sem]) rfl ⟨rfl, HB2.out⟩
    · have HA : Hid (uohM m t = (U, 0)) := Lib.hid (by unfold uohM; rw [hS])
      rw [HA.out]
      rw [hS] at hh
      have HH := Lib.hid hh
      have hn : ¬ (S.length : Int) = 0 := by omega
      have hn2 : ((S.length : Int) == 0) = false := by simpa using hn
      have hn4 : (0 : Int) < (S.length : Int) := by omega
      have S1 := Lib.hid (show 0 < S.length by omega)
      clear hwb hW hr hz hS hc hh HA s1
      go_enter Tryz.func14, Tryz.ntmps14
      go_wp2_with fail
      rw [HW.out]
      go_wp2_with fail
      refine HC.out.mono ?_
      rintro e w1 ⟨rfl, hb1⟩
      obtain ⟨y1, y2, y3⟩ := B1.out.keep hb1
      go_wp2_with fail
      refine (HH.out _ hb1).mono ?_
      rintro e w2 ⟨v, rfl, ho, hb2⟩
      obtain ⟨A2, c2, rfl, -⟩ := ho.form
      obtain ⟨b, off, rfl, hb, hcc⟩ := ho.ri.at 0 S1.out
      rw [Nat.add_zero, s2] at hcc
      have HB2 := Lib.hid (below_step HB.out (below_step hb1 hb2))
      have hn3 : ¬ S.length = 0 := by omega
      clear ho hb1 hb2
      go_wp2
      exact bodyPost_ret (v := .tuple #[.int .i64 U, .int .i64 0]) (by simp [results, Tryz.results14, go_sem]) rfl ⟨rfl, HB2.out⟩
  · exact uohM_bad m A c t w hz hr hc
set_option maxHeartbeats 4000000 in
set_option maxRecDepth 100000 in
theorem sSeriesOfHeight_any (m : Int) (A : Option Addr) (c : Nat) (t : List (List Int)) (w : World) (hz : szT t ≤ 1048576) (hr : RP w A t) :
    Calls Tryz.prog 16 #[.agg #[.int .i64 m, .slice A t.length c]] w fun e w' => ∃ s, e = .returned (.tuple #[s, .int .i64 (sohM m t).2]) ∧ OwnI w' w.heap.size s (sohM m t).1 ∧ Below w.heap.size w w' := by
  obtain ⟨W, hW, b1, hwb⟩ := start1 28 w m A t.length c
  have B1 := Lib.hid b1
  have HB := Lib.hid hwb
  have HW := Lib.hid hW
  have HC := Lib.hid (l10Code_any m A c t W hz (hr.below hwb))
  obtain ⟨x1, x2, x3⟩ := b1
  by_cases hc : codeH m t = 0
  · rw [hc] at HC
    obtain ⟨h, -, hh, hS⟩ := model_h m A c t W hc (hr.below hwb)
    rcases hS with ⟨rfl, hS⟩ | ⟨h1, U, S, hS, s1, -, s2⟩
    · have HA : Hid (sohM m t = ([], 4)) := Lib.hid (by unfold sohM; rw [hS])
      rw [HA.out]
      rw [hS] at hh
      have HH := Lib.hid hh
      clear hwb hW hr hz hS hc hh HA
      go_enter Tryz.func16, Tryz.ntmps16
      go_wp2_with fail
      rw [HW.out]
      go_wp2_with fail
      refine HC.out.mono ?_
      rintro e w1 ⟨rfl, hb1⟩
      obtain ⟨y1, y2, y3⟩ := B1.out.keep hb1
      go_wp2_with fail
      refine (HH.out _ hb1).mono ?_
      rintro e w2 ⟨v, rfl, ho, hb2⟩
      obtain ⟨A2, c2, rfl, -⟩ := ho.form
      have HB2 := Lib.hid (below_step HB.out (below_step hb1 hb2))
      clear ho hb1 hb2
      go_wp2
      exact bodyPost_ret (v := .tuple #[.slice none 0 0, .int .i64 4]) (by simp [results, Tryz.results16, go_sem]) rfl ⟨_, rfl, OwnI.nil _ _, HB2.out⟩
    · have HA : Hid (sohM m t = (S, 0)) := Lib.hid (by unfold sohM; rw [hS])
      rw [HA.out]
      rw [hS] at hh
      have HH := Lib.hid hh
      have hn : ¬ (S.length : Int) = 0 := by omega
      have hn2 : ((S.length : Int) == 0) = false := by simpa using hn
      clear hwb hW hr hz hS hc hh HA s2
      go_enter Tryz.func16, Tryz.ntmps16
      go_wp2_with fail
      rw [HW.out]
      go_wp2_with fail
      refine HC.out.mono ?_
      rintro e w1 ⟨rfl, hb1⟩
      obtain ⟨y1, y2, y3⟩ := B1.out.keep hb1
      go_wp2_with fail
      refine (HH.out _ hb1).mono ?_
      rintro e w2 ⟨v, rfl, ho, hb2⟩
      obtain ⟨A2, c2, rfl, -⟩ := ho.form
      have HB2 := Lib.hid (below_step HB.out (below_step hb1 hb2))
      have HO := Lib.hid (ho.more (b' := w.heap.size) (below_step HB.out hb1).size)
      have hn3 : ¬ S.length = 0 := by omega
      clear ho hb1 hb2 s1
      go_wp2
      exact bodyPost_ret (v := .tuple #[.slice A2 S.length c2, .int .i64 0]) (by simp [results, Tryz.results16, go_sem]) rfl ⟨_, rfl, HO.out, HB2.out⟩
  · have HA : Hid (sohM m t = ([], codeH m t)) := Lib.hid (by unfold sohM; rw [stM_bad hc])
    rw [HA.out]
    obtain ⟨n1, n2⟩ := ne_facts hc
    obtain ⟨C, hC⟩ : ∃ C, codeH m t = C := ⟨_, rfl⟩
    rw [hC] at HC n1 n2 ⊢
    clear hwb hW hr hz hc HA hC
    go_enter Tryz.func16, Tryz.ntmps16
    go_wp2_with fail
    rw [HW.out]
    go_wp2_with fail
    refine HC.out.mono ?_
    rintro e w1 ⟨rfl, hb1⟩
    go_wp2
    exact bodyPost_ret (v := .tuple #[.slice none 0 0, .int .i64 C]) (by simp [results, Tryz.results16, go_sem]) rfl ⟨_, rfl, OwnI.nil _ _, below_step HB.out hb1⟩
end Go.Proofs.YtfhdgcndiljjcaaGreatDoor

/- The series of a height is short. -/
namespace Go.Proofs.YtfhdgcndiljjcaaGreatDoor
open Go.RowKit
theorem sohM_len (m : Int) (t : List (List Int)) : (sohM m t).1.length ≤ 1048576 := by
  unfold sohM stM
  by_cases hc : codeH m t = 0
  · rw [if_pos hc]
    obtain ⟨hl, -⟩ := codeH_ok hc
    obtain ⟨-, d, e1, ok, -⟩ := isL_of hl
    have hd2 := ok.d2
    split
    · exact Nat.zero_le _
    · show (serH _ _ _).length ≤ _
      rw [serH_len]
      have := Nat.div_le_self (t.length - 1) (m.toNat ^ hgN (mulC m (t.length - 1) t m (Pl.lin m (t.length - 1) 1)) m.toNat)
      omega
  · rw [if_neg hc]; exact Nat.zero_le _
end Go.Proofs.YtfhdgcndiljjcaaGreatDoor

/- Helpers of the exact laws whose result is a list of integers. -/
namespace Go.Proofs.YtfhdgcndiljjcaaGreatDoor
open Go.RowKit Go.WideShapes Go.ChangeShapes Go.ChangeAt

theorem heldInt64S_b (A : Option Addr) (c n : Nat) (k : Int) (w : World) (hl : n ≤ 10485760) (hk : 0 ≤ k) (hk2 : k ≤ 1000000000000) (hr : RI w A (marks k n)) :
    Calls Tryz.prog 21 #[.slice A n c, .int .i64 k] w fun e w' => e = .returned (.int .i64 (k + n)) ∧ Below w.heap.size w w' :=
  (heldInt64S_any A c n k w hl hk hk2 hr).mono fun e w' ⟨h1, h2⟩ => ⟨h1, by subst h2; exact Below.refl _ _⟩
end Go.Proofs.YtfhdgcndiljjcaaGreatDoor

