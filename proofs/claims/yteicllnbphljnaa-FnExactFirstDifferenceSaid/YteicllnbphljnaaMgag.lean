/- Texts of contracts, joined. -/
import Derived.Test.YteicllnbphljnaaMgac
import Derived.Test.YteicllnbphljnaaMgaf
import Derived.Test.YteicllnbphljnaaMgaa
import Derived.Test.YteicllnbphljnaaMgae
import Derived.Test.YteicllnbphljnaaMgab
import Derived.Test.YteicllnbphljnaaMgad
import Derived.Deep.Matrix
import Derived.Deep.QuietTactic
import Derived.BigQuiet
/- Contracts of CoefficientOf, of the program and of the model. -/
namespace Go.Proofs.Yteicllnbphljnaa
open Go.RowKit Go.WideShapes Go.ChangeShapes Go.ChangeAt

/-- the model of CoefficientOf -/
def coeP (m : Int) (t : List (List Int)) (i j : Int) : Int × Int :=
  if isP m t = true then (if inB i 0 ((t.length : Int) - 1) = true ∧ inB j 0 ((t.length : Int) - 1 - i) = true then (Pl.pc t i.toNat j.toNat, 0) else (0, 2)) else (0, 1)
/-- what the load of one number of a plane reads -/
theorem Box.num {W : World} {g : Nat} {m : Int} {d b off c : Nat} {t : List (List Int)} (hb : Box W g m (some ⟨b, off, none⟩) t.length c) (hs : Pl.Ok m d t) (hr : RP W (some ⟨b, off, none⟩) t) (i j : Nat) (hij : i + j ≤ d) :
    ∃ b' off' c' L N, L = d + 1 ∧ N = d - i + 1 ∧ W.cell? ⟨g, 1, none⟩ = some (.slice (some ⟨b, off, none⟩) L c) ∧ W.cell? ⟨b, off + i, none⟩ = some (.slice (some ⟨b', off', none⟩) N c') ∧ W.cell? ⟨b', off' + j, none⟩ = some (.int .i64 (Pl.pc t i j)) := by
  obtain ⟨_, x2, _⟩ := hb
  obtain ⟨b0, off0, b', off', c', e, -, k1, -, k2⟩ := hr.num i j (by rw [hs.len]; omega) (by rw [hs.row i (by omega)]; omega)
  injection e with e
  injection e with e1 e2
  subst e1 e2
  exact ⟨b', off', c', t.length, _, hs.len, hs.row i (by omega), x2, k1, k2⟩
theorem pro0P (w : World) (m : Int) (A : Option Addr) (n c : Nat) : ∃ W, (w.alloc (.cells #[.int .i64 m, .slice A n c] 33)).alloc (.cells #[.int .i64 m, .slice A n c] 33) = W ∧
    Box W w.heap.size m A n c ∧ Box W (w.heap.size + 1) m A n c ∧ Below w.heap.size w W := startB2 _ _ w m A n c m A n c
end Go.Proofs.Yteicllnbphljnaa

/- Contracts of ApplySeries, of the program and of the model. -/
namespace Go.Proofs.Yteicllnbphljnaa
open Go.RowKit Go.WideShapes Go.ChangeShapes Go.ChangeAt

/-- the model of ApplySeries -/
def appP (m : Int) (l : List Int) (m' : Int) (t : List (List Int)) : Int × List (List Int) × Int :=
  if codePS m' t m l = 0 then (if Pl.pc t 0 0 = 0 then (m', Pl.hor m' (t.length - 1) l (Pl.pc t) t.length, 0) else (0, [], 5)) else (0, [], codePS m' t m l)
theorem appP_len (m : Int) (l : List Int) (m' : Int) (t : List (List Int)) : szT (appP m l m' t).2.1 ≤ 1048576 := by
  unfold appP
  split
  · rename_i h
    obtain ⟨_, d, e, _, s, _⟩ := codePS_ok h
    split
    · exact szT_ok (Pl.hor_ok s.m1 s.m2 (by have := s.d1; omega) (by have := s.d2; omega) l _ _ : Pl.Ok m' (t.length - 1) _)
    · show szT [] ≤ 1048576
      decide
  · show szT [] ≤ 1048576
    decide
/-- a series' box, a plane's box, the result's variable, the list of the one series -/
theorem proA (w : World) (m : Int) (A : Option Addr) (n c : Nat) (m' : Int) (A' : Option Addr) (n' c' : Nat) : ∃ W, (((w.alloc (.cells #[.int .i64 m, .slice A n c] 30)).alloc (.cells #[.int .i64 m', .slice A' n' c'] 33)).alloc (.cells #[.int .i64 0, .slice none 0 0] 33)).alloc (.cells #[.int .i64 m, .slice A n c] 30) = W ∧
    Box W w.heap.size m A n c ∧ Box W (w.heap.size + 1) m' A' n' c' ∧ VarC 33 W (w.heap.size + 1 + 1) #[.int .i64 0, .slice none 0 0] ∧ Box W (w.heap.size + 1 + 1 + 1) m A n c ∧ Below w.heap.size w W := by
  refine ⟨_, rfl, (((Box.newT _ _ _ _ _ _).keep (below_one _ _)).keep (below_one _ _)).keep (below_one _ _), ?_, ?_, ?_, below_alloc _ (below_alloc _ (below_alloc _ (below_one _ _)))⟩
  · have := ((Box.newT 33 (w.alloc (.cells #[.int .i64 m, .slice A n c] 30)) m' A' n' c').keep (below_one _ (.cells #[.int .i64 0, .slice none 0 0] 33))).keep (below_one _ (.cells #[.int .i64 m, .slice A n c] 30))
    simpa using this
  · have := (VarC.new 33 ((w.alloc (.cells #[.int .i64 m, .slice A n c] 30)).alloc (.cells #[.int .i64 m', .slice A' n' c'] 33)) #[.int .i64 0, .slice none 0 0]).keep (below_one _ (.cells #[.int .i64 m, .slice A n c] 30))
    simpa using this
  · have := Box.newT 30 (((w.alloc (.cells #[.int .i64 m, .slice A n c] 30)).alloc (.cells #[.int .i64 m', .slice A' n' c'] 33)).alloc (.cells #[.int .i64 0, .slice none 0 0] 33)) m A n c
    simpa using this
theorem kp2_call {w w' : World} {a1 a2 a3 a4 : Addr} {x y z u : Value} (hb : Below w.heap.size w w') (hs : (w.cell? a1 = some x ∧ w.cell? a2 = some y) ∧ (w.cell? a3 = some z ∧ w.cell? a4 = some u)) : (w'.cell? a1 = some x ∧ w'.cell? a2 = some y) ∧ (w'.cell? a3 = some z ∧ w'.cell? a4 = some u) :=
  ⟨kp_call hb hs.1, kp_call hb hs.2⟩
theorem kp2_store {w : World} {a1 a2 a3 a4 b : Addr} {x y z u v : Value} (h1 : b.block ≠ a1.block) (h2 : b.block ≠ a2.block) (h3 : b.block ≠ a3.block) (h4 : b.block ≠ a4.block) (hs : (w.cell? a1 = some x ∧ w.cell? a2 = some y) ∧ (w.cell? a3 = some z ∧ w.cell? a4 = some u)) : ((w.setCell b v).cell? a1 = some x ∧ (w.setCell b v).cell? a2 = some y) ∧ ((w.setCell b v).cell? a3 = some z ∧ (w.setCell b v).cell? a4 = some u) :=
  ⟨kp_store h1 h2 hs.1, kp_store h3 h4 hs.2⟩
theorem kp2_store2 {w : World} {g g1 g2 i1 i2 i3 i4 : Nat} {x y z u v v' : Value} (h1 : g ≠ g1) (h2 : g ≠ g2) (hs : (w.cell? ⟨g1, i1, none⟩ = some x ∧ w.cell? ⟨g1, i2, none⟩ = some y) ∧ (w.cell? ⟨g2, i3, none⟩ = some z ∧ w.cell? ⟨g2, i4, none⟩ = some u)) :
    (((w.setCell ⟨g, 0, none⟩ v).setCell ⟨g, 1, none⟩ v').cell? ⟨g1, i1, none⟩ = some x ∧ ((w.setCell ⟨g, 0, none⟩ v).setCell ⟨g, 1, none⟩ v').cell? ⟨g1, i2, none⟩ = some y) ∧ (((w.setCell ⟨g, 0, none⟩ v).setCell ⟨g, 1, none⟩ v').cell? ⟨g2, i3, none⟩ = some z ∧ ((w.setCell ⟨g, 0, none⟩ v).setCell ⟨g, 1, none⟩ v').cell? ⟨g2, i4, none⟩ = some u) :=
  kp2_store h1 h1 h2 h2 (kp2_store h1 h1 h2 h2 hs)
end Go.Proofs.Yteicllnbphljnaa

/- Contracts of the model's IsSeries and IsCurve. -/
namespace Go.Proofs.Yteicllnbphljnaa
open Go.RowKit Go.WideShapes Go.ChangeShapes Go.ChangeAt

set_option maxHeartbeats 1000000 in
theorem l02Curve_any (m : Int) (A : Option Addr) (c : Nat) (l : List Int) (w : World) (hl : l.length ≤ 9223372036854775807) (hr : RI w A l) :
    Calls Try.prog 114 #[.agg #[.int .i64 m, .slice A l.length c]] w fun e w' => e = .returned (.bool (isC m l)) ∧ Below w.heap.size w w' := by
  have hb0 := below_one w (.cells #[.int .i64 m, .slice A l.length c] 30)
  have hi := l02Is_any m A c l _ hl (hr.below hb0)
  by_cases h1 : isS m l = true
  · obtain ⟨k1, k2, _⟩ := isS_iff h1
    rw [h1] at hi
    have H := Lib.hid hi
    have HF := Lib.hid (show isC m l = (l[0]?.getD 0 == 0) by unfold isC; rw [h1]; rfl)
    obtain ⟨b, off, rfl, hb, hc⟩ := hr (by rintro rfl; simp at k1)
    have hc0 : w.cell? ⟨b, off, none⟩ = some (.int .i64 (l[0]?.getD 0)) := hc 0 (by omega)
    obtain ⟨x, hx⟩ : ∃ x, l[0]?.getD 0 = x := ⟨_, rfl⟩
    rw [hx] at hc0
    have HX := Lib.hid hx
    have HBx := Lib.hid (Box.new w m (some ⟨b, off, none⟩) l.length c)
    have H0 := Lib.hid hb0
    clear hx hc hi hb0
    have z1 : (0 : Int) < (l.length : Int) := by omega
    go_enter Try.func114, Try.ntmps114
    go_wp2_with fail
    refine H.out.mono ?_
    rintro e w1 ⟨rfl, hb1⟩
    obtain ⟨x1, x2⟩ := box_in HBx.out hb1
    have hb2 := below_step H0.out hb1
    have x3 := (hb2.cell (p := ⟨b, off, none⟩) hb).trans hc0
    go_wp2
    go_ret
    exact ⟨ret_bool (by rw [HF.out, HX.out]), hb2⟩
  · have h1' : isS m l = false := by simpa using h1
    rw [h1'] at hi
    have H := Lib.hid hi
    have HF := Lib.hid (show isC m l = false by unfold isC; rw [h1']; rfl)
    have H0 := Lib.hid hb0
    clear h1 hi hb0 hr
    go_enter Try.func114, Try.ntmps114
    go_wp2_with fail
    refine H.out.mono ?_
    rintro e w1 ⟨rfl, hb1⟩
    go_wp2
    go_ret
    exact ⟨ret_bool HF.out.symm, below_step H0.out hb1⟩
end Go.Proofs.Yteicllnbphljnaa

/- Contracts of SubstituteCurves and SubstituteBoth, of the program and of the model. -/
namespace Go.Proofs.Yteicllnbphljnaa
open Go.RowKit Go.WideShapes Go.ChangeShapes Go.ChangeAt

/-- the code of a plane and two curves -/
def codePC2 (m : Int) (t : List (List Int)) (m1 : Int) (l1 : List Int) (m2 : Int) (l2 : List Int) : Int := codeLC (isP m t) m t.length [(m1, none, 0, l1), (m2, none, 0, l2)]
theorem codePC2_eq (m : Int) (t : List (List Int)) (m1 : Int) (A1 : Option Addr) (c1 : Nat) (l1 : List Int) (m2 : Int) (A2 : Option Addr) (c2 : Nat) (l2 : List Int) : codeLC (isP m t) m t.length [(m1, A1, c1, l1), (m2, A2, c2, l2)] = codePC2 m t m1 l1 m2 l2 := rfl
theorem isC_two {m : Int} {l : List Int} (h : isC m l = true) : isS m l = true ∧ Ser.co l 0 = 0 := by
  unfold isC at h
  rw [Bool.and_eq_true] at h
  exact ⟨h.1, by simpa [Ser.co] using h.2⟩
theorem codeL_zero {ok : Bool} {m : Int} {n : Nat} {xs : List (Int × Option Addr × Nat × List Int)} (h : codeL ok m n xs = 0) : ok = true ∧ allS xs = true ∧ alkS m n xs = true := by
  unfold codeL at h
  by_cases h1 : ok = true ∧ allS xs = true
  · rw [if_pos h1] at h
    by_cases h2 : alkS m n xs = true
    · exact ⟨h1.1, h1.2, h2⟩
    · rw [if_neg h2] at h; exact absurd h (by decide)
  · rw [if_neg h1] at h; exact absurd h (by decide)
theorem codeLC_zero {ok : Bool} {m : Int} {n : Nat} {xs : List (Int × Option Addr × Nat × List Int)} (h : codeLC ok m n xs = 0) : ok = true ∧ allS xs = true ∧ alkS m n xs = true ∧ curS xs = true := by
  unfold codeLC at h
  by_cases h1 : codeL ok m n xs = 0
  · rw [if_pos h1] at h
    obtain ⟨a, b, c⟩ := codeL_zero h1
    by_cases h2 : curS xs = true
    · exact ⟨a, b, c, h2⟩
    · rw [if_neg h2] at h; exact absurd h (by decide)
  · rw [if_neg h1] at h; exact absurd h h1
theorem codePC2_ok {m : Int} {t : List (List Int)} {m1 : Int} {l1 : List Int} {m2 : Int} {l2 : List Int} (h : codePC2 m t m1 l1 m2 l2 = 0) :
    m1 = m ∧ m2 = m ∧ ∃ d, t.length = d + 1 ∧ l1.length = d + 1 ∧ l2.length = d + 1 ∧ Pl.Ok m d t ∧ SerOk m d l1 ∧ SerOk m d l2 ∧ Ser.co l1 0 = 0 ∧ Ser.co l2 0 = 0 := by
  obtain ⟨h0, h1, h2, h3⟩ := codeLC_zero h
  obtain ⟨d, e, ok⟩ := plOk_of h0
  unfold allS at h1
  unfold alkS at h2
  unfold curS at h3
  simp only [List.all_cons, List.all_nil, Bool.and_true, Bool.and_eq_true, decide_eq_true_iff] at h1 h2 h3
  obtain ⟨⟨rfl, e1⟩, rfl, e2⟩ := h2
  obtain ⟨d1, f1, s1⟩ := serOk_of h1.1
  obtain ⟨d2, f2, s2⟩ := serOk_of h1.2
  obtain rfl : d1 = d := by omega
  obtain rfl : d2 = d1 := by omega
  exact ⟨rfl, rfl, d2, e, f1, f2, ok, s1, s2, (isC_two h3.1).2, (isC_two h3.2).2⟩
/-- a plane's box, two series' boxes, the result's variable, the list of both series -/
theorem proS (R : TypeId) (w : World) (m : Int) (A : Option Addr) (n c : Nat) (m1 : Int) (A1 : Option Addr) (n1 c1 : Nat) (m2 : Int) (A2 : Option Addr) (n2 c2 : Nat) :
    ∃ W, ((((w.alloc (.cells #[.int .i64 m, .slice A n c] 33)).alloc (.cells #[.int .i64 m1, .slice A1 n1 c1] 30)).alloc (.cells #[.int .i64 m2, .slice A2 n2 c2] 30)).alloc (.cells #[.int .i64 0, .slice none 0 0] R)).alloc (.cells #[.int .i64 m1, .slice A1 n1 c1, .int .i64 m2, .slice A2 n2 c2] 30) = W ∧
    Box W w.heap.size m A n c ∧ Box W (w.heap.size + 1) m1 A1 n1 c1 ∧ Box W (w.heap.size + 1 + 1) m2 A2 n2 c2 ∧ VarC R W (w.heap.size + 1 + 1 + 1) #[.int .i64 0, .slice none 0 0] ∧ Box4 W (w.heap.size + 1 + 1 + 1 + 1) m1 A1 n1 c1 m2 A2 n2 c2 ∧ Below w.heap.size w W := by
  obtain ⟨W0, h0, h1, h2, h3, h4⟩ := startB3 33 30 30 w m A n c m1 A1 n1 c1 m2 A2 n2 c2
  have hs : W0.heap.size = w.heap.size + 1 + 1 + 1 := by rw [← h0]; simp
  rw [h0]
  refine ⟨_, rfl, (h1.keep (below_one _ _)).keep (below_one _ _), (h2.keep (below_one _ _)).keep (below_one _ _), (h3.keep (below_one _ _)).keep (below_one _ _), ?_, ?_, below_alloc _ (below_alloc _ h4)⟩
  · have := (VarC.new R W0 #[.int .i64 0, .slice none 0 0]).keep (below_one _ (.cells #[.int .i64 m1, .slice A1 n1 c1, .int .i64 m2, .slice A2 n2 c2] 30))
    rwa [hs] at this
  · have hv := VarC.new 30 (W0.alloc (.cells #[.int .i64 0, .slice none 0 0] R)) #[.int .i64 m1, .slice A1 n1 c1, .int .i64 m2, .slice A2 n2 c2]
    have e : (W0.alloc (.cells #[.int .i64 0, .slice none 0 0] R)).heap.size = w.heap.size + 1 + 1 + 1 + 1 := by simp [hs]
    rw [e] at hv
    exact ⟨⟨hv.cell 0 _ rfl, hv.cell 1 _ rfl, hv.lt⟩, hv.cell 2 _ rfl, hv.cell 3 _ rfl⟩
/-- .. without the list -/
theorem sproS (R : TypeId) (w : World) (m : Int) (A : Option Addr) (n c : Nat) (m1 : Int) (A1 : Option Addr) (n1 c1 : Nat) (m2 : Int) (A2 : Option Addr) (n2 c2 : Nat) :
    ∃ W, (((w.alloc (.cells #[.int .i64 m, .slice A n c] 33)).alloc (.cells #[.int .i64 m1, .slice A1 n1 c1] 30)).alloc (.cells #[.int .i64 m2, .slice A2 n2 c2] 30)).alloc (.cells #[.int .i64 0, .slice none 0 0] R) = W ∧
    Box W w.heap.size m A n c ∧ Box W (w.heap.size + 1) m1 A1 n1 c1 ∧ Box W (w.heap.size + 1 + 1) m2 A2 n2 c2 ∧ VarC R W (w.heap.size + 1 + 1 + 1) #[.int .i64 0, .slice none 0 0] ∧ Below w.heap.size w W := by
  obtain ⟨W0, h0, h1, h2, h3, h4⟩ := startB3 33 30 30 w m A n c m1 A1 n1 c1 m2 A2 n2 c2
  have hs : W0.heap.size = w.heap.size + 1 + 1 + 1 := by rw [← h0]; simp
  rw [h0]
  refine ⟨_, rfl, h1.keep (below_one _ _), h2.keep (below_one _ _), h3.keep (below_one _ _), ?_, below_alloc _ h4⟩
  have := VarC.new R W0 #[.int .i64 0, .slice none 0 0]
  rwa [hs] at this
/-- what the three boxes hold is kept -/
theorem box3_call {w w' : World} {g g1 g2 : Nat} {m m1 m2 : Int} {A A1 A2 : Option Addr} {n c n1 c1 n2 c2 : Nat} (hb : Below w.heap.size w w') (h : Box w g m A n c ∧ Box w g1 m1 A1 n1 c1 ∧ Box w g2 m2 A2 n2 c2) : Box w' g m A n c ∧ Box w' g1 m1 A1 n1 c1 ∧ Box w' g2 m2 A2 n2 c2 :=
  ⟨h.1.keep hb, h.2.1.keep hb, h.2.2.keep hb⟩
/-- the models -/
def subP (m : Int) (t : List (List Int)) (m1 : Int) (l1 : List Int) (m2 : Int) (l2 : List Int) : Int × List Int × Int :=
  if codePC2 m t m1 l1 m2 l2 = 0 then (m, Pl.putL m (t.length - 1) (Pl.pc t) l1 l2, 0) else (0, [], codePC2 m t m1 l1 m2 l2)
theorem subP_len (m : Int) (t : List (List Int)) (m1 : Int) (l1 : List Int) (m2 : Int) (l2 : List Int) : (subP m t m1 l1 m2 l2).2.1.length ≤ 1048576 := by
  unfold subP
  split
  · rename_i h
    obtain ⟨_, _, d, e, _, _, ok, _⟩ := codePC2_ok h
    have := ok.d2
    dsimp only
    rw [Pl.putL_length]; omega
  · simp
def botP (m : Int) (t : List (List Int)) (m1 : Int) (l1 : List Int) (m2 : Int) (l2 : List Int) : Int × List (List Int) × Int :=
  if codePC2 m t m1 l1 m2 l2 = 0 then (m, Pl.botT m (t.length - 1) (Pl.pc t) l1 l2, 0) else (0, [], codePC2 m t m1 l1 m2 l2)
theorem botP_len (m : Int) (t : List (List Int)) (m1 : Int) (l1 : List Int) (m2 : Int) (l2 : List Int) : szT (botP m t m1 l1 m2 l2).2.1 ≤ 1048576 := by
  unfold botP
  split
  · rename_i h
    obtain ⟨_, _, d, e, _, _, ok, _⟩ := codePC2_ok h
    refine szT_ok (m := m) (d := d) ?_
    rw [e]
    exact ok.tab _
  · show szT [] ≤ 1048576
    decide
/-- in the walk's form: three boxes are kept by a call and by a store elsewhere -/
theorem kb3_call {w w' : World} {g g1 g2 : Nat} {m m1 m2 : Int} {A A1 A2 : Option Addr} {n c n1 c1 n2 c2 : Nat} (hb : Below w.heap.size w w')
    (h : (w.cell? ⟨g, 0, none⟩ = some (.int .i64 m) ∧ w.cell? ⟨g, 1, none⟩ = some (.slice A n c) ∧ g < w.heap.size) ∧ (w.cell? ⟨g1, 0, none⟩ = some (.int .i64 m1) ∧ w.cell? ⟨g1, 1, none⟩ = some (.slice A1 n1 c1) ∧ g1 < w.heap.size) ∧ (w.cell? ⟨g2, 0, none⟩ = some (.int .i64 m2) ∧ w.cell? ⟨g2, 1, none⟩ = some (.slice A2 n2 c2) ∧ g2 < w.heap.size)) :
    (w'.cell? ⟨g, 0, none⟩ = some (.int .i64 m) ∧ w'.cell? ⟨g, 1, none⟩ = some (.slice A n c) ∧ g < w'.heap.size) ∧ (w'.cell? ⟨g1, 0, none⟩ = some (.int .i64 m1) ∧ w'.cell? ⟨g1, 1, none⟩ = some (.slice A1 n1 c1) ∧ g1 < w'.heap.size) ∧ (w'.cell? ⟨g2, 0, none⟩ = some (.int .i64 m2) ∧ w'.cell? ⟨g2, 1, none⟩ = some (.slice A2 n2 c2) ∧ g2 < w'.heap.size) :=
  box3_call hb h
theorem kb3_store {w : World} {b g g1 g2 : Nat} {m m1 m2 : Int} {A A1 A2 : Option Addr} {n c n1 c1 n2 c2 : Nat} {x y : Value} (e0 : b ≠ g) (e1 : b ≠ g1) (e2 : b ≠ g2)
    (h : (w.cell? ⟨g, 0, none⟩ = some (.int .i64 m) ∧ w.cell? ⟨g, 1, none⟩ = some (.slice A n c) ∧ g < w.heap.size) ∧ (w.cell? ⟨g1, 0, none⟩ = some (.int .i64 m1) ∧ w.cell? ⟨g1, 1, none⟩ = some (.slice A1 n1 c1) ∧ g1 < w.heap.size) ∧ (w.cell? ⟨g2, 0, none⟩ = some (.int .i64 m2) ∧ w.cell? ⟨g2, 1, none⟩ = some (.slice A2 n2 c2) ∧ g2 < w.heap.size)) :
    let w' := (w.setCell ⟨b, 0, none⟩ x).setCell ⟨b, 1, none⟩ y
    (w'.cell? ⟨g, 0, none⟩ = some (.int .i64 m) ∧ w'.cell? ⟨g, 1, none⟩ = some (.slice A n c) ∧ g < w'.heap.size) ∧ (w'.cell? ⟨g1, 0, none⟩ = some (.int .i64 m1) ∧ w'.cell? ⟨g1, 1, none⟩ = some (.slice A1 n1 c1) ∧ g1 < w'.heap.size) ∧ (w'.cell? ⟨g2, 0, none⟩ = some (.int .i64 m2) ∧ w'.cell? ⟨g2, 1, none⟩ = some (.slice A2 n2 c2) ∧ g2 < w'.heap.size) :=
  ⟨((show Box w g m A n c from h.1).far b 0 x e0).far b 1 y e0, ((show Box w g1 m1 A1 n1 c1 from h.2.1).far b 0 x e1).far b 1 y e1, ((show Box w g2 m2 A2 n2 c2 from h.2.2).far b 0 x e2).far b 1 y e2⟩
set_option maxHeartbeats 16000000 in
set_option maxRecDepth 100000 in
theorem SubstituteCurves_any (m : Int) (A : Option Addr) (c : Nat) (t : List (List Int)) (m1 : Int) (A1 : Option Addr) (c1 : Nat) (l1 : List Int) (m2 : Int) (A2 : Option Addr) (c2 : Nat) (l2 : List Int) (w : World) (hz : szT t ≤ 1048576) (hl1 : l1.length ≤ 1048576) (hl2 : l2.length ≤ 1048576) (hr : RP w A t) (hr1 : RI w A1 l1) (hr2 : RI w A2 l2) :
    Calls Try.prog 22 #[.agg #[.int .i64 m, .slice A t.length c], .agg #[.int .i64 m1, .slice A1 l1.length c1], .agg #[.int .i64 m2, .slice A2 l2.length c2]] w fun e w' => ∃ s, e = .returned (.tuple #[.agg #[.int .i64 (subP m t m1 l1 m2 l2).1, s], .int .i64 (subP m t m1 l1 m2 l2).2.2]) ∧ OwnI w' w.heap.size s (subP m t m1 l1 m2 l2).2.1 ∧ Below w.heap.size w w' := by
  obtain ⟨W, hW, b1, b2, b3, v4, b5, hwb⟩ := proS 30 w m A t.length c m1 A1 l1.length c1 m2 A2 l2.length c2
  have hc : Calls Try.prog 65 #[.agg #[.int .i64 m, .slice A t.length c], .slice (some ⟨w.heap.size + 1 + 1 + 1 + 1, 0, none⟩) 2 2] W fun e w' => e = .returned (.int .i64 (codePC2 m t m1 l1 m2 l2)) ∧ Below W.heap.size W w' :=
    codePCL_any (w.heap.size + 1 + 1 + 1 + 1) m A c t [(m1, A1, c1, l1), (m2, A2, c2, l2)] W hz (hr.below hwb) (SL.two b5 (hr1.below hwb) (hr2.below hwb) hl1 hl2) (by simp)
  have B1 := Lib.hid b1
  have B2 := Lib.hid b2
  have B3 := Lib.hid b3
  have V4 := Lib.hid v4
  have HB := Lib.hid hwb
  have HW := Lib.hid hW
  have hsz4 : w.heap.size + 1 + 1 + 1 < W.heap.size := v4.lt
  by_cases h0 : codePC2 m t m1 l1 m2 l2 = 0
  · obtain ⟨rfl, rfl, d, e1, f1, f2, ok, s1, s2, z1, z2⟩ := codePC2_ok h0
    rw [h0] at hc
    have HC0 := Lib.hid hc
    have HA : Hid (subP m2 t m2 l1 m2 l2 = (m2, Pl.putL m2 d (Pl.pc t) l1 l2, 0)) := Lib.hid (by unfold subP; rw [if_pos h0, e1]; rfl)
    rw [HA.out]
    have HG := Lib.hid (fun W0 => gridOf_nat m2 A t.length c d W0 e1 (by have := ok.d2; omega))
    have HP := Lib.hid (fun W0 (h : Below W.heap.size W W0) => withCurves_any m2 d A c t A1 c1 l1 A2 c2 l2 W0 ok s1 s2 z1 z2 ((hr.below hwb).below h) ((hr1.below hwb).below h) ((hr2.below hwb).below h))
    have HD := Lib.hid (fun (W0 : World) (A0 : Option Addr) (c0 : Nat) (h : RP W0 A0 (Pl.botT m2 d (Pl.pc t) l1 l2)) => by
      have := diagonal_any m2 d A0 c0 (Pl.botT m2 d (Pl.pc t) l1 l2) W0 (ok.tab _) h
      rw [show Ser.cut m2 d (diaF (Pl.botT m2 d (Pl.pc t) l1 l2)) = Pl.putL m2 d (Pl.pc t) l1 l2 from Pl.diag_cut m2 d (Pl.pc t) l1 l2] at this
      exact this)
    obtain ⟨T, hT⟩ : ∃ T, Pl.botT m2 d (Pl.pc t) l1 l2 = T := ⟨_, rfl⟩
    obtain ⟨R, hR⟩ : ∃ R, Pl.putL m2 d (Pl.pc t) l1 l2 = R := ⟨_, rfl⟩
    rw [hT] at HP HD
    rw [hR] at HD ⊢
    obtain ⟨Lt, hLt⟩ : ∃ L, t.length = L := ⟨_, rfl⟩
    obtain ⟨n1, hn1⟩ : ∃ L, l1.length = L := ⟨_, rfl⟩
    obtain ⟨n2, hn2⟩ : ∃ L, l2.length = L := ⟨_, rfl⟩
    rw [hLt] at HC0 HG HP HW B1 ⊢
    rw [hn1] at HP HW B2 ⊢
    rw [hn2] at HP HW B3 ⊢
    clear b1 b2 b3 v4 b5 hwb hW hr hr1 hr2 hc h0 ok s1 s2 z1 z2 e1 f1 f2 hz hl1 hl2 hT hR hLt hn1 hn2
    go_enter Try.func22, Try.ntmps22
    go_wp2_with fail
    rw [HW.out]
    refine HC0.out.mono ?_
    rintro e w1 ⟨rfl, hb1⟩
    have hx0 := kb3_call hb1 (⟨B1.out, B2.out, B3.out⟩ : Box W _ _ _ _ _ ∧ Box W _ _ _ _ _ ∧ Box W _ _ _ _ _)
    obtain ⟨⟨x1, x2, -⟩, ⟨y1, y2, -⟩, ⟨y3, y4, -⟩⟩ := hx0
    have X0 := Lib.hid (kb3_call (hb1.trans ((below_drew0 w1).mono hb1.size)) (⟨B1.out, B2.out, B3.out⟩ : Box W _ _ _ _ _ ∧ Box W _ _ _ _ _ ∧ Box W _ _ _ _ _))
    go_wp2
    go_region_held3 (fun w' => (w'.cell? ⟨w.heap.size, 0, none⟩ = some (.int .i64 m2) ∧ w'.cell? ⟨w.heap.size, 1, none⟩ = some (.slice A Lt c) ∧ w.heap.size < w'.heap.size) ∧ (w'.cell? ⟨w.heap.size + 1, 0, none⟩ = some (.int .i64 m2) ∧ w'.cell? ⟨w.heap.size + 1, 1, none⟩ = some (.slice A1 n1 c1) ∧ w.heap.size + 1 < w'.heap.size) ∧ (w'.cell? ⟨w.heap.size + 1 + 1, 0, none⟩ = some (.int .i64 m2) ∧ w'.cell? ⟨w.heap.size + 1 + 1, 1, none⟩ = some (.slice A2 n2 c2) ∧ w.heap.size + 1 + 1 < w'.heap.size)) (first | exact X0.out | exact kb3_call hb4 (by assumption) | exact kb3_call hb3 (by assumption) | exact kb3_call hb2 (by assumption) | exact kb3_store (by omega) (by omega) (by omega) (by assumption)) (first
      | (go_at_call 66; with_reducible refine Calls.mono (HG.out _) ?_; rintro e w2 ⟨rfl, hb2⟩)
      | (go_at_call 67; with_reducible refine Calls.mono (HP.out _ (below_step (below_step hb1 (below_drew0 _)) hb2)) ?_; rintro e w3 ⟨s3, rfl, ho3, hb3⟩; obtain ⟨A3, c3, rfl, -⟩ := ho3.len)
      | (go_at_call 68; with_reducible refine Calls.mono (HD.out _ _ _ ho3.rp) ?_; rintro e w4 ⟨s4, rfl, ho4, hb4⟩; obtain ⟨A4, c4, rfl, -⟩ := ho4.form; have hv := V4.out.keep (below_step (below_step (below_step (below_step hb1 (below_drew0 _)) hb2) hb3) hb4); obtain ⟨q0, q1, q2, q3⟩ := hv.tells2))
    all_goals
      have hw3 := below_step (below_step (below_step (below_step hb1 (below_drew0 _)) hb2) hb3) hb4
      have hz1 := (below_step (below_step (below_step hb1 (below_drew0 _)) hb2) hb3).size
      obtain ⟨f0, f1, f2, f3⟩ := fin_serC (w := w) hv ho4 (by omega) (by omega) (below_step HB.out hw3) (.int .i64 m2) (.slice A4 R.length c4)
      have F2 := Lib.hid (OwnI.more (b' := w.heap.size) f2 (by omega))
      have F3 := Lib.hid f3
      clear f2 f3 hv hw3 ho4 hb2 hb3 hb4 hb1
      go_wp2
      exact bodyPost_ret (v := .tuple #[.agg #[.int .i64 m2, .slice A4 R.length c4], .int .i64 0]) (by simp [results, Try.results22, go_sem, f0, f1]) rfl ⟨_, rfl, F2.out, F3.out⟩
  · have HA : Hid (subP m t m1 l1 m2 l2 = (0, [], codePC2 m t m1 l1 m2 l2)) := Lib.hid (by unfold subP; rw [if_neg h0])
    rw [HA.out]
    obtain ⟨n1, n2⟩ := ne_facts h0
    obtain ⟨C, hC⟩ : ∃ C, codePC2 m t m1 l1 m2 l2 = C := ⟨_, rfl⟩
    rw [hC] at n1 n2 h0 hc ⊢
    have HC0 := Lib.hid hc
    clear b1 b2 b3 v4 b5 hwb hW hr hr1 hr2 hz hl1 hl2 hc hC
    go_enter Try.func22, Try.ntmps22
    go_wp2_with fail
    rw [HW.out]
    refine HC0.out.mono ?_
    rintro e w1 ⟨rfl, hb1⟩
    have hv := V4.out.keep (hb1)
    obtain ⟨q0, q1, q2, q3⟩ := hv.tells2
    obtain ⟨f0, f1, f2, f3⟩ := fin_serC (w := w) hv (OwnI.nil _ (w.heap.size + 1 + 1 + 1 + 1)) (by omega) (by omega) (below_step HB.out (hb1)) (.int .i64 0) (.slice none 0 0)
    have F2 := Lib.hid (OwnI.more (b' := w.heap.size) f2 (by omega))
    have F3 := Lib.hid f3
    clear f2 f3 hv
    go_wp2
    exact bodyPost_ret (v := .tuple #[.agg #[.int .i64 0, .slice none 0 0], .int .i64 (C)]) (by simp [results, Try.results22, go_sem, f0, f1]) rfl ⟨_, rfl, F2.out, F3.out⟩
set_option maxHeartbeats 16000000 in
set_option maxRecDepth 100000 in
theorem SubstituteBoth_any (m : Int) (A : Option Addr) (c : Nat) (t : List (List Int)) (m1 : Int) (A1 : Option Addr) (c1 : Nat) (l1 : List Int) (m2 : Int) (A2 : Option Addr) (c2 : Nat) (l2 : List Int) (w : World) (hz : szT t ≤ 1048576) (hl1 : l1.length ≤ 1048576) (hl2 : l2.length ≤ 1048576) (hr : RP w A t) (hr1 : RI w A1 l1) (hr2 : RI w A2 l2) :
    Calls Try.prog 29 #[.agg #[.int .i64 m, .slice A t.length c], .agg #[.int .i64 m1, .slice A1 l1.length c1], .agg #[.int .i64 m2, .slice A2 l2.length c2]] w fun e w' => ∃ s, e = .returned (.tuple #[.agg #[.int .i64 (botP m t m1 l1 m2 l2).1, s], .int .i64 (botP m t m1 l1 m2 l2).2.2]) ∧ OwnR w' w.heap.size w'.heap.size s (botP m t m1 l1 m2 l2).2.1 ∧ Below w.heap.size w w' := by
  obtain ⟨W, hW, b1, b2, b3, v4, b5, hwb⟩ := proS 33 w m A t.length c m1 A1 l1.length c1 m2 A2 l2.length c2
  have hc : Calls Try.prog 65 #[.agg #[.int .i64 m, .slice A t.length c], .slice (some ⟨w.heap.size + 1 + 1 + 1 + 1, 0, none⟩) 2 2] W fun e w' => e = .returned (.int .i64 (codePC2 m t m1 l1 m2 l2)) ∧ Below W.heap.size W w' :=
    codePCL_any (w.heap.size + 1 + 1 + 1 + 1) m A c t [(m1, A1, c1, l1), (m2, A2, c2, l2)] W hz (hr.below hwb) (SL.two b5 (hr1.below hwb) (hr2.below hwb) hl1 hl2) (by simp)
  have B1 := Lib.hid b1
  have B2 := Lib.hid b2
  have B3 := Lib.hid b3
  have V4 := Lib.hid v4
  have HB := Lib.hid hwb
  have HW := Lib.hid hW
  have hsz4 : w.heap.size + 1 + 1 + 1 < W.heap.size := v4.lt
  by_cases h0 : codePC2 m t m1 l1 m2 l2 = 0
  · obtain ⟨rfl, rfl, d, e1, f1, f2, ok, s1, s2, z1, z2⟩ := codePC2_ok h0
    rw [h0] at hc
    have HC0 := Lib.hid hc
    have HA : Hid (botP m2 t m2 l1 m2 l2 = (m2, Pl.botT m2 d (Pl.pc t) l1 l2, 0)) := Lib.hid (by unfold botP; rw [if_pos h0, e1]; rfl)
    rw [HA.out]
    have HG := Lib.hid (fun W0 => gridOf_nat m2 A t.length c d W0 e1 (by have := ok.d2; omega))
    have HP := Lib.hid (fun W0 (h : Below W.heap.size W W0) => withCurves_any m2 d A c t A1 c1 l1 A2 c2 l2 W0 ok s1 s2 z1 z2 ((hr.below hwb).below h) ((hr1.below hwb).below h) ((hr2.below hwb).below h))
    obtain ⟨R, hR⟩ : ∃ R, Pl.botT m2 d (Pl.pc t) l1 l2 = R := ⟨_, rfl⟩
    rw [hR] at HP ⊢
    have hT := hR
    obtain ⟨Lt, hLt⟩ : ∃ L, t.length = L := ⟨_, rfl⟩
    obtain ⟨n1, hn1⟩ : ∃ L, l1.length = L := ⟨_, rfl⟩
    obtain ⟨n2, hn2⟩ : ∃ L, l2.length = L := ⟨_, rfl⟩
    rw [hLt] at HC0 HG HP HW B1 ⊢
    rw [hn1] at HP HW B2 ⊢
    rw [hn2] at HP HW B3 ⊢
    clear b1 b2 b3 v4 b5 hwb hW hr hr1 hr2 hc h0 ok s1 s2 z1 z2 e1 f1 f2 hz hl1 hl2 hT hR hLt hn1 hn2
    go_enter Try.func29, Try.ntmps29
    go_wp2_with fail
    rw [HW.out]
    refine HC0.out.mono ?_
    rintro e w1 ⟨rfl, hb1⟩
    have hx0 := kb3_call hb1 (⟨B1.out, B2.out, B3.out⟩ : Box W _ _ _ _ _ ∧ Box W _ _ _ _ _ ∧ Box W _ _ _ _ _)
    obtain ⟨⟨x1, x2, -⟩, ⟨y1, y2, -⟩, ⟨y3, y4, -⟩⟩ := hx0
    have X0 := Lib.hid (kb3_call (hb1.trans ((below_drew0 w1).mono hb1.size)) (⟨B1.out, B2.out, B3.out⟩ : Box W _ _ _ _ _ ∧ Box W _ _ _ _ _ ∧ Box W _ _ _ _ _))
    go_wp2
    go_region_held3 (fun w' => (w'.cell? ⟨w.heap.size, 0, none⟩ = some (.int .i64 m2) ∧ w'.cell? ⟨w.heap.size, 1, none⟩ = some (.slice A Lt c) ∧ w.heap.size < w'.heap.size) ∧ (w'.cell? ⟨w.heap.size + 1, 0, none⟩ = some (.int .i64 m2) ∧ w'.cell? ⟨w.heap.size + 1, 1, none⟩ = some (.slice A1 n1 c1) ∧ w.heap.size + 1 < w'.heap.size) ∧ (w'.cell? ⟨w.heap.size + 1 + 1, 0, none⟩ = some (.int .i64 m2) ∧ w'.cell? ⟨w.heap.size + 1 + 1, 1, none⟩ = some (.slice A2 n2 c2) ∧ w.heap.size + 1 + 1 < w'.heap.size)) (first | exact X0.out | exact kb3_call hb4 (by assumption) | exact kb3_call hb3 (by assumption) | exact kb3_call hb2 (by assumption) | exact kb3_store (by omega) (by omega) (by omega) (by assumption)) (first
      | (go_at_call 66; with_reducible refine Calls.mono (HG.out _) ?_; rintro e w2 ⟨rfl, hb2⟩)
      | (go_at_call 67; with_reducible refine Calls.mono (HP.out _ (below_step (below_step hb1 (below_drew0 _)) hb2)) ?_; rintro e w3 ⟨s3, rfl, ho4, hb3⟩; obtain ⟨A4, c4, rfl, -⟩ := ho4.len)
      | (go_at_call 73; with_reducible refine Calls.mono (plane_any _ _ _ _ _ _) ?_; rintro e w4 ⟨rfl, hb4⟩; have hv := V4.out.keep (below_step (below_step (below_step (below_step hb1 (below_drew0 _)) hb2) hb3) hb4); obtain ⟨q0, q1, q2, q3⟩ := hv.tells2))
    all_goals
      have hw3 := below_step (below_step (below_step (below_step hb1 (below_drew0 _)) hb2) hb3) hb4
      have hz1 := (below_step (below_step hb1 (below_drew0 _)) hb2).size
      obtain ⟨f0, f1, f2, f3⟩ := fin_plane (w := w) hv (ho4.keep hb4) (.inl (by omega)) (by omega) hb4.size (below_step HB.out hw3) (.int .i64 m2) (.slice A4 R.length c4)
      have F2 := Lib.hid (f2.low (lo' := w.heap.size) (by omega))
      have F3 := Lib.hid f3
      clear f2 f3 hv hw3 ho4 hb2 hb3 hb4 hb1
      go_wp2
      exact bodyPost_ret (v := .tuple #[.agg #[.int .i64 m2, .slice A4 R.length c4], .int .i64 0]) (by simp [results, Try.results29, go_sem, f0, f1]) rfl ⟨_, rfl, F2.out, F3.out⟩
  · have HA : Hid (botP m t m1 l1 m2 l2 = (0, [], codePC2 m t m1 l1 m2 l2)) := Lib.hid (by unfold botP; rw [if_neg h0])
    rw [HA.out]
    obtain ⟨n1, n2⟩ := ne_facts h0
    obtain ⟨C, hC⟩ : ∃ C, codePC2 m t m1 l1 m2 l2 = C := ⟨_, rfl⟩
    rw [hC] at n1 n2 h0 hc ⊢
    have HC0 := Lib.hid hc
    clear b1 b2 b3 v4 b5 hwb hW hr hr1 hr2 hz hl1 hl2 hc hC
    go_enter Try.func29, Try.ntmps29
    go_wp2_with fail
    rw [HW.out]
    refine HC0.out.mono ?_
    rintro e w1 ⟨rfl, hb1⟩
    have hv := V4.out.keep (hb1)
    obtain ⟨q0, q1, q2, q3⟩ := hv.tells2
    obtain ⟨f0, f1, f2, f3⟩ := fin_plane (w := w) hv (OwnR.nil _ w.heap.size 0) (.inr (Nat.zero_le _)) (by omega) (Nat.zero_le _) (below_step HB.out (hb1)) (.int .i64 0) (.slice none 0 0)
    have F2 := Lib.hid f2
    have F3 := Lib.hid f3
    clear f2 f3 hv
    go_wp2
    exact bodyPost_ret (v := .tuple #[.agg #[.int .i64 0, .slice none 0 0], .int .i64 (C)]) (by simp [results, Try.results29, go_sem, f0, f1]) rfl ⟨_, rfl, F2.out, F3.out⟩
/-! the model -/
/-- three boxes and the list of both series -/
theorem proL (w : World) (m : Int) (A : Option Addr) (n c : Nat) (m1 : Int) (A1 : Option Addr) (n1 c1 : Nat) (m2 : Int) (A2 : Option Addr) (n2 c2 : Nat) :
    ∃ W, (((w.alloc (.cells #[.int .i64 m, .slice A n c] 33)).alloc (.cells #[.int .i64 m1, .slice A1 n1 c1] 30)).alloc (.cells #[.int .i64 m2, .slice A2 n2 c2] 30)).alloc (.cells #[.int .i64 m1, .slice A1 n1 c1, .int .i64 m2, .slice A2 n2 c2] 30) = W ∧
    Box W w.heap.size m A n c ∧ Box W (w.heap.size + 1) m1 A1 n1 c1 ∧ Box W (w.heap.size + 1 + 1) m2 A2 n2 c2 ∧ Box4 W (w.heap.size + 1 + 1 + 1) m1 A1 n1 c1 m2 A2 n2 c2 ∧ Below w.heap.size w W := by
  obtain ⟨W0, h0, h1, h2, h3, h4⟩ := startB3 33 30 30 w m A n c m1 A1 n1 c1 m2 A2 n2 c2
  have hs : W0.heap.size = w.heap.size + 1 + 1 + 1 := by rw [← h0]; simp
  rw [h0]
  refine ⟨_, rfl, h1.keep (below_one _ _), h2.keep (below_one _ _), h3.keep (below_one _ _), ?_, below_alloc _ h4⟩
  have hv := VarC.new 30 W0 #[.int .i64 m1, .slice A1 n1 c1, .int .i64 m2, .slice A2 n2 c2]
  rw [hs] at hv
  exact ⟨⟨hv.cell 0 _ rfl, hv.cell 1 _ rfl, hv.lt⟩, hv.cell 2 _ rfl, hv.cell 3 _ rfl⟩
theorem codePC2_if (m : Int) (t : List (List Int)) (m1 : Int) (l1 : List Int) (m2 : Int) (l2 : List Int) : codePC2 m t m1 l1 m2 l2 = if codeL (isP m t) m t.length [(m1, none, 0, l1), (m2, none, 0, l2)] = 0 then (if isC m1 l1 = true ∧ isC m2 l2 = true then 0 else 5) else codeL (isP m t) m t.length [(m1, none, 0, l1), (m2, none, 0, l2)] := by
  unfold codePC2 codeLC curS
  simp only [List.all_cons, List.all_nil, Bool.and_true, Bool.and_eq_true]
set_option maxHeartbeats 8000000 in
set_option maxRecDepth 100000 in
theorem l03Curves_any (m : Int) (A : Option Addr) (c : Nat) (t : List (List Int)) (m1 : Int) (A1 : Option Addr) (c1 : Nat) (l1 : List Int) (m2 : Int) (A2 : Option Addr) (c2 : Nat) (l2 : List Int) (w : World) (hz : szT t ≤ 1048576) (hl1 : l1.length ≤ 1048576) (hl2 : l2.length ≤ 1048576) (hr : RP w A t) (hr1 : RI w A1 l1) (hr2 : RI w A2 l2) :
    Calls Try.prog 60 #[.agg #[.int .i64 m, .slice A t.length c], .agg #[.int .i64 m1, .slice A1 l1.length c1], .agg #[.int .i64 m2, .slice A2 l2.length c2]] w fun e w' => e = .returned (.int .i64 (codePC2 m t m1 l1 m2 l2)) ∧ Below w.heap.size w w' := by
  obtain ⟨W, hW, b1, b2, b3, b5, hwb⟩ := proL w m A t.length c m1 A1 l1.length c1 m2 A2 l2.length c2
  have hc : Calls Try.prog 113 #[.agg #[.int .i64 m, .slice A t.length c], .slice (some ⟨w.heap.size + 1 + 1 + 1, 0, none⟩) 2 2] W fun e w' => e = .returned (.int .i64 (codeL (isP m t) m t.length [(m1, none, 0, l1), (m2, none, 0, l2)])) ∧ Below W.heap.size W w' :=
    l03FitsL_any (w.heap.size + 1 + 1 + 1) m A c t [(m1, A1, c1, l1), (m2, A2, c2, l2)] W hz (hr.below hwb) (SL.two b5 (hr1.below hwb) (hr2.below hwb) hl1 hl2) (by simp)
  rw [codePC2_if]
  have B2 := Lib.hid b2
  have B3 := Lib.hid b3
  have HB := Lib.hid hwb
  have HW := Lib.hid hW
  have HCA := Lib.hid (fun W0 (h : Below W.heap.size W W0) => l02Curve_any m1 A1 c1 l1 W0 (by omega) ((hr1.below hwb).below h))
  have HCB := Lib.hid (fun W0 (h : Below W.heap.size W W0) => l02Curve_any m2 A2 c2 l2 W0 (by omega) ((hr2.below hwb).below h))
  obtain ⟨K, hK⟩ : ∃ K, codeL (isP m t) m t.length [(m1, none, 0, l1), (m2, none, 0, l2)] = K := ⟨_, rfl⟩
  rw [hK] at hc ⊢
  have HC := Lib.hid hc
  obtain ⟨p, hp⟩ : ∃ p, isC m1 l1 = p := ⟨_, rfl⟩
  obtain ⟨q, hq⟩ : ∃ q, isC m2 l2 = q := ⟨_, rfl⟩
  rw [hp] at HCA ⊢
  rw [hq] at HCB ⊢
  clear b1 b2 b3 b5 hwb hW hr hr1 hr2 hz hl1 hl2 hc hK hp hq
  by_cases h0 : K = 0
  · subst h0
    rw [if_pos rfl]
    cases p with
    | false =>
      rw [if_neg (fun h => absurd h.1 (by decide))]
      go_enter Try.func60, Try.ntmps60
      go_wp2_with fail
      rw [HW.out]
      refine HC.out.mono ?_
      rintro e w1 ⟨rfl, hb1⟩
      obtain ⟨x1, x2, -⟩ := B2.out.keep hb1
      go_wp2_with fail
      refine (HCA.out _ hb1).mono ?_
      rintro e w2 ⟨rfl, hb2⟩
      have HB2 := Lib.hid (below_step hb1 hb2)
      clear hb1 hb2 x1 x2
      go_wp2
      go_ret
      exact ⟨rfl, below_step HB.out HB2.out⟩
    | true =>
      cases q with
      | false =>
        rw [if_neg (fun h => absurd h.2 (by decide))]
        go_enter Try.func60, Try.ntmps60
        go_wp2_with fail
        rw [HW.out]
        refine HC.out.mono ?_
        rintro e w1 ⟨rfl, hb1⟩
        obtain ⟨x1, x2, -⟩ := B2.out.keep hb1
        go_wp2_with fail
        refine (HCA.out _ hb1).mono ?_
        rintro e w2 ⟨rfl, hb2⟩
        have hb3 := below_step hb1 hb2
        obtain ⟨y1, y2, -⟩ := B3.out.keep hb3
        clear hb1 hb2 x1 x2
        go_wp2_with fail
        refine (HCB.out _ hb3).mono ?_
        rintro e w3 ⟨rfl, hb4⟩
        have HB2 := Lib.hid (below_step hb3 hb4)
        clear hb3 hb4 y1 y2
        go_wp2
        go_ret
        exact ⟨rfl, below_step HB.out HB2.out⟩
      | true =>
        rw [if_pos ⟨rfl, rfl⟩]
        go_enter Try.func60, Try.ntmps60
        go_wp2_with fail
        rw [HW.out]
        refine HC.out.mono ?_
        rintro e w1 ⟨rfl, hb1⟩
        obtain ⟨x1, x2, -⟩ := B2.out.keep hb1
        go_wp2_with fail
        refine (HCA.out _ hb1).mono ?_
        rintro e w2 ⟨rfl, hb2⟩
        have hb3 := below_step hb1 hb2
        obtain ⟨y1, y2, -⟩ := B3.out.keep hb3
        clear hb1 hb2 x1 x2
        go_wp2_with fail
        refine (HCB.out _ hb3).mono ?_
        rintro e w3 ⟨rfl, hb4⟩
        have HB2 := Lib.hid (below_step hb3 hb4)
        clear hb3 hb4 y1 y2
        go_wp2
        go_ret
        exact ⟨rfl, below_step HB.out HB2.out⟩
  · rw [if_neg h0]
    obtain ⟨n1, n2⟩ := ne_facts h0
    go_enter Try.func60, Try.ntmps60
    go_wp2_with fail
    rw [HW.out]
    refine HC.out.mono ?_
    rintro e w1 ⟨rfl, hb1⟩
    have HB2 := Lib.hid hb1
    clear hb1
    go_wp2
    go_ret
    exact ⟨rfl, below_step HB.out HB2.out⟩
set_option maxHeartbeats 16000000 in
set_option maxRecDepth 100000 in
theorem sSubstituteCurves_any (m : Int) (A : Option Addr) (c : Nat) (t : List (List Int)) (m1 : Int) (A1 : Option Addr) (c1 : Nat) (l1 : List Int) (m2 : Int) (A2 : Option Addr) (c2 : Nat) (l2 : List Int) (w : World) (hz : szT t ≤ 1048576) (hl1 : l1.length ≤ 1048576) (hl2 : l2.length ≤ 1048576) (hr : RP w A t) (hr1 : RI w A1 l1) (hr2 : RI w A2 l2) :
    Calls Try.prog 19 #[.agg #[.int .i64 m, .slice A t.length c], .agg #[.int .i64 m1, .slice A1 l1.length c1], .agg #[.int .i64 m2, .slice A2 l2.length c2]] w fun e w' => ∃ s, e = .returned (.tuple #[.agg #[.int .i64 (subP m t m1 l1 m2 l2).1, s], .int .i64 (subP m t m1 l1 m2 l2).2.2]) ∧ OwnI w' w.heap.size s (subP m t m1 l1 m2 l2).2.1 ∧ Below w.heap.size w w' := by
  obtain ⟨W, hW, b1, b2, b3, v4, hwb⟩ := sproS 30 w m A t.length c m1 A1 l1.length c1 m2 A2 l2.length c2
  have hc := l03Curves_any m A c t m1 A1 c1 l1 m2 A2 c2 l2 W hz hl1 hl2 (hr.below hwb) (hr1.below hwb) (hr2.below hwb)
  have B1 := Lib.hid b1
  have B2 := Lib.hid b2
  have B3 := Lib.hid b3
  have V4 := Lib.hid v4
  have HB := Lib.hid hwb
  have HW := Lib.hid hW
  have hsz4 : w.heap.size + 1 + 1 + 1 < W.heap.size := v4.lt
  by_cases h0 : codePC2 m t m1 l1 m2 l2 = 0
  · obtain ⟨rfl, rfl, d, e1, f1, f2, ok, s1, s2, z1, z2⟩ := codePC2_ok h0
    rw [h0] at hc
    have HC0 := Lib.hid hc
    have HA : Hid (subP m2 t m2 l1 m2 l2 = (m2, Pl.putL m2 d (Pl.pc t) l1 l2, 0)) := Lib.hid (by unfold subP; rw [if_pos h0, e1]; rfl)
    rw [HA.out]
    have HP := Lib.hid (fun W0 (h : Below W.heap.size W W0) => l03Put_any m2 d A c t A1 c1 l1 A2 c2 l2 W0 ok s1 s2 ((hr.below hwb).below h) ((hr1.below hwb).below h) ((hr2.below hwb).below h))
    obtain ⟨R, hR⟩ : ∃ R, Pl.putL m2 d (Pl.pc t) l1 l2 = R := ⟨_, rfl⟩
    rw [hR] at HP ⊢
    have hT := hR
    obtain ⟨Lt, hLt⟩ : ∃ L, t.length = L := ⟨_, rfl⟩
    obtain ⟨n1, hn1⟩ : ∃ L, l1.length = L := ⟨_, rfl⟩
    obtain ⟨n2, hn2⟩ : ∃ L, l2.length = L := ⟨_, rfl⟩
    rw [hLt] at HC0 HP HW B1 ⊢
    rw [hn1] at HC0 HP HW B2 ⊢
    rw [hn2] at HC0 HP HW B3 ⊢
    clear b1 b2 b3 v4 hwb hW hr hr1 hr2 hc h0 ok s1 s2 z1 z2 e1 f1 f2 hz hl1 hl2 hT hR hLt hn1 hn2
    go_enter Try.func19, Try.ntmps19
    go_wp2_with fail
    rw [HW.out]
    refine HC0.out.mono ?_
    rintro e w1 ⟨rfl, hb1⟩
    have hx0 := kb3_call hb1 (⟨B1.out, B2.out, B3.out⟩ : Box W _ _ _ _ _ ∧ Box W _ _ _ _ _ ∧ Box W _ _ _ _ _)
    obtain ⟨⟨x1, x2, -⟩, ⟨y1, y2, -⟩, ⟨y3, y4, -⟩⟩ := hx0
    have X0 := Lib.hid (kb3_call (hb1.trans ((below_drew0 w1).mono hb1.size)) (⟨B1.out, B2.out, B3.out⟩ : Box W _ _ _ _ _ ∧ Box W _ _ _ _ _ ∧ Box W _ _ _ _ _))
    go_wp2
    go_region_held3 (fun w' => (w'.cell? ⟨w.heap.size, 0, none⟩ = some (.int .i64 m2) ∧ w'.cell? ⟨w.heap.size, 1, none⟩ = some (.slice A Lt c) ∧ w.heap.size < w'.heap.size) ∧ (w'.cell? ⟨w.heap.size + 1, 0, none⟩ = some (.int .i64 m2) ∧ w'.cell? ⟨w.heap.size + 1, 1, none⟩ = some (.slice A1 n1 c1) ∧ w.heap.size + 1 < w'.heap.size) ∧ (w'.cell? ⟨w.heap.size + 1 + 1, 0, none⟩ = some (.int .i64 m2) ∧ w'.cell? ⟨w.heap.size + 1 + 1, 1, none⟩ = some (.slice A2 n2 c2) ∧ w.heap.size + 1 + 1 < w'.heap.size)) (first | exact X0.out | exact kb3_call hb4 (by assumption) | exact kb3_call hb3 (by assumption) | exact kb3_store (by omega) (by omega) (by omega) (by assumption)) (first
      | (go_at_call 62; with_reducible refine Calls.mono (HP.out _ (below_step hb1 (below_drew0 _))) ?_; rintro e w3 ⟨s3, rfl, ho4, hb3⟩; obtain ⟨A4, c4, rfl, -⟩ := ho4.form)
      | (go_at_call 61; with_reducible refine Calls.mono (l02Make_any _ _ _ _ _) ?_; rintro e w4 ⟨rfl, hb4⟩; have hv := V4.out.keep (below_step (below_step (below_step hb1 (below_drew0 _)) hb3) hb4); obtain ⟨q0, q1, q2, q3⟩ := hv.tells2))
    all_goals
      have hw3 := below_step (below_step (below_step hb1 (below_drew0 _)) hb3) hb4
      have hz1 := (below_step hb1 (below_drew0 _)).size
      obtain ⟨f0, f1, f2, f3⟩ := fin_serC (w := w) hv (ho4.keep hb4) (by omega) (by omega) (below_step HB.out hw3) (.int .i64 m2) (.slice A4 R.length c4)
      have F2 := Lib.hid (OwnI.more (b' := w.heap.size) f2 (by omega))
      have F3 := Lib.hid f3
      clear f2 f3 hv hw3 ho4 hb3 hb4 hb1
      go_wp2
      exact bodyPost_ret (v := .tuple #[.agg #[.int .i64 m2, .slice A4 R.length c4], .int .i64 0]) (by simp [results, Try.results19, go_sem, f0, f1]) rfl ⟨_, rfl, F2.out, F3.out⟩
  · have HA : Hid (subP m t m1 l1 m2 l2 = (0, [], codePC2 m t m1 l1 m2 l2)) := Lib.hid (by unfold subP; rw [if_neg h0])
    rw [HA.out]
    obtain ⟨n1, n2⟩ := ne_facts h0
    obtain ⟨C, hC⟩ : ∃ C, codePC2 m t m1 l1 m2 l2 = C := ⟨_, rfl⟩
    rw [hC] at n1 n2 h0 hc ⊢
    have HC0 := Lib.hid hc
    clear b1 b2 b3 v4 hwb hW hr hr1 hr2 hz hl1 hl2 hc hC
    go_enter Try.func19, Try.ntmps19
    go_wp2_with fail
    rw [HW.out]
    refine HC0.out.mono ?_
    rintro e w1 ⟨rfl, hb1⟩
    have hv := V4.out.keep (hb1)
    obtain ⟨q0, q1, q2, q3⟩ := hv.tells2
    obtain ⟨f0, f1, f2, f3⟩ := fin_serC (w := w) hv (OwnI.nil _ (w.heap.size + 1 + 1 + 1 + 1)) (by omega) (by omega) (below_step HB.out (hb1)) (.int .i64 0) (.slice none 0 0)
    have F2 := Lib.hid (OwnI.more (b' := w.heap.size) f2 (by omega))
    have F3 := Lib.hid f3
    clear f2 f3 hv
    go_wp2
    exact bodyPost_ret (v := .tuple #[.agg #[.int .i64 0, .slice none 0 0], .int .i64 (C)]) (by simp [results, Try.results19, go_sem, f0, f1]) rfl ⟨_, rfl, F2.out, F3.out⟩
set_option maxHeartbeats 16000000 in
set_option maxRecDepth 100000 in
theorem sSubstituteBoth_any (m : Int) (A : Option Addr) (c : Nat) (t : List (List Int)) (m1 : Int) (A1 : Option Addr) (c1 : Nat) (l1 : List Int) (m2 : Int) (A2 : Option Addr) (c2 : Nat) (l2 : List Int) (w : World) (hz : szT t ≤ 1048576) (hl1 : l1.length ≤ 1048576) (hl2 : l2.length ≤ 1048576) (hr : RP w A t) (hr1 : RI w A1 l1) (hr2 : RI w A2 l2) :
    Calls Try.prog 28 #[.agg #[.int .i64 m, .slice A t.length c], .agg #[.int .i64 m1, .slice A1 l1.length c1], .agg #[.int .i64 m2, .slice A2 l2.length c2]] w fun e w' => ∃ s, e = .returned (.tuple #[.agg #[.int .i64 (botP m t m1 l1 m2 l2).1, s], .int .i64 (botP m t m1 l1 m2 l2).2.2]) ∧ OwnR w' w.heap.size w'.heap.size s (botP m t m1 l1 m2 l2).2.1 ∧ Below w.heap.size w w' := by
  obtain ⟨W, hW, b1, b2, b3, v4, hwb⟩ := sproS 33 w m A t.length c m1 A1 l1.length c1 m2 A2 l2.length c2
  have hc := l03Curves_any m A c t m1 A1 c1 l1 m2 A2 c2 l2 W hz hl1 hl2 (hr.below hwb) (hr1.below hwb) (hr2.below hwb)
  have B1 := Lib.hid b1
  have B2 := Lib.hid b2
  have B3 := Lib.hid b3
  have V4 := Lib.hid v4
  have HB := Lib.hid hwb
  have HW := Lib.hid hW
  have hsz4 : w.heap.size + 1 + 1 + 1 < W.heap.size := v4.lt
  by_cases h0 : codePC2 m t m1 l1 m2 l2 = 0
  · obtain ⟨rfl, rfl, d, e1, f1, f2, ok, s1, s2, z1, z2⟩ := codePC2_ok h0
    rw [h0] at hc
    have HC0 := Lib.hid hc
    have HA : Hid (botP m2 t m2 l1 m2 l2 = (m2, Pl.botT m2 d (Pl.pc t) l1 l2, 0)) := Lib.hid (by unfold botP; rw [if_pos h0, e1]; rfl)
    rw [HA.out]
    have HP := Lib.hid (fun W0 (h : Below W.heap.size W W0) => l03Both_any m2 d A c t A1 c1 l1 A2 c2 l2 W0 ok s1 s2 z1 z2 ((hr.below hwb).below h) ((hr1.below hwb).below h) ((hr2.below hwb).below h))
    obtain ⟨R, hR⟩ : ∃ R, Pl.botT m2 d (Pl.pc t) l1 l2 = R := ⟨_, rfl⟩
    rw [hR] at HP ⊢
    have hT := hR
    obtain ⟨Lt, hLt⟩ : ∃ L, t.length = L := ⟨_, rfl⟩
    obtain ⟨n1, hn1⟩ : ∃ L, l1.length = L := ⟨_, rfl⟩
    obtain ⟨n2, hn2⟩ : ∃ L, l2.length = L := ⟨_, rfl⟩
    rw [hLt] at HC0 HP HW B1 ⊢
    rw [hn1] at HC0 HP HW B2 ⊢
    rw [hn2] at HC0 HP HW B3 ⊢
    clear b1 b2 b3 v4 hwb hW hr hr1 hr2 hc h0 ok s1 s2 z1 z2 e1 f1 f2 hz hl1 hl2 hT hR hLt hn1 hn2
    go_enter Try.func28, Try.ntmps28
    go_wp2_with fail
    rw [HW.out]
    refine HC0.out.mono ?_
    rintro e w1 ⟨rfl, hb1⟩
    have hx0 := kb3_call hb1 (⟨B1.out, B2.out, B3.out⟩ : Box W _ _ _ _ _ ∧ Box W _ _ _ _ _ ∧ Box W _ _ _ _ _)
    obtain ⟨⟨x1, x2, -⟩, ⟨y1, y2, -⟩, ⟨y3, y4, -⟩⟩ := hx0
    have X0 := Lib.hid (kb3_call (hb1.trans ((below_drew0 w1).mono hb1.size)) (⟨B1.out, B2.out, B3.out⟩ : Box W _ _ _ _ _ ∧ Box W _ _ _ _ _ ∧ Box W _ _ _ _ _))
    go_wp2
    go_region_held3 (fun w' => (w'.cell? ⟨w.heap.size, 0, none⟩ = some (.int .i64 m2) ∧ w'.cell? ⟨w.heap.size, 1, none⟩ = some (.slice A Lt c) ∧ w.heap.size < w'.heap.size) ∧ (w'.cell? ⟨w.heap.size + 1, 0, none⟩ = some (.int .i64 m2) ∧ w'.cell? ⟨w.heap.size + 1, 1, none⟩ = some (.slice A1 n1 c1) ∧ w.heap.size + 1 < w'.heap.size) ∧ (w'.cell? ⟨w.heap.size + 1 + 1, 0, none⟩ = some (.int .i64 m2) ∧ w'.cell? ⟨w.heap.size + 1 + 1, 1, none⟩ = some (.slice A2 n2 c2) ∧ w.heap.size + 1 + 1 < w'.heap.size)) (first | exact X0.out | exact kb3_call hb4 (by assumption) | exact kb3_call hb3 (by assumption) | exact kb3_store (by omega) (by omega) (by omega) (by assumption)) (first
      | (go_at_call 72; with_reducible refine Calls.mono (HP.out _ (below_step hb1 (below_drew0 _))) ?_; rintro e w3 ⟨s3, rfl, ho4, hb3⟩; obtain ⟨A4, c4, rfl, -⟩ := ho4.len)
      | (go_at_call 71; with_reducible refine Calls.mono (l03Make_any _ _ _ _ _) ?_; rintro e w4 ⟨rfl, hb4⟩; have hv := V4.out.keep (below_step (below_step (below_step hb1 (below_drew0 _)) hb3) hb4); obtain ⟨q0, q1, q2, q3⟩ := hv.tells2))
    all_goals
      have hw3 := below_step (below_step (below_step hb1 (below_drew0 _)) hb3) hb4
      have hz1 := (below_step hb1 (below_drew0 _)).size
      obtain ⟨f0, f1, f2, f3⟩ := fin_plane (w := w) hv (ho4.keep hb4) (.inl (by omega)) (by omega) hb4.size (below_step HB.out hw3) (.int .i64 m2) (.slice A4 R.length c4)
      have F2 := Lib.hid (f2.low (lo' := w.heap.size) (by omega))
      have F3 := Lib.hid f3
      clear f2 f3 hv hw3 ho4 hb3 hb4 hb1
      go_wp2
      exact bodyPost_ret (v := .tuple #[.agg #[.int .i64 m2, .slice A4 R.length c4], .int .i64 0]) (by simp [results, Try.results28, go_sem, f0, f1]) rfl ⟨_, rfl, F2.out, F3.out⟩
  · have HA : Hid (botP m t m1 l1 m2 l2 = (0, [], codePC2 m t m1 l1 m2 l2)) := Lib.hid (by unfold botP; rw [if_neg h0])
    rw [HA.out]
    obtain ⟨n1, n2⟩ := ne_facts h0
    obtain ⟨C, hC⟩ : ∃ C, codePC2 m t m1 l1 m2 l2 = C := ⟨_, rfl⟩
    rw [hC] at n1 n2 h0 hc ⊢
    have HC0 := Lib.hid hc
    clear b1 b2 b3 v4 hwb hW hr hr1 hr2 hz hl1 hl2 hc hC
    go_enter Try.func28, Try.ntmps28
    go_wp2_with fail
    rw [HW.out]
    refine HC0.out.mono ?_
    rintro e w1 ⟨rfl, hb1⟩
    have hv := V4.out.keep (hb1)
    obtain ⟨q0, q1, q2, q3⟩ := hv.tells2
    obtain ⟨f0, f1, f2, f3⟩ := fin_plane (w := w) hv (OwnR.nil _ w.heap.size 0) (.inr (Nat.zero_le _)) (by omega) (Nat.zero_le _) (below_step HB.out (hb1)) (.int .i64 0) (.slice none 0 0)
    have F2 := Lib.hid f2
    have F3 := Lib.hid f3
    clear f2 f3 hv
    go_wp2
    exact bodyPost_ret (v := .tuple #[.agg #[.int .i64 0, .slice none 0 0], .int .i64 (C)]) (by simp [results, Try.results28, go_sem, f0, f1]) rfl ⟨_, rfl, F2.out, F3.out⟩
end Go.Proofs.Yteicllnbphljnaa

/- A plane among a law's arguments: what its reading tells. -/
namespace Go.Proofs.Yteicllnbphljnaa
open Go.RowKit Go.WideShapes Go.ChangeShapes Go.ChangeAt

theorem cells_pla : Try.prog.cellsOf 24 = 2 := by kernel_rfl
theorem cells_i64ss : Try.prog.cellsOf 22 = 1 := by kernel_rfl
set_option maxRecDepth 100000 in
theorem open_pla {H : Type} {enc : TypeId × Value → H} {W : World} {base : Nat} {v : Value} {d : DataW H} {p : List MemPlace}
    (hv : Value.okWide Try.prog W .any base 24 v) (h : DataW.Trod enc Try.prog W 0 (fun _ => true) true 24 v d p) :
    ∃ (m : Int) (A : Option Addr) (c : Nat) (t : List (List Int)), v = .agg #[.int .i64 m, .slice A t.length c] ∧ (t.length ≤ 9223372036854775807 ∧ ∀ k, (Pl.rw' t k).length ≤ 9223372036854775807) ∧ RQ W A t := by
  obtain ⟨cs, rfl, hsz⟩ := okWide_struct Try.underlying24 hv
  rw [cells_pla] at hsz
  obtain ⟨l⟩ := cs
  match l, hsz with
  | [c0, c1], _ =>
    obtain ⟨fuel, hf⟩ := h
    obtain ⟨y0, y1, m, hx, _, hy0, hy1⟩ := trod_struct2 Try.underlying24 hf
    obtain ⟨a, e0, -, -⟩ := DataW.trod_int Try.underlying2 hy0
    simp [Value.cells, cells_i64] at e0
    subst e0
    rcases Go.Deep.open_int_rows Try.underlying22 Try.underlying25 Try.underlying2 (by kernel_rfl) (by kernel_rfl) hy1 with ⟨hcs, -⟩ | ⟨ad, n, cap, A, L, C, Z, hcs, -, hl, hm, -, hr⟩
    · simp [Value.cells, cells_i64ss] at hcs
      subst hcs
      exact ⟨a, none, 0, [], rfl, ⟨Nat.zero_le _, fun k => Nat.zero_le _⟩, fun h => absurd rfl h⟩
    · simp [Value.cells, cells_i64ss] at hcs
      subst hcs
      have key : ∀ r, r < n → Pl.rw' ((List.range n).map fun r => (Z r).take (L r)) r = (Z r).take (L r) := by
        intro r h
        unfold Pl.rw'
        rw [List.getElem?_map, List.getElem?_range h]; rfl
      have klen : ∀ r, r < n → ((Z r).take (L r)).length = L r := by
        intro r h
        obtain ⟨_, h2, _, h4, _⟩ := hr r (by omega)
        rw [List.length_take]; omega
      have hlen : ((List.range n).map fun r => (Z r).take (L r)).length = n := by simp
      refine ⟨a, some ad, cap, (List.range n).map fun r => (Z r).take (L r), by rw [hlen], ⟨by rw [hlen]; unfold maxLen at hm; omega, fun k => ?_⟩, fun hne => ?_⟩
      · by_cases hk : k < n
        · rw [key k hk, klen k hk]
          obtain ⟨_, h2, h3, _⟩ := hr k (by omega)
          unfold maxLen at h3; omega
        · rw [Pl.rw_over (by rw [hlen]; omega)]; exact Nat.zero_le _
      · have hn : 0 < n := by
          rcases Nat.eq_zero_or_pos n with e | e
          · subst e; exact absurd rfl hne
          · exact e
        refine ⟨ad, rfl, ?_, fun k hk => ?_⟩
        · have := World.block_lt_of_cell? W _ (hr 0 (by omega)).1
          rwa [add_block] at this
        · rw [hlen] at hk
          obtain ⟨h1, h2, h3, h4, _, _, h7⟩ := hr k (by omega)
          refine ⟨A k, C k, by rw [key k hk, klen k hk]; exact h1, ?_⟩
          rw [key k hk]
          intro hne2
          have hL : 0 < L k := by
            rcases Nat.eq_zero_or_pos (L k) with e | e
            · rw [e] at hne2; exact absurd rfl hne2
            · exact e
          rcases hA : A k with _ | a'
          · obtain ⟨_, _, _, _, _, h6, _⟩ := hr k (by omega)
            have := h6 hA
            omega
          · obtain ⟨_, h8⟩ := h7 a' hA
            refine ⟨a', rfl, ?_, fun j hj => ?_⟩
            · have := World.block_lt_of_cell? W _ (h8 0 (by omega))
              rwa [add_block] at this
            · rw [klen k hk] at hj
              rw [h8 j (by omega), List.getElem?_take, if_pos hj]
              simp [List.getD_eq_getElem?_getD]
end Go.Proofs.Yteicllnbphljnaa

/- Contracts of comparing: two lists of integers, two grids. -/
namespace Go.Proofs.Yteicllnbphljnaa
open Go.RowKit Go.WideShapes Go.ChangeShapes Go.ChangeAt

theorem list_ne {l l' : List Int} (j : Nat) (h : ¬ Ser.co l j = Ser.co l' j) : decide (l = l') = false := decide_eq_false (fun e => h (by rw [e]))
theorem list_same {l l' : List Int} (hl : l.length = l'.length) (h : ∀ j, j < l.length → Ser.co l j = Ser.co l' j) : decide (l = l') = true :=
  decide_eq_true (Ser.list_ext hl (fun i hi => h i hi))
theorem rows_same {m : Int} {d : Nat} {t u : List (List Int)} (hs : Pl.Ok m d t) (hs' : Pl.Ok m d u) (h : ∀ k, k ≤ d → Pl.rw' t k = Pl.rw' u k) : decide (t = u) = true := by
  refine decide_eq_true (List.ext_getElem (by rw [hs.len, hs'.len]) (fun i h1 h2 => ?_))
  have := h i (by have := hs.len; omega)
  unfold Pl.rw' at this
  rw [List.getElem?_eq_getElem h1, List.getElem?_eq_getElem h2] at this
  exact this
theorem rows_ne {t u : List (List Int)} (k : Nat) (h : ¬ Pl.rw' t k = Pl.rw' u k) : decide (t = u) = false := decide_eq_false (fun e => h (by rw [e]))
theorem GBox.num' {W : World} {g : Nat} {m : Int} {d b off c L : Nat} {t : List (List Int)} (hb : GBox W g m d (some ⟨b, off, none⟩) L c) (hL : t.length = L) (hs : Pl.Ok m d t) (hr : RP W (some ⟨b, off, none⟩) t) (i j : Nat) (hij : i + j ≤ d) :
    ∃ b' off' c' N, N = d - i + 1 ∧ W.cell? ⟨g, 2, none⟩ = some (.slice (some ⟨b, off, none⟩) L c) ∧ W.cell? ⟨b, off + i, none⟩ = some (.slice (some ⟨b', off', none⟩) N c') ∧ W.cell? ⟨b', off' + j, none⟩ = some (.int .i64 (Pl.pc t i j)) := by
  subst hL
  obtain ⟨_, _, x2, _⟩ := hb
  obtain ⟨b0, off0, b', off', c', e, -, k1, -, k2⟩ := hr.num i j (by rw [hs.len]; omega) (by rw [hs.row i (by omega)]; omega)
  injection e with e
  injection e with e1 e2
  subst e1 e2
  exact ⟨b', off', c', _, hs.row i (by omega), x2, k1, k2⟩
set_option maxHeartbeats 2000000 in
theorem eqS_any (A : Option Addr) (c : Nat) (l : List Int) (B : Option Addr) (d : Nat) (l' : List Int) (w : World) (hl : l.length ≤ 1000000) (ha : RI w A l) (hb : RI w B l') :
    Calls Try.prog 146 #[.slice A l.length c, .slice B l'.length d] w fun e w' => e = .returned (.bool (decide (l = l'))) ∧ Below w.heap.size w w' := by
  have HA := Lib.hid ha
  have HB := Lib.hid hb
  by_cases he : l.length = l'.length
  · have HNE := Lib.hid (fun j (h : ¬ Ser.co l j = Ser.co l' j) => list_ne j h)
    have HEQ := Lib.hid (list_same he)
    obtain ⟨R, hR⟩ : ∃ R, decide (l = l') = R := ⟨_, rfl⟩
    rw [hR] at HNE HEQ ⊢
    obtain ⟨n, hn⟩ : ∃ n, l.length = n := ⟨_, rfl⟩
    have HN := Lib.hid hn
    have HN' := Lib.hid (he.symm.trans hn)
    rw [← he]
    rw [hn] at hl HEQ ⊢
    clear he hR hn ha hb
    go_enter Try.func146, Try.ntmps146
    go_wp2
    go_loopw [5, 13] (fun _ q wr => ∃ k : Nat, k ≤ n ∧ q = .int .i64 k ∧ (∀ j, j < k → Ser.co l j = Ser.co l' j) ∧ Below w.heap.size w wr) (fun _ q _ => n - (intOf q).toNat)
    case atStart => exact ⟨0, Nat.zero_le _, rfl, fun j h => absurd h (Nat.not_lt_zero _), Below.refl _ _⟩
    case round =>
      obtain ⟨k, hk, rfl, hall, hbel⟩ := hrel
      have HBE := Lib.hid hbel
      have HAL := Lib.hid hall
      clear hall
      by_cases hlt : k < n
      · obtain ⟨b, off, rfl, hb1, hc1⟩ := HA.out.at k (by rw [HN.out]; omega)
        obtain ⟨b', off', rfl, hb2, hc2⟩ := HB.out.at k (by rw [HN'.out]; omega)
        have h1 := (hbel.cell (p := ⟨b, off + k, none⟩) hb1).trans hc1
        have h2 := (hbel.cell (p := ⟨b', off' + k, none⟩) hb2).trans hc2
        have hne := HNE.out k
        obtain ⟨x, hx⟩ : ∃ x, Ser.co l k = x := ⟨_, rfl⟩
        obtain ⟨y, hy⟩ : ∃ y, Ser.co l' k = y := ⟨_, rfl⟩
        rw [hx] at h1 hne
        rw [hy] at h2 hne
        have j1 : (0 : Int) ≤ (k : Int) := by omega
        have j2 : (k : Int) < (n : Int) := by omega
        clear hbel hc1 hc2
        by_cases hxy : x = y
        · subst hxy
          have HX := Lib.hid (hx.trans hy.symm)
          clear hx hy hne
          go_wp2
          go_quiet (fail)
          go_wp2
          go_roundw
          case rel => exact ⟨k + 1, by omega, by go_num, fun q hq => (Nat.lt_succ_iff_lt_or_eq.1 hq).elim (HAL.out q) (fun h => h ▸ HX.out), below_drewN HBE.out _⟩
          case measure => simp only [intOf]; omega
        · have HRF := Lib.hid (hne hxy)
          obtain ⟨n1, n2⟩ : (x == y) = false ∧ (x != y) = true := ⟨by simpa using hxy, by simpa using hxy⟩
          clear hx hy hne
          go_wp2
          go_quiet (fail)
          go_wp2
          go_ret
          exact ⟨ret_bool HRF.out.symm, below_drewN HBE.out _⟩
      · obtain rfl : k = n := by omega
        have HR := Lib.hid (HEQ.out HAL.out)
        clear hbel
        go_wp2
        go_ret
        exact ⟨ret_bool HR.out.symm, HBE.out⟩
  · have HR : Hid (decide (l = l') = false) := Lib.hid (decide_eq_false (fun e => he (by rw [e])))
    have hi : ¬ (l.length : Int) = (l'.length : Int) := by omega
    obtain ⟨n1, n2⟩ : ((l.length : Int) == (l'.length : Int)) = false ∧ ((l.length : Int) != (l'.length : Int)) = true := ⟨by simpa using hi, by simpa using hi⟩
    obtain ⟨R, hR⟩ : ∃ R, decide (l = l') = R := ⟨_, rfl⟩
    rw [hR] at HR ⊢
    clear hR ha hb he
    go_enter Try.func146, Try.ntmps146
    go_wp2
    go_ret
    exact ⟨ret_bool HR.out.symm, Below.refl _ _⟩
set_option maxHeartbeats 4000000 in
set_option maxRecDepth 100000 in
theorem isSame_any (m : Int) (d : Nat) (A : Option Addr) (c : Nat) (t : List (List Int)) (A' : Option Addr) (c' : Nat) (u : List (List Int)) (w : World) (hs : Pl.Ok m d t) (hs' : Pl.Ok m d u) (hr : RP w A t) (hr' : RP w A' u) :
    Calls Try.prog 134 #[.agg #[.int .i64 m, .int .i64 d, .slice A t.length c], .agg #[.int .i64 m, .int .i64 d, .slice A' u.length c']] w fun e w' => e = .returned (.bool (decide (t = u))) ∧ Below w.heap.size w w' := by
  obtain ⟨W, hW, b1, b2, -, hwb⟩ := (⟨_, rfl, (GBox.new 74 w m d A t.length c).keep (below_one _ _), by have := GBox.new 74 (w.alloc (.cells #[.int .i64 m, .int .i64 d, .slice A t.length c] 74)) m d A' u.length c'; simpa using this, trivial, below_alloc _ (below_one _ _)⟩ :
    ∃ W, (w.alloc (.cells #[.int .i64 m, .int .i64 d, .slice A t.length c] 74)).alloc (.cells #[.int .i64 m, .int .i64 d, .slice A' u.length c'] 74) = W ∧ GBox W w.heap.size m d A t.length c ∧ GBox W (w.heap.size + 1) m d A' u.length c' ∧ True ∧ Below w.heap.size w W)
  obtain ⟨b, off, rfl, hbb, hrow⟩ := hr (by intro e; have := hs.len; rw [e] at this; simp at this)
  obtain ⟨b', off', rfl, hbb', hrow'⟩ := hr' (by intro e; have := hs'.len; rw [e] at this; simp at this)
  have HROW := Lib.hid hrow
  have HROW' := Lib.hid hrow'
  have HE := Lib.hid (fun (k : Nat) (Ak : Option Addr) (ck : Nat) (Bk : Option Addr) (dk : Nat) (W0 : World) (hk : k ≤ d) (h : RI W0 Ak (Pl.rw' t k)) (h' : RI W0 Bk (Pl.rw' u k)) =>
    eqS_any Ak ck (Pl.rw' t k) Bk dk (Pl.rw' u k) W0 (by rw [hs.row k hk]; have := hs.d2; omega) h h')
  have HRL := Lib.hid (fun k (hk : k ≤ d) => hs.row k hk)
  have HRL' := Lib.hid (fun k (hk : k ≤ d) => hs'.row k hk)
  have HY := Lib.hid (rows_same hs hs')
  have HN := Lib.hid (fun k h => rows_ne (t := t) (u := u) k h)
  obtain ⟨R, hR⟩ : ∃ R, decide (t = u) = R := ⟨_, rfl⟩
  rw [hR] at HY HN ⊢
  have B1 := Lib.hid b1
  have B2 := Lib.hid b2
  have HB := Lib.hid hwb
  have HW := Lib.hid hW
  have hd2 := hs.d2
  have hl := hs.len
  have hl' := hs'.len
  obtain ⟨L, hL⟩ : ∃ L, t.length = L := ⟨_, rfl⟩
  rw [hL] at HW B1 hl HROW ⊢
  obtain ⟨L', hL'⟩ : ∃ L, u.length = L := ⟨_, rfl⟩
  rw [hL'] at HW B2 hl' HROW' ⊢
  obtain rfl : L' = L := by omega
  have HLd := Lib.hid hl
  have hLb : L' ≤ 11 := by omega
  obtain ⟨x1, x2, x3, x4⟩ := b1
  rw [hL] at x3
  clear b2 hwb hW hr hr' hs hs' hL hL' hrow hrow' hl hl' hR
  go_enter Try.func134, Try.ntmps134
  go_wp2
  rw [HW.out]
  go_wp2
  clear x1 x2 x3 x4
  go_loopw [5, 6, 10] (fun _ _ i wr => ∃ k : Nat, k ≤ L' ∧ i = .int .i64 k ∧ (∀ j, j < k → Pl.rw' t j = Pl.rw' u j) ∧ Below W.heap.size W wr) (fun _ _ i _ => L' - (intOf i).toNat)
  case atStart => exact ⟨0, Nat.zero_le _, rfl, fun j h => absurd h (Nat.not_lt_zero _), Below.refl _ _⟩
  case round =>
    obtain ⟨k, hk, rfl, hall, hbel⟩ := hrel
    have HA := Lib.hid hall
    have HBW := Lib.hid hbel
    clear hall
    by_cases hlt : k < L'
    · obtain ⟨Ak, ck, h1, h2, h3⟩ := HROW.out k hlt
      obtain ⟨Bk, dk, h4, h5, h6⟩ := HROW'.out k hlt
      have h1 := ((below_step HB.out HBW.out).cell (p := ⟨b, off + k, none⟩) hbb).trans h1
      have h4 := ((below_step HB.out HBW.out).cell (p := ⟨b', off' + k, none⟩) hbb').trans h4
      have HEK := Lib.hid (HE.out k Ak ck Bk dk wr (by have := HLd.out; omega) (h3.below (below_step HB.out HBW.out)) (h6.below (below_step HB.out HBW.out)))
      obtain ⟨y1, y2, y3, -⟩ := B2.out.keep hbel
      obtain ⟨n, hn⟩ : ∃ n, (Pl.rw' t k).length = n := ⟨_, rfl⟩
      obtain ⟨n', hn'⟩ : ∃ n, (Pl.rw' u k).length = n := ⟨_, rfl⟩
      rw [hn] at h1 h2 HEK
      rw [hn'] at h4 h5 HEK
      have j0 : (0 : Int) ≤ (k : Int) := by omega
      have j1 : (k : Int) < (L' : Int) := by omega
      clear h2 h3 h5 h6 hn hn' hbel
      by_cases hq : Pl.rw' t k = Pl.rw' u k
      · have HQ := Lib.hid hq
        rw [decide_eq_true hq] at HEK
        clear hq
        go_wp2_with fail
        refine HEK.out.mono ?_
        rintro e w1 ⟨rfl, hb1⟩
        have HB1 := Lib.hid (below_step HBW.out hb1)
        clear hb1 y1 y2 y3 h1 h4
        go_wp2
        go_roundw
        case rel => exact ⟨k + 1, by omega, by go_num, fun q hq => (Nat.lt_succ_iff_lt_or_eq.1 hq).elim (HA.out q) (fun h => h ▸ HQ.out), HB1.out⟩
        case measure => simp only [intOf]; omega
      · have HQ := Lib.hid (HN.out k hq)
        rw [decide_eq_false hq] at HEK
        clear hq
        go_wp2_with fail
        refine HEK.out.mono ?_
        rintro e w1 ⟨rfl, hb1⟩
        have HB1 := Lib.hid (below_step HBW.out hb1)
        clear hb1 y1 y2 y3 h1 h4
        go_wp2
        go_ret
        exact ⟨ret_bool HQ.out.symm, below_step HB.out HB1.out⟩
    · obtain rfl : k = L' := by omega
      have HR := Lib.hid (HY.out (fun j hj => HA.out j (by have := HLd.out; omega)))
      clear hbel
      go_wp2
      go_ret
      exact ⟨ret_bool HR.out.symm, below_step HB.out HBW.out⟩
end Go.Proofs.Yteicllnbphljnaa

/- Contracts of IsSymmetricPlane, of the program and of the model. -/
namespace Go.Proofs.Yteicllnbphljnaa
open Go.RowKit Go.WideShapes Go.ChangeShapes Go.ChangeAt

/-- a table is the same with both variables exchanged -/
def symB (m : Int) (d : Nat) (t : List (List Int)) : Bool := decide (t = Pl.tab m d fun i j => Pl.pc t j i)
theorem symB_yes {m : Int} {d : Nat} {t : List (List Int)} (hs : Pl.Ok m d t) (h : ∀ i j, i + j ≤ d → Pl.pc t i j = Pl.pc t j i) : symB m d t = true := by
  unfold symB
  refine decide_eq_true ?_
  have h2 := hs.self
  rw [Pl.tab_congr (Pl.Eq.of m d h)] at h2
  exact h2
theorem symB_no {m : Int} {d : Nat} {t : List (List Int)} (hs : Pl.Ok m d t) (i j : Nat) (hij : i + j ≤ d) (h : ¬ Pl.pc t i j = Pl.pc t j i) : symB m d t = false := by
  unfold symB
  refine decide_eq_false (fun he => h ?_)
  have h2 : Pl.pc t i j = Pl.pc (Pl.tab m d fun i j => Pl.pc t j i) i j := congrArg (fun u => Pl.pc u i j) he
  rw [Pl.pc_tab hij, Int.emod_eq_of_lt (hs.pc j i).1 (hs.pc j i).2] at h2
  exact h2
def symP (m : Int) (t : List (List Int)) : Bool × Int := if codeP1 m t = 0 then (symB m (t.length - 1) t, 0) else (false, codeP1 m t)
set_option maxHeartbeats 4000000 in
set_option maxRecDepth 100000 in
theorem isSymmetric_any (m : Int) (d : Nat) (A : Option Addr) (c : Nat) (t : List (List Int)) (w : World) (hs : Pl.Ok m d t) (hr : RP w A t) :
    Calls Try.prog 89 #[.agg #[.int .i64 m, .int .i64 d, .slice A t.length c]] w fun e w' => e = .returned (.bool (symB m d t)) ∧ Below w.heap.size w w' := by
  have HG1 := Lib.hid (GBox.new 74 w m d A t.length c)
  have HWB := Lib.hid (below_one w (.cells #[.int .i64 m, .int .i64 d, .slice A t.length c] 74))
  obtain ⟨W, hW⟩ : ∃ W, w.alloc (.cells #[.int .i64 m, .int .i64 d, .slice A t.length c] 74) = W := ⟨_, rfl⟩
  rw [hW] at HG1 HWB
  have HW := Lib.hid hW
  have HT := Lib.hid (fun W0 (h : Below W.heap.size W W0) => turned_any m d A c t W0 hs ((hr.below HWB.out).below h))
  have HE := Lib.hid (fun W0 A0 c0 (h : Below W.heap.size W W0) (h' : RP W0 A0 (Pl.tab m d fun i j => Pl.pc t j i)) => isSame_any m d A c t A0 c0 (Pl.tab m d fun i j => Pl.pc t j i) W0 hs (hs.tab _) ((hr.below HWB.out).below h) h')
  obtain ⟨R, hR⟩ : ∃ R, symB m d t = R := ⟨_, rfl⟩
  rw [show decide (t = Pl.tab m d fun i j => Pl.pc t j i) = R from hR] at HE
  rw [hR]
  obtain ⟨T, hT⟩ : ∃ T, (Pl.tab m d fun i j => Pl.pc t j i) = T := ⟨_, rfl⟩
  rw [hT] at HT HE
  obtain ⟨L, hL⟩ : ∃ L, t.length = L := ⟨_, rfl⟩
  rw [hL] at HG1 HW HT HE ⊢
  have X0 := Lib.hid (HG1.out.keep (below_drew0 W))
  clear hR hs hr hL hW hT
  go_enter Try.func89, Try.ntmps89
  go_wp2
  rw [HW.out]
  go_region_held3 (fun w' => w'.cell? ⟨w.heap.size, 0, none⟩ = some (.int .i64 m) ∧ w'.cell? ⟨w.heap.size, 1, none⟩ = some (.int .i64 d) ∧ w'.cell? ⟨w.heap.size, 2, none⟩ = some (.slice A L c) ∧ w.heap.size < w'.heap.size) (first | exact X0.out | exact GBox.keep (by assumption) hbb | exact GBox.keep (by assumption) hba) (first
    | (go_at_call 122; with_reducible refine Calls.mono (HT.out _ (below_drew0 W)) ?_; rintro e wa ⟨sa, rfl, oa, hba⟩; obtain ⟨Aa, ca, rfl, -⟩ := oa.len)
    | (go_at_call 134; with_reducible refine Calls.mono (HE.out _ _ _ (below_step (below_drew0 W) hba) oa.rp) ?_; rintro e wb ⟨rfl, hbb⟩))
  all_goals
    have HB := Lib.hid (below_step HWB.out (below_step (below_step (below_drew0 W) hba) hbb))
    clear oa hba hbb
    go_wp2
    go_ret
    exact ⟨rfl, HB.out⟩
set_option maxHeartbeats 1000000 in
theorem l01Same_q (A B : Option Addr) (c d : Nat) (l r : List Int) (w : World) (hl : l.length ≤ 10485760) (hr : r.length ≤ 10485760) (ha : RI w A l) (hb : RI w B r) :
    Calls Try.prog 133 #[.slice A l.length c, .slice B r.length d] w fun e w' => e = .returned (.bool (decide (l = r))) ∧ ∃ n, w' = w.drewN n := by
  obtain ⟨R, hR⟩ : ∃ R, decide (l = r) = R := ⟨_, rfl⟩
  rw [hR]
  by_cases hlen : r.length = l.length
  · have HY := Lib.hid (fun (h : ∀ j : Nat, j < l.length → l[j]?.getD 0 = r[j]?.getD 0) => hR.symm.trans (decide_eq_true (List.ext_getElem? (fun i => by
      by_cases hi : i < l.length
      · have := h i hi
        rw [List.getElem?_eq_getElem hi, List.getElem?_eq_getElem (by omega)] at this ⊢
        exact congrArg some this
      · rw [List.getElem?_eq_none (by omega), List.getElem?_eq_none (by omega)]))))
    have HN := Lib.hid (fun (j : Nat) (h : ¬ l[j]?.getD 0 = r[j]?.getD 0) => hR.symm.trans (decide_eq_false (fun he => h (congrArg (fun (u : List Int) => u[j]?.getD 0) he))))
    obtain ⟨N, hN⟩ : ∃ N, l.length = N := ⟨_, rfl⟩
    have HLL := Lib.hid hlen
    rw [hlen]
    rw [hN] at HY hl ⊢
    have HLN := Lib.hid hN
    clear hR hlen hN
    go_enter Try.func133, Try.ntmps133
    go_wp2
    go_loopw [5] (fun i wr => ∃ j n : Nat, j ≤ N ∧ i = .int .i64 j ∧ wr = w.drewN n ∧ ∀ q : Nat, q < j → l[q]?.getD 0 = r[q]?.getD 0) (fun i _ => N - (intOf i).toNat)
    case atStart => exact ⟨0, 0, Nat.zero_le _, rfl, rfl, fun q h => absurd h (Nat.not_lt_zero _)⟩
    case round =>
      obtain ⟨j, n, hj, rfl, hw, hall⟩ := hrel
      have HW := Lib.hid hw
      have HA := Lib.hid hall
      have hcell : ∀ p : Addr, wr.cell? p = w.cell? p := by intro p; rw [hw]; rfl
      clear hw hall
      by_cases hlt : j < N
      · have hN := HLN.out
        have hlen := HLL.out
        obtain ⟨b, off, rfl, hb1, hc1⟩ := ha (by rintro rfl; simp at hN; omega)
        obtain ⟨b', off', rfl, hb2, hc2⟩ := hb (by rintro rfl; simp at hlen; omega)
        have h1 := (hcell ⟨b, off + j, none⟩).trans (hc1 j (by omega))
        have h2 := (hcell ⟨b', off' + j, none⟩).trans (hc2 j (by omega))
        have hne := HN.out j
        obtain ⟨X, hX⟩ : ∃ x, l[j]?.getD 0 = x := ⟨_, rfl⟩
        obtain ⟨Y, hY⟩ : ∃ x, r[j]?.getD 0 = x := ⟨_, rfl⟩
        rw [hX] at h1 hne
        rw [hY] at h2 hne
        have j1 : (0 : Int) ≤ (j : Int) := by omega
        have j2 : (j : Int) < (N : Int) := by omega
        clear hc1 hc2 ha hb hcell hN hlen
        by_cases hxy : X = Y
        · subst hxy
          have HX := Lib.hid (hX.trans hY.symm)
          clear hX hY hne
          go_wp2
          go_quiet (fail)
          go_wp2
          go_roundw
          case rel => exact ⟨j + 1, n + nq, by omega, by go_num, by rw [HW.out, World.drewN_drewN], fun q hq => (Nat.lt_succ_iff_lt_or_eq.1 hq).elim (HA.out q) (fun h => h ▸ HX.out)⟩
          case measure => simp only [intOf]; omega
        · have HRF := Lib.hid (hne hxy)
          obtain ⟨n1, n2⟩ : (X == Y) = false ∧ (X != Y) = true := ⟨by simpa using hxy, by simpa using hxy⟩
          clear hX hY hne
          go_wp2
          go_quiet (fail)
          go_wp2
          go_ret
          exact ⟨ret_bool HRF.out.symm, n + nq, by rw [HW.out, World.drewN_drewN]⟩
      · obtain rfl : j = N := by omega
        have HRT := Lib.hid (HY.out HA.out)
        clear hcell
        go_wp2
        go_ret
        exact ⟨ret_bool HRT.out.symm, n, HW.out⟩
  · have hRf : R = false := by rw [← hR]; exact decide_eq_false (fun he => hlen (by rw [he]))
    have HRF := Lib.hid hRf
    have hlen2 : ¬ (l.length : Int) = (r.length : Int) := by omega
    obtain ⟨n1, n2⟩ : ((l.length : Int) == (r.length : Int)) = false ∧ ((l.length : Int) != (r.length : Int)) = true := ⟨by simpa using hlen2, by simpa using hlen2⟩
    obtain ⟨N, hN⟩ : ∃ N, l.length = N := ⟨_, rfl⟩
    obtain ⟨M, hM⟩ : ∃ M, r.length = M := ⟨_, rfl⟩
    rw [hN, hM] at n1 n2 hlen2
    rw [hN] at hl ⊢
    rw [hM] at hr ⊢
    clear hR hRf hlen hN hM ha hb
    go_enter Try.func133, Try.ntmps133
    go_wp2
    go_ret
    exact ⟨ret_bool HRF.out.symm, 0, rfl⟩
/-- rows of a table where they lie -/
def RowsAt (w : World) (A : Option Addr) (t : List (List Int)) : Prop := ∀ k, k < t.length → ∃ b off A' c', A = some ⟨b, off, none⟩ ∧ b < w.heap.size ∧ w.cell? ⟨b, off + k, none⟩ = some (.slice A' (Pl.rw' t k).length c') ∧ RI w A' (Pl.rw' t k)
theorem RP.rowsAt {w : World} {A : Option Addr} {t : List (List Int)} (h : RP w A t) : RowsAt w A t := by
  intro k hk
  obtain ⟨b, off, A', c', rfl, h1, h2, _, h3⟩ := h.at k hk
  exact ⟨b, off, A', c', rfl, h1, h2, h3⟩
set_option maxHeartbeats 1000000 in
theorem l01Same2_any (A B : Option Addr) (c d : Nat) (t u : List (List Int)) (w : World) (hlen : u.length = t.length) (hl : t.length ≤ 1000) (h1 : ∀ k, (Pl.rw' t k).length ≤ 10485760) (h2 : ∀ k, (Pl.rw' u k).length ≤ 10485760) (ha : RP w A t) (hb : RP w B u) :
    Calls Try.prog 86 #[.slice A t.length c, .slice B u.length d] w fun e w' => e = .returned (.bool (decide (t = u))) ∧ Below w.heap.size w w' := by
  have HA1 := Lib.hid ha.rowsAt
  have HB1 := Lib.hid hb.rowsAt
  obtain ⟨R, hR⟩ : ∃ R, decide (t = u) = R := ⟨_, rfl⟩
  rw [hR]
  have HY := Lib.hid (fun (h : ∀ j, j < t.length → Pl.rw' t j = Pl.rw' u j) => hR.symm.trans (decide_eq_true (List.ext_getElem? (fun i => by
    by_cases hi : i < t.length
    · have := h i hi
      unfold Pl.rw' at this
      rw [List.getElem?_eq_getElem hi, List.getElem?_eq_getElem (by omega)] at this ⊢
      exact congrArg some this
    · rw [List.getElem?_eq_none (by omega), List.getElem?_eq_none (by omega)]))))
  have HN := Lib.hid (fun j (h : ¬ Pl.rw' t j = Pl.rw' u j) => hR.symm.trans (decide_eq_false (fun he => h (congrArg (fun u => Pl.rw' u j) he))))
  have H1 := Lib.hid h1
  have H2 := Lib.hid h2
  obtain ⟨N, hN⟩ : ∃ N, t.length = N := ⟨_, rfl⟩
  have HLL := Lib.hid hlen
  rw [hlen]
  rw [hN] at HY hl ⊢
  have HLN := Lib.hid hN
  clear hR hlen hN ha hb h1 h2
  go_enter Try.func86, Try.ntmps86
  go_wp2
  go_loopw [5] (fun i wr => ∃ j : Nat, j ≤ N ∧ i = .int .i64 j ∧ Below w.heap.size w wr ∧ ∀ q, q < j → Pl.rw' t q = Pl.rw' u q) (fun i _ => N - (intOf i).toNat)
  case atStart => exact ⟨0, Nat.zero_le _, rfl, Below.refl _ _, fun q h => absurd h (Nat.not_lt_zero _)⟩
  case round =>
    obtain ⟨j, hj, rfl, hbel, hall⟩ := hrel
    have HB := Lib.hid hbel
    have HA := Lib.hid hall
    clear hbel hall
    by_cases hlt : j < N
    · have hN := HLN.out
      have hlen := HLL.out
      obtain ⟨b, off, A1, c1, rfl, g1, k1, r1⟩ := HA1.out j (by omega)
      obtain ⟨b', off', A2, c2, rfl, g2, k2, r2⟩ := HB1.out j (by omega)
      have e1 := (HB.out.cell (p := ⟨b, off + j, none⟩) g1).trans k1
      have e2 := (HB.out.cell (p := ⟨b', off' + j, none⟩) g2).trans k2
      have hne := HN.out j
      have b1 := H1.out j
      have b2 := H2.out j
      obtain ⟨X, hX⟩ : ∃ x, Pl.rw' t j = x := ⟨_, rfl⟩
      obtain ⟨Y, hY⟩ : ∃ x, Pl.rw' u j = x := ⟨_, rfl⟩
      rw [hX] at e1 hne b1 r1
      rw [hY] at e2 hne b2 r2
      have R1 := Lib.hid (r1.below HB.out)
      have R2 := Lib.hid (r2.below HB.out)
      have j1 : (0 : Int) ≤ (j : Int) := by omega
      have j2 : (j : Int) < (N : Int) := by omega
      by_cases hxy : X = Y
      · have HX := Lib.hid (hX.trans (hxy.trans hY.symm))
        have HQ := Lib.hid (fun n => by have := l01Same_q A1 A2 c1 c2 X Y (wr.drewN n) b1 b2 R1.out R2.out; rw [decide_eq_true hxy] at this; exact this)
        clear hX hY hne k1 k2 r1 r2 hN hlen hxy b1 b2
        obtain ⟨n1, hn1⟩ : ∃ n, X.length = n := ⟨_, rfl⟩
        obtain ⟨n2, hn2⟩ : ∃ n, Y.length = n := ⟨_, rfl⟩
        rw [hn1] at e1 HQ
        rw [hn2] at e2 HQ
        clear hn1 hn2
        go_wp2
        go_quiet ((go_at_call 133; exact Calls.quiet_of (HQ.out _)))
        go_wp2
        go_roundw
        case rel => exact ⟨j + 1, by omega, by go_num, below_drewN HB.out _, fun q hq => (Nat.lt_succ_iff_lt_or_eq.1 hq).elim (HA.out q) (fun h => h ▸ HX.out)⟩
        case measure => simp only [intOf]; omega
      · have HRF := Lib.hid (hne hxy)
        have HQ := Lib.hid (fun n => by have := l01Same_q A1 A2 c1 c2 X Y (wr.drewN n) b1 b2 R1.out R2.out; rw [decide_eq_false hxy] at this; exact this)
        clear hX hY hne k1 k2 r1 r2 hN hlen hxy b1 b2
        obtain ⟨n1, hn1⟩ : ∃ n, X.length = n := ⟨_, rfl⟩
        obtain ⟨n2, hn2⟩ : ∃ n, Y.length = n := ⟨_, rfl⟩
        rw [hn1] at e1 HQ
        rw [hn2] at e2 HQ
        clear hn1 hn2
        go_wp2
        go_quiet ((go_at_call 133; exact Calls.quiet_of (HQ.out _)))
        go_wp2
        go_ret
        exact ⟨ret_bool HRF.out.symm, below_drewN HB.out _⟩
    · obtain rfl : j = N := by omega
      have HRT := Lib.hid (HY.out HA.out)
      go_wp2
      go_ret
      exact ⟨ret_bool HRT.out.symm, HB.out⟩
set_option maxHeartbeats 4000000 in
set_option maxRecDepth 100000 in
theorem IsSymmetricPlane_any (m : Int) (A : Option Addr) (c : Nat) (t : List (List Int)) (w : World) (hz : szT t ≤ 1048576) (hr : RP w A t) :
    Calls Try.prog 34 #[.agg #[.int .i64 m, .slice A t.length c]] w fun e w' => e = .returned (.tuple #[.bool (symP m t).1, .int .i64 (symP m t).2]) ∧ Below w.heap.size w w' := by
  obtain ⟨W, hW, b1, b4, hwb⟩ := startB2 33 33 w m A t.length c m A t.length c
  have B1 := Lib.hid b1
  have HB := Lib.hid hwb
  have HW := Lib.hid hW
  have HC := Lib.hid (codeOfPlanes1_any (w.heap.size + 1) m A c t W hz (hr.below hwb) b4)
  by_cases h0 : codeP1 m t = 0
  · obtain ⟨d, e1, ok⟩ := plOk_of (codeP1_zero h0)
    have HA : Hid (symP m t = (symB m d t, 0)) := Lib.hid (by unfold symP; rw [if_pos h0, e1]; rfl)
    rw [HA.out]
    have HG := Lib.hid (fun W0 => gridOf_nat m A t.length c d W0 e1 (by have := ok.d2; omega))
    have HP := Lib.hid (fun W0 (h : Below W.heap.size W W0) => isSymmetric_any m d A c t W0 ok ((hr.below hwb).below h))
    have hc := HC.out
    rw [h0] at hc
    have HC0 := Lib.hid hc
    obtain ⟨R, hR⟩ : ∃ R, symB m d t = R := ⟨_, rfl⟩
    rw [hR] at HP ⊢
    clear b1 b4 hwb hW hr hc HC h0 ok hR e1 hz
    go_enter Try.func34, Try.ntmps34
    go_wp2_with fail
    rw [HW.out]
    refine HC0.out.mono ?_
    rintro e w1 ⟨rfl, hb1⟩
    obtain ⟨x1, x2, x3⟩ := B1.out.keep hb1
    go_wp2_with fail
    refine (HG.out _).mono ?_
    rintro e w2 ⟨rfl, hb2⟩
    go_wp2_with fail
    refine (HP.out _ (below_step hb1 hb2)).mono ?_
    rintro e w3 ⟨rfl, hb3⟩
    go_wp2
    go_ret2
    exact ⟨rfl, below_step HB.out (below_step (below_step hb1 hb2) hb3)⟩
  · have HA : Hid (symP m t = (false, codeP1 m t)) := Lib.hid (by unfold symP; rw [if_neg h0])
    rw [HA.out]
    clear b1 b4 hwb hW hr hz
    obtain ⟨n1, n2⟩ := ne_facts h0
    obtain ⟨C, hC⟩ : ∃ C, codeP1 m t = C := ⟨_, rfl⟩
    have hc := HC.out
    rw [hC] at n1 n2 h0 hc ⊢
    have HC0 := Lib.hid hc
    clear hc HC hC
    go_enter Try.func34, Try.ntmps34
    go_wp2_with fail
    rw [HW.out]
    refine HC0.out.mono ?_
    rintro e w1 ⟨rfl, hb1⟩
    go_wp2
    go_ret2
    exact ⟨rfl, below_step HB.out hb1⟩
theorem row_le {t : List (List Int)} (h : szT t ≤ 1048576) (k : Nat) : (Pl.rw' t k).length ≤ 10485760 := by
  have := tot_row t k
  unfold szT at h
  omega
set_option maxHeartbeats 4000000 in
set_option maxRecDepth 100000 in
theorem sIsSymmetricPlane_any (m : Int) (A : Option Addr) (c : Nat) (t : List (List Int)) (w : World) (hz : szT t ≤ 1048576) (hr : RP w A t) :
    Calls Try.prog 33 #[.agg #[.int .i64 m, .slice A t.length c]] w fun e w' => e = .returned (.tuple #[.bool (symP m t).1, .int .i64 (symP m t).2]) ∧ Below w.heap.size w w' := by
  obtain ⟨W, hW, b1, hwb⟩ := start1 33 w m A t.length c
  have B1 := Lib.hid b1
  have HB := Lib.hid hwb
  have HW := Lib.hid hW
  have HC := Lib.hid (l03Is_z m A c t W hz (hr.below hwb))
  by_cases h0 : isP m t = true
  · obtain ⟨d, e1, ok⟩ := plOk_of h0
    have HA : Hid (symP m t = (decide (t = Pl.tab m d fun i j => Pl.pc t j i), 0)) := Lib.hid (by unfold symP; rw [if_pos (codeP1_yes h0), e1]; rfl)
    rw [HA.out]
    have HP := Lib.hid (fun W0 (h : Below W.heap.size W W0) => l03Turn_any m d A c t W0 ok ((hr.below hwb).below h))
    have hc := HC.out
    rw [h0] at hc
    have HC0 := Lib.hid hc
    have hTl : (Pl.tab m d fun i j => Pl.pc t j i).length = t.length := by rw [Pl.tab_length, e1]
    have hTz := row_le (szT_ok (ok.tab fun i j => Pl.pc t j i))
    obtain ⟨T, hT⟩ : ∃ T, (Pl.tab m d fun i j => Pl.pc t j i) = T := ⟨_, rfl⟩
    rw [hT] at HP hTl hTz ⊢
    have HQ := Lib.hid (fun W0 B d0 (h : Below W.heap.size W W0) (hb : RP W0 B T) => l01Same2_any A B c d0 t T W0 hTl (by have := ok.d2; omega) (row_le hz) hTz ((hr.below hwb).below h) hb)
    obtain ⟨R, hR⟩ : ∃ R, decide (t = T) = R := ⟨_, rfl⟩
    rw [hR] at HQ ⊢
    have HTL := Lib.hid hTl
    obtain ⟨L, hL⟩ : ∃ L, t.length = L := ⟨_, rfl⟩
    rw [hL] at HW B1 HP HC0 HQ HTL ⊢
    rw [HTL.out] at HQ
    clear b1 hwb hW hr hc HC h0 ok hT hz e1 hL hTl hTz hR
    go_enter Try.func33, Try.ntmps33
    go_wp2_with fail
    rw [HW.out]
    refine HC0.out.mono ?_
    rintro e w0 ⟨rfl, hb0⟩
    obtain ⟨x1, x2, x3⟩ := B1.out.keep hb0
    go_wp2
    go_region_held3 (fun w' => w'.cell? ⟨w.heap.size, 0, none⟩ = some (.int .i64 m) ∧ w'.cell? ⟨w.heap.size, 1, none⟩ = some (.slice A L c) ∧ w.heap.size < w'.heap.size) (first | exact ⟨x1, x2, x3⟩ | exact box_store (by omega) (by assumption) | exact box_call (by assumption) (by assumption)) (first
      | (go_at_call 87; refine (HP.out _ (below_step hb0 (below_drew0 _))).mono ?_; rintro e2 w2 ⟨s, rfl, ho, hb2⟩; obtain ⟨A2, c2, rfl, hrp⟩ := ho.len; rw [HTL.out])
      | (go_at_call 86; refine (HQ.out _ _ _ (below_step (below_step hb0 (below_drew0 _)) hb2) hrp).mono ?_; rintro e3 w3 ⟨rfl, hb3⟩))
    all_goals
      have hw3 := below_step (below_step (below_step hb0 (below_drew0 _)) hb2) hb3
      clear hb0 hb2 hb3 ho hrp
      go_wp2
      go_ret2
      exact ⟨rfl, below_step HB.out hw3⟩
  · have h0' : isP m t = false := by simpa using h0
    have HA : Hid (symP m t = (false, 1)) := Lib.hid (by unfold symP; rw [codeP1_no h0', if_neg (by decide)])
    rw [HA.out]
    have hc := HC.out
    rw [h0'] at hc
    have HC0 := Lib.hid hc
    clear b1 hwb hW hr hz hc HC h0 h0'
    go_enter Try.func33, Try.ntmps33
    go_wp2_with fail
    rw [HW.out]
    refine HC0.out.mono ?_
    rintro e w1 ⟨rfl, hb1⟩
    go_wp2
    go_ret2
    exact ⟨rfl, below_step HB.out hb1⟩
end Go.Proofs.Yteicllnbphljnaa

/- Contract of repeated doubling with an operation that is a function value. -/
namespace Go.Proofs.Yteicllnbphljnaa
open Go.RowKit Go.WideShapes Go.ChangeShapes Go.ChangeAt

namespace Ser
/-- the steps of doubling: number left, result, double -/
def repS (op : List Int → List Int → List Int) (k : Nat) (p s : List Int) : List Int :=
  if _h : k = 0 then p else repS op (k / 2) (if k % 2 = 1 then op p s else p) (op s s)
termination_by k
decreasing_by omega
theorem repS_zero (op : List Int → List Int → List Int) (p s : List Int) : repS op 0 p s = p := by rw [repS]; simp
theorem repS_odd (op : List Int → List Int → List Int) {k : Nat} (p s : List Int) (h : k % 2 = 1) : repS op k p s = repS op (k / 2) (op p s) (op s s) := by rw [repS, dif_neg (by omega), if_pos h]
theorem repS_even (op : List Int → List Int → List Int) {k : Nat} (p s : List Int) (h0 : k ≠ 0) (h : ¬ k % 2 = 1) : repS op k p s = repS op (k / 2) p (op s s) := by rw [repS, dif_neg h0, if_neg h]
theorem repS_pow (m : Int) (d : Nat) : ∀ (k : Nat) (p s : List Int), repS (mulL m d) k p s = powS m d k p s := by
  intro k
  induction k using Nat.strongRecOn with
  | ind k ih =>
    intro p s
    by_cases h0 : k = 0
    · subst h0; rw [repS_zero, powS_zero]
    · by_cases h : k % 2 = 1
      · rw [repS_odd _ _ _ h, powS_odd _ _ _ _ h]; exact ih _ (by omega) _ _
      · rw [repS_even _ _ _ h0 h, powS_even _ _ _ _ h0 h]; exact ih _ (by omega) _ _
theorem repS_keep (op : List Int → List Int → List Int) (Q : List Int → Prop) (hop : ∀ p s, Q p → Q s → Q (op p s)) : ∀ (k : Nat) (p s : List Int), Q p → Q s → Q (repS op k p s) := by
  intro k
  induction k using Nat.strongRecOn with
  | ind k ih =>
    intro p s hp hs
    by_cases h0 : k = 0
    · subst h0; rw [repS_zero]; exact hp
    · by_cases h : k % 2 = 1
      · rw [repS_odd _ _ _ h]; exact ih _ (by omega) _ _ (hop _ _ hp hs) (hop _ _ hs hs)
      · rw [repS_even _ _ _ h0 h]; exact ih _ (by omega) _ _ hp (hop _ _ hs hs)
end Ser

/-- the variables of a repeated operation: two boxes, the result's variable, the running result, the double -/
theorem rpt_pro (w : World) (m : Int) (A0 : Option Addr) (n0 c0 : Nat) (A : Option Addr) (n c : Nat) : ∃ W, ((((w.alloc (.cells #[.int .i64 m, .slice A0 n0 c0] 30)).alloc (.cells #[.int .i64 m, .slice A n c] 30)).alloc (.cells #[.int .i64 0, .slice none 0 0] 30)).alloc (.cells #[.int .i64 m, .slice A0 n0 c0] 30)).alloc (.cells #[.int .i64 m, .slice A n c] 30) = W ∧
    Var2 W (w.heap.size + 1 + 1) (.int .i64 0) (.slice none 0 0) ∧ Var2 W (w.heap.size + 1 + 1 + 1) (.int .i64 m) (.slice A0 n0 c0) ∧ Var2 W (w.heap.size + 1 + 1 + 1 + 1) (.int .i64 m) (.slice A n c) ∧ Below w.heap.size w W := by
  refine ⟨_, rfl, ?_, ?_, ?_, below_alloc _ (below_alloc _ (below_alloc _ (below_alloc _ (below_one _ _))))⟩
  · have := ((Var2.new ((w.alloc (.cells #[.int .i64 m, .slice A0 n0 c0] 30)).alloc (.cells #[.int .i64 m, .slice A n c] 30)) (.int .i64 0) (.slice none 0 0)).keep (below_one _ (.cells #[.int .i64 m, .slice A0 n0 c0] 30))).keep (below_one _ (.cells #[.int .i64 m, .slice A n c] 30))
    simpa using this
  · have := (Var2.new (((w.alloc (.cells #[.int .i64 m, .slice A0 n0 c0] 30)).alloc (.cells #[.int .i64 m, .slice A n c] 30)).alloc (.cells #[.int .i64 0, .slice none 0 0] 30)) (.int .i64 m) (.slice A0 n0 c0)).keep (below_one _ (.cells #[.int .i64 m, .slice A n c] 30))
    simpa using this
  · have := Var2.new ((((w.alloc (.cells #[.int .i64 m, .slice A0 n0 c0] 30)).alloc (.cells #[.int .i64 m, .slice A n c] 30)).alloc (.cells #[.int .i64 0, .slice none 0 0] 30)).alloc (.cells #[.int .i64 m, .slice A0 n0 c0] 30)) (.int .i64 m) (.slice A n c)
    simpa using this
set_option maxHeartbeats 8000000 in
set_option maxRecDepth 100000 in
theorem repeated_any (m : Int) (d fn : Nat) (bnd : Array Value) (op : List Int → List Int → List Int) (Q : List Int → Prop) (K : Nat) (A0 : Option Addr) (c0 : Nat) (L0 : List Int) (A : Option Addr) (c : Nat) (l : List Int) (lo : Nat) (w : World) (hK : K ≤ 1000000) (hlo : lo ≤ w.heap.size)
    (hok : ∀ P, Q P → SerOk m d P) (hop : ∀ P S, Q P → Q S → Q (op P S)) (q0 : Q L0) (q1 : Q l) (ho : OwnI w lo (.slice A0 L0.length c0) L0) (hr : RI w A l)
    (hen : ∀ (a b : Value) (W : World), (callFunc fn (bnd ++ #[a, b])).run Try.prog W = .ok (.enter fn (bnd ++ #[a, b])) W)
    (hf : ∀ (P S : List Int) (Ap : Option Addr) (cp : Nat) (As : Option Addr) (cs : Nat) (W : World), Q P → Q S → Below w.heap.size w W → RI W Ap P → RI W As S → Calls Try.prog fn (bnd ++ #[.agg #[.int .i64 m, .slice Ap P.length cp], .agg #[.int .i64 m, .slice As S.length cs]]) W fun e w' => ∃ v, e = .returned (.agg #[.int .i64 m, v]) ∧ OwnI w' W.heap.size v (op P S) ∧ Below W.heap.size W w') :
    Calls Try.prog 81 #[.func (.func fn) bnd #[], .agg #[.int .i64 m, .slice A0 L0.length c0], .agg #[.int .i64 m, .slice A l.length c], .int .i64 K] w fun e w' => ∃ v, e = .returned (.agg #[.int .i64 m, v]) ∧ OwnI w' lo v (Ser.repS op K L0 l) ∧ Below w.heap.size w w' := by
  obtain ⟨W, hW, v8, v9, v10, hwb⟩ := rpt_pro w m A0 L0.length c0 A l.length c
  have HF := Lib.hid hf
  have HOP := Lib.hid hop
  have HOK := Lib.hid hok
  have V8 := Lib.hid v8
  have V9 := Lib.hid v9
  have V10 := Lib.hid v10
  have HB := Lib.hid hwb
  have HW := Lib.hid hW
  have HO := Lib.hid (ho.keep (hwb.mono (Nat.le_refl _)))
  have HR := Lib.hid (hr.below hwb)
  have Q0 := Lib.hid q0
  have Q1 := Lib.hid q1
  obtain ⟨R, hR⟩ : ∃ R, Ser.repS op K L0 l = R := ⟨_, rfl⟩
  have HRR := Lib.hid hR
  rw [hR]
  clear hW v8 v9 v10 hwb hR ho hr q0 q1 hf hop hok
  go_enter Try.func81, Try.ntmps81
  go_wp2
  rw [HW.out]
  go_loopw [3, 10] (fun s3 s10 wr => ∃ (kk : Nat) (P S : List Int) (g10 : Nat) (Ap : Option Addr) (cp : Nat) (As : Option Addr) (cs : Nat), s3 = .int .i64 kk ∧ s10 = .pointer (some ⟨g10, 0, none⟩) ∧ kk ≤ 1000000 ∧ Ser.repS op kk P S = R ∧ Q P ∧ Q S ∧
    Var2 wr (w.heap.size + 1 + 1 + 1) (.int .i64 m) (.slice Ap P.length cp) ∧ OwnI wr lo (.slice Ap P.length cp) P ∧ Var2 wr g10 (.int .i64 m) (.slice As S.length cs) ∧ RI wr As S ∧ Var2 wr (w.heap.size + 1 + 1) (.int .i64 0) (.slice none 0 0) ∧ Below w.heap.size w wr ∧ w.heap.size + 1 + 1 + 1 < g10) (fun s3 _ _ => (intOf s3).toNat)
  case atStart => exact ⟨K, L0, l, _, A0, c0, A, c, rfl, rfl, hK, HRR.out, Q0.out, Q1.out, V9.out, HO.out, V10.out, HR.out, V8.out, HB.out, by omega⟩
  case round =>
    obtain ⟨kk, P, S, g10, Ap, cp, As, cs, rfl, rfl, hk9, hpw, sp, ss, vp, op', vs, rs, vr, hbl, hg⟩ := hrel
    have HPW := Lib.hid hpw
    have SP := Lib.hid sp
    have SS := Lib.hid ss
    have VP := Lib.hid vp
    have OP := Lib.hid op'
    have VS := Lib.hid vs
    have RS := Lib.hid rs
    have VR := Lib.hid vr
    have HBB := Lib.hid hbl
    clear hpw sp ss vp op' vs rs vr hbl V8 V9 V10 HB HO HR Q0 Q1 HRR HW
    by_cases hz : kk = 0
    · subst hz
      have hr := HPW.out
      rw [Ser.repS_zero] at hr
      subst hr
      have z1 := VP.out.c0
      have z2 := VP.out.c1
      have z3 := VR.out.c0
      have z4 := VR.out.c1
      have z5 := VR.out.fz 0
      have z6 := VR.out.fz 1
      have f2 := (VR.out.set2 (.int .i64 m) (.slice Ap P.length cp))
      have F1 := f2.c0
      have F2 := f2.c1
      have F3 := Lib.hid (OP.out.set2 VR.out (.int .i64 m) (.slice Ap P.length cp))
      have F4 := Lib.hid (below_set2 HBB.out (by omega : w.heap.size ≤ w.heap.size + 1 + 1) (.int .i64 m) (.slice Ap P.length cp))
      unfold set2 at F1 F2 F3 F4
      clear f2
      go_wp2
      exact bodyPost_ret (v := .agg #[.int .i64 m, .slice Ap P.length cp]) (by simp [results, Try.results81, go_sem, F1, F2]) rfl ⟨_, rfl, F3.out, F4.out⟩
    · have hz2 : 0 < kk := by omega
      clear hz
      by_cases hodd : kk % 2 = 1
      · have HN := Lib.hid (Ser.repS_odd op P S hodd)
        have i1 : ((kk : Int)).tmod 2 = 1 := by rw [Int.tmod_eq_emod_of_nonneg (by omega)]; omega
        have i2 : ((kk : Int)).tdiv 2 = ((kk / 2 : Nat) : Int) := by rw [Int.tdiv_eq_ediv_of_nonneg (by omega)]; omega
        obtain ⟨y1, y2⟩ := (⟨VP.out.c0, VP.out.c1⟩ : _ ∧ _)
        obtain ⟨y3, y4⟩ := (⟨VS.out.c0, VS.out.c1⟩ : _ ∧ _)
        go_wp2_with fail
        refine (HF.out P S Ap cp As cs _ SP.out SS.out HBB.out OP.out.ri RS.out).mono ?_
        rintro e w3 ⟨s3, rfl, ho3, hb3⟩
        obtain ⟨A3, c3, rfl, -⟩ := ho3.form
        have sp2 := HOP.out P S SP.out SS.out
        obtain ⟨P2, hP2⟩ : ∃ P2, op P S = P2 := ⟨_, rfl⟩
        rw [hP2] at ho3 HN sp2 ⊢
        have SP2 := Lib.hid sp2
        have vp3 := VP.out.keep hb3
        have q5 := vp3.c0
        have q6 := vp3.c1
        have q7 := vp3.fz 0
        have q8 := vp3.fz 1
        clear y1 y2 y3 y4
        obtain ⟨X, hX⟩ : ∃ X, set2 w3 (w.heap.size + 1 + 1 + 1) (.int .i64 m) (.slice A3 P2.length c3) = X := ⟨_, rfl⟩
        have VPx := Lib.hid (show Var2 X (w.heap.size + 1 + 1 + 1) (.int .i64 m) (.slice A3 P2.length c3) by rw [← hX]; exact vp3.set2 _ _)
        have OPx := Lib.hid (show OwnI X lo (.slice A3 P2.length c3) P2 by rw [← hX]; exact (ho3.set2 vp3 _ _).more (Nat.le_trans hlo HBB.out.size))
        have vsx : Var2 X g10 (.int .i64 m) (.slice As S.length cs) := by rw [← hX]; exact (VS.out.keep hb3).set2' (by omega) _ _
        have VSx := Lib.hid vsx
        have RSx := Lib.hid (show RI X As S by rw [← hX]; exact (RS.out.below hb3).set2 vp3 (by have := (HOK.out S SS.out).len; have := (HOK.out S SS.out).d1; omega) _ _)
        have VRx := Lib.hid (show Var2 X (w.heap.size + 1 + 1) (.int .i64 0) (.slice none 0 0) by rw [← hX]; exact (VR.out.keep hb3).set2' (by omega) _ _)
        have HBx := Lib.hid (show Below w.heap.size w X by rw [← hX]; exact below_set2 (below_step HBB.out hb3) (by omega) _ _)
        have y3 := vsx.c0
        have y4 := vsx.c1
        rw [← hX] at y3 y4
        unfold set2 at y3 y4 hX
        have HX := Lib.hid hX
        clear ho3 hb3 hP2 vp3 vsx sp2 VP OP VS RS VR HBB hX
        go_wp2_with fail
        rw [HX.out]
        clear y3 y4 HX
        refine (HF.out S S As cs As cs _ SS.out SS.out HBx.out RSx.out RSx.out).mono ?_
        rintro e w5 ⟨s5, rfl, ho5, hb5⟩
        obtain ⟨A5, c5, rfl, -⟩ := ho5.form
        have ss2 := HOP.out S S SS.out SS.out
        obtain ⟨S2, hS2⟩ : ∃ S2, op S S = S2 := ⟨_, rfl⟩
        rw [hS2] at ho5 HN ss2 ⊢
        have vs5 := VSx.out.keep hb5
        have y5 := vs5.c0
        have y6 := vs5.c1
        have y7 := vs5.fz 0
        have y8 := vs5.fz 1
        have vs6 := vs5.set2 (.int .i64 m) (.slice A5 S2.length c5)
        have y9 := vs6.c0
        have y10 := vs6.c1
        have k1 := ((VPx.out.keep hb5).set2' (g' := g10) (by omega) (.int .i64 m) (.slice A5 S2.length c5)).keep (below_one _ (.cells #[.int .i64 m, .slice A5 S2.length c5] 30))
        have k2 := ((OPx.out.keep hb5).set2 vs5 (.int .i64 m) (.slice A5 S2.length c5)).keep (below_one _ (.cells #[.int .i64 m, .slice A5 S2.length c5] 30))
        have k3 := ((ho5.set2 vs5 (.int .i64 m) (.slice A5 S2.length c5)).keep (below_one _ (.cells #[.int .i64 m, .slice A5 S2.length c5] 30))).ri
        have k4 := ((VRx.out.keep hb5).set2' (g' := g10) (by omega) (.int .i64 m) (.slice A5 S2.length c5)).keep (below_one _ (.cells #[.int .i64 m, .slice A5 S2.length c5] 30))
        have k5 := below_step (below_set2 (below_step HBx.out hb5) (show w.heap.size ≤ g10 by omega) (.int .i64 m) (.slice A5 S2.length c5)) (below_one _ (.cells #[.int .i64 m, .slice A5 S2.length c5] 30))
        have k6 := Var2.new (set2 w5 g10 (.int .i64 m) (.slice A5 S2.length c5)) (.int .i64 m) (.slice A5 S2.length c5)
        rw [show (set2 w5 g10 (.int .i64 m) (.slice A5 S2.length c5)).heap.size = w5.heap.size by simp [set2, World.setCell]] at k6
        have k7 : w.heap.size + 1 + 1 + 1 < w5.heap.size := (VPx.out.keep hb5).lt
        have K1 := Lib.hid k1
        have K2 := Lib.hid k2
        have K3 := Lib.hid k3
        have K4 := Lib.hid k4
        have K5 := Lib.hid k5
        have K6 := Lib.hid k6
        have SS2 := Lib.hid ss2
        unfold set2 at y9 y10
        clear k1 k2 k3 k4 k5 k6 ss2 vs5 vs6 ho5 hb5 hS2
        go_wp2
        go_roundw
        case rel => exact ⟨kk / 2, P2, S2, _, A3, c3, A5, c5, by first | rfl | (rw [i2]) | (simp [i2]) | go_num, rfl, by omega, by rw [← HN.out]; exact HPW.out, SP2.out, SS2.out, K1.out, K2.out, K6.out, K3.out, K4.out, K5.out, k7⟩
        case measure => simp only [intOf]; omega
      · have HN := Lib.hid (Ser.repS_even op P S (by omega) hodd)
        have i1 : ¬ ((kk : Int)).tmod 2 = 1 := by rw [Int.tmod_eq_emod_of_nonneg (by omega)]; omega
        have i2 : ((kk : Int)).tdiv 2 = ((kk / 2 : Nat) : Int) := by rw [Int.tdiv_eq_ediv_of_nonneg (by omega)]; omega
        have i3 : ¬ ((kk : Int)) % 2 = 1 := by omega
        obtain ⟨n1, n2⟩ : (((kk : Int)) % 2 == 1) = false ∧ (((kk : Int)) % 2 != 1) = true := ⟨by simpa using i3, by simpa using i3⟩
        obtain ⟨y3, y4⟩ := (⟨VS.out.c0, VS.out.c1⟩ : _ ∧ _)
        have VPx := VP
        have OPx := OP
        have VSx := VS
        have RSx := RS
        have VRx := VR
        have HBx := HBB
        clear VP OP VS RS VR HBB hodd
        go_wp2_with fail
        clear y3 y4
        refine (HF.out S S As cs As cs _ SS.out SS.out HBx.out RSx.out RSx.out).mono ?_
        rintro e w5 ⟨s5, rfl, ho5, hb5⟩
        obtain ⟨A5, c5, rfl, -⟩ := ho5.form
        have ss2 := HOP.out S S SS.out SS.out
        obtain ⟨S2, hS2⟩ : ∃ S2, op S S = S2 := ⟨_, rfl⟩
        rw [hS2] at ho5 HN ss2 ⊢
        have vs5 := VSx.out.keep hb5
        have y5 := vs5.c0
        have y6 := vs5.c1
        have y7 := vs5.fz 0
        have y8 := vs5.fz 1
        have vs6 := vs5.set2 (.int .i64 m) (.slice A5 S2.length c5)
        have y9 := vs6.c0
        have y10 := vs6.c1
        have k1 := ((VPx.out.keep hb5).set2' (g' := g10) (by omega) (.int .i64 m) (.slice A5 S2.length c5)).keep (below_one _ (.cells #[.int .i64 m, .slice A5 S2.length c5] 30))
        have k2 := ((OPx.out.keep hb5).set2 vs5 (.int .i64 m) (.slice A5 S2.length c5)).keep (below_one _ (.cells #[.int .i64 m, .slice A5 S2.length c5] 30))
        have k3 := ((ho5.set2 vs5 (.int .i64 m) (.slice A5 S2.length c5)).keep (below_one _ (.cells #[.int .i64 m, .slice A5 S2.length c5] 30))).ri
        have k4 := ((VRx.out.keep hb5).set2' (g' := g10) (by omega) (.int .i64 m) (.slice A5 S2.length c5)).keep (below_one _ (.cells #[.int .i64 m, .slice A5 S2.length c5] 30))
        have k5 := below_step (below_set2 (below_step HBx.out hb5) (show w.heap.size ≤ g10 by omega) (.int .i64 m) (.slice A5 S2.length c5)) (below_one _ (.cells #[.int .i64 m, .slice A5 S2.length c5] 30))
        have k6 := Var2.new (set2 w5 g10 (.int .i64 m) (.slice A5 S2.length c5)) (.int .i64 m) (.slice A5 S2.length c5)
        rw [show (set2 w5 g10 (.int .i64 m) (.slice A5 S2.length c5)).heap.size = w5.heap.size by simp [set2, World.setCell]] at k6
        have k7 : w.heap.size + 1 + 1 + 1 < w5.heap.size := (VPx.out.keep hb5).lt
        have K1 := Lib.hid k1
        have K2 := Lib.hid k2
        have K3 := Lib.hid k3
        have K4 := Lib.hid k4
        have K5 := Lib.hid k5
        have K6 := Lib.hid k6
        have SS2 := Lib.hid ss2
        unfold set2 at y9 y10
        clear k1 k2 k3 k4 k5 k6 ss2 vs5 vs6 ho5 hb5 hS2
        go_wp2
        go_roundw
        case rel => exact ⟨kk / 2, P, S2, _, Ap, cp, A5, c5, by first | rfl | (rw [i2]) | (simp [i2]) | go_num, rfl, by omega, by rw [← HN.out]; exact HPW.out, SP.out, SS2.out, K1.out, K2.out, K6.out, K3.out, K4.out, K5.out, k7⟩
        case measure => simp only [intOf]; omega
end Go.Proofs.Yteicllnbphljnaa

/- Helpers of the exact laws whose result is a list of integers. -/
namespace Go.Proofs.Yteicllnbphljnaa
open Go.RowKit Go.WideShapes Go.ChangeShapes Go.ChangeAt

theorem heldInt64S_b (A : Option Addr) (c n : Nat) (k : Int) (w : World) (hl : n ≤ 10485760) (hk : 0 ≤ k) (hk2 : k ≤ 1000000000000) (hr : RI w A (marks k n)) :
    Calls Try.prog 41 #[.slice A n c, .int .i64 k] w fun e w' => e = .returned (.int .i64 (k + n)) ∧ Below w.heap.size w w' :=
  (heldInt64S_any A c n k w hl hk hk2 hr).mono fun e w' ⟨h1, h2⟩ => ⟨h1, by subst h2; exact Below.refl _ _⟩
end Go.Proofs.Yteicllnbphljnaa

