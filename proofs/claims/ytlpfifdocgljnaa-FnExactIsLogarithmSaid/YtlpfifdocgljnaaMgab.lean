/- Texts of contracts, joined. -/
import Derived.Test.YtlpfifdocgljnaaMgaa
import Derived.ProofKit
import Derived.OpenShut
import Derived.ChangeSame
import Derived.Deep.Matrix
import Derived.Deep.RegionHeld3
import Derived.Deep.QuietTactic
import Derived.BigQuiet
import Derived.StillTailTactics
import Derived.Deep.DeepCutAuto
/- Contracts of the codes of series: one, two, one with a number. -/
namespace Go.Proofs.Ytlpfifdocgljnaa
open Go.RowKit Go.WideShapes Go.ChangeShapes Go.ChangeAt

/-- a list's coefficients as numbers -/
def isC (m : Int) (l : List Int) : Bool := isS m l && (l[0]?.getD 0 == 0)
set_option maxHeartbeats 1000000 in
theorem IsCurve_any (m : Int) (A : Option Addr) (c : Nat) (l : List Int) (w : World) (hl : l.length ≤ 9223372036854775807) (hr : RI w A l) :
    Calls Try.prog 106 #[.agg #[.int .i64 m, .slice A l.length c]] w fun e w' => e = .returned (.bool (isC m l)) ∧ Below w.heap.size w w' := by
  have HR := Lib.hid hr
  by_cases h1 : isS m l = true
  · obtain ⟨k1, k2, _⟩ := isS_iff h1
    have HF := Lib.hid (show isC m l = (l[0]?.getD 0 == 0) by unfold isC; rw [h1]; rfl)
    obtain ⟨b, off, rfl, hb, hc⟩ := hr (by rintro rfl; simp at k1)
    have hc0 : w.cell? ⟨b, off, none⟩ = some (.int .i64 (l[0]?.getD 0)) := hc 0 (by omega)
    obtain ⟨x, hx⟩ : ∃ x, l[0]?.getD 0 = x := ⟨_, rfl⟩
    rw [hx] at hc0
    have HX := Lib.hid hx
    have HB := Lib.hid hb
    clear hx hc hb
    have z1 : (0 : Int) < (l.length : Int) := by omega
    go_enter Try.func106, Try.ntmps106
    go_wp2_with (first
      | (go_at_call 102; refine (IsSeries_any _ _ _ l _ hl (HR.out.below (below_one _ _))).mono ?_; rintro e w1 ⟨rfl, hb1⟩; have hb2 := (below_one w (.cells #[.int .i64 m, .slice (some ⟨b, off, none⟩) l.length c] 34)).trans (hb1.mono (by simp)); obtain ⟨x1, x2⟩ := box_in (Box.new w m (some ⟨b, off, none⟩) l.length c) hb1; have x3 := (hb2.cell (p := ⟨b, off, none⟩) HB.out).trans hc0))
    go_ret
    exact ⟨ret_bool (by rw [HF.out, HX.out]), by assumption⟩
  · have h1' : isS m l = false := by simpa using h1
    have HF := Lib.hid (show isC m l = false by unfold isC; rw [h1']; rfl)
    clear h1
    go_enter Try.func106, Try.ntmps106
    go_wp2_with (first
      | (go_at_call 102; refine (IsSeries_any _ _ _ l _ hl (HR.out.below (below_one _ _))).mono ?_; rintro e w1 ⟨rfl, hb1⟩; have hb2 := (below_one w (.cells #[.int .i64 m, .slice A l.length c] 34)).trans (hb1.mono (by simp))))
    go_ret
    exact ⟨ret_bool HF.out.symm, by assumption⟩

/-- the code of one series, of two -/
def code1 (m : Int) (l : List Int) : Int := if isS m l = true then 0 else 1
def code2 (m : Int) (l : List Int) (m' : Int) (l' : List Int) : Int := if isS m l = true ∧ isS m' l' = true then (if m = m' ∧ l.length = l'.length then 0 else 2) else 1

theorem var_in {w w' : World} {g : Nat} {m m' : Int} {A A' : Option Addr} {n c n' c' : Nat} (hx : Box w g m A n c) (hb : Below w.heap.size w w') :
    ∃ W, (w'.alloc (.cells #[.int .i64 m', .slice A' n' c'] 34)) = W ∧ Box W w'.heap.size m' A' n' c' ∧ Box W g m A n c ∧ Below w.heap.size w W :=
  ⟨_, rfl, Box.new _ _ _ _ _, hx.keep (below_alloc _ hb), below_alloc _ hb⟩

set_option maxHeartbeats 2000000 in
theorem codeOfSeries1_any (g : Nat) (m : Int) (A : Option Addr) (c : Nat) (l : List Int) (w : World) (hl : l.length ≤ 9223372036854775807) (hr : RI w A l) (hx : Box w g m A l.length c) :
    Calls Try.prog 76 #[.slice (some ⟨g, 0, none⟩) 1 1] w fun e w' => e = .returned (.int .i64 (code1 m l)) ∧ Below w.heap.size w w' := by
  have HR := Lib.hid hr
  have HX := Lib.hid hx
  obtain ⟨x1, x2, x3⟩ := hx
  clear hr x3
  by_cases h1 : isS m l = true
  · have HF := Lib.hid (show code1 m l = 0 by unfold code1; rw [if_pos h1])
    go_enter Try.func76, Try.ntmps76
    go_wp2
    refine wp_loop_rounds 2 ?_
    rw [rounds_succ]
    go_wp2_with fail
    refine (IsSeries_any _ _ _ l _ hl (HR.out.below (below_one _ _))).mono ?_
    rintro e w1 ⟨rfl, hb1⟩
    have hb2 := (below_one w (.cells #[.int .i64 m, .slice A l.length c] 34)).trans (hb1.mono (by simp))
    obtain ⟨y1, y2, y3⟩ := HX.out.keep hb2
    go_wp2
    rw [rounds_succ]
    go_wp2
    refine wp_loop_rounds 2 ?_
    rw [rounds_succ]
    go_wp2
    obtain ⟨W, hW, b1, b2, hwb⟩ := var_in (m' := m) (A' := A) (n' := l.length) (c' := c) HX.out hb2
    rw [hW]
    have B1 := Lib.hid b1
    have B2 := Lib.hid b2
    have HB := Lib.hid hwb
    clear hW b1 b2 hwb hb1 hb2
    go_region_held3 (fun w' => (w'.cell? ⟨w1.heap.size, 0, none⟩ = some (.int .i64 m) ∧ w'.cell? ⟨w1.heap.size, 1, none⟩ = some (.slice A l.length c)) ∧ (w'.cell? ⟨g, 0, none⟩ = some (.int .i64 m) ∧ w'.cell? ⟨g, 1, none⟩ = some (.slice A l.length c)) ∧ Below W.heap.size W w') (first | exact box2_in B1.out B2.out (below_drew0 _) | exact box2_next B1.out B2.out (by assumption) (by assumption)) (first
      | (go_at_call 103; refine (isAlike_any _ _ _ _ _ _ _ _ _ hl hl).mono ?_; rintro e1 w2 ⟨rfl, hb3⟩))
    all_goals
      go_wp2
      rw [rounds_succ]
      go_wp2
      go_ret
      exact ⟨ret_int HF.out.symm, HB.out.trans ((box2_next B1.out B2.out (Below.refl _ _) (by assumption)).2.2.mono HB.out.size)⟩
  · have h1' : isS m l = false := by simpa using h1
    have HF := Lib.hid (show code1 m l = 1 by unfold code1; rw [if_neg h1])
    clear h1
    go_enter Try.func76, Try.ntmps76
    go_wp2
    refine wp_loop_rounds 2 ?_
    rw [rounds_succ]
    go_wp2_with (first
      | (go_at_call 102; refine (IsSeries_any _ _ _ l _ hl (HR.out.below (below_one _ _))).mono ?_; rintro e w1 ⟨rfl, hb1⟩; have hb2 := (below_one w (.cells #[.int .i64 m, .slice A l.length c] 34)).trans (hb1.mono (by simp))))
    go_ret
    exact ⟨ret_int HF.out.symm, by assumption⟩

/-- a list of two series in block g -/
def Box4 (w : World) (g : Nat) (m : Int) (A : Option Addr) (n c : Nat) (m' : Int) (A' : Option Addr) (n' c' : Nat) : Prop :=
  Box w g m A n c ∧ w.cell? ⟨g, 2, none⟩ = some (.int .i64 m') ∧ w.cell? ⟨g, 3, none⟩ = some (.slice A' n' c')
theorem Box4.keep {w w' : World} {g : Nat} {m : Int} {A : Option Addr} {n c : Nat} {m' : Int} {A' : Option Addr} {n' c' : Nat} (h : Box4 w g m A n c m' A' n' c') (hb : Below w.heap.size w w') : Box4 w' g m A n c m' A' n' c' :=
  ⟨h.1.keep hb, (hb.cell (p := ⟨g, 2, none⟩) h.1.2.2).trans h.2.1, (hb.cell (p := ⟨g, 3, none⟩) h.1.2.2).trans h.2.2⟩
theorem Box4.new (w : World) (m : Int) (A : Option Addr) (n c : Nat) (m' : Int) (A' : Option Addr) (n' c' : Nat) : Box4 (w.alloc (.cells #[.int .i64 m, .slice A n c, .int .i64 m', .slice A' n' c'] 34)) w.heap.size m A n c m' A' n' c' := by
  refine ⟨⟨?_, ?_, by simp⟩, ?_, ?_⟩ <;> rw [World.cell?_alloc_at _ _ _ _ rfl] <;> rfl

set_option maxHeartbeats 4000000 in
theorem codeOfSeries2_any (g : Nat) (m : Int) (A : Option Addr) (c : Nat) (l : List Int) (m' : Int) (A' : Option Addr) (c' : Nat) (l' : List Int) (w : World) (hl : l.length ≤ 9223372036854775807) (hl' : l'.length ≤ 9223372036854775807)
    (hr : RI w A l) (hr' : RI w A' l') (hx : Box4 w g m A l.length c m' A' l'.length c') :
    Calls Try.prog 76 #[.slice (some ⟨g, 0, none⟩) 2 2] w fun e w' => e = .returned (.int .i64 (code2 m l m' l')) ∧ Below w.heap.size w w' := by
  have HR := Lib.hid hr
  have HR' := Lib.hid hr'
  have HX := Lib.hid hx
  obtain ⟨⟨x1, x2, _⟩, x3, x4⟩ := hx
  clear hr hr'
  by_cases h1 : isS m l = true
  · by_cases h2 : isS m' l' = true
    · have hal : ∀ b : Bool, (decide (m' = m) && decide (l'.length = l.length)) = b → (code2 m l m' l' = if b then 0 else 2) := by
        intro b hb
        subst hb
        unfold code2
        rw [if_pos ⟨h1, h2⟩]
        have q1 : (m = m' ∧ l.length = l'.length) ↔ ((decide (m' = m) && decide (l'.length = l.length)) = true) := by
          rw [Bool.and_eq_true, decide_eq_true_iff, decide_eq_true_iff]
          exact ⟨fun h => ⟨h.1.symm, h.2.symm⟩, fun h => ⟨h.1.symm, h.2.symm⟩⟩
        by_cases q : m = m' ∧ l.length = l'.length
        · rw [if_pos q, q1.1 q]; rfl
        · rw [if_neg q, Bool.eq_false_iff.2 (fun h => q (q1.2 h))]; rfl
      have HAL := Lib.hid hal
      clear hal
      go_enter Try.func76, Try.ntmps76
      go_wp2
      refine wp_loop_rounds 3 ?_
      rw [rounds_succ]
      go_wp2_with fail
      refine (IsSeries_any _ _ _ l _ hl (HR.out.below (below_one _ _))).mono ?_
      rintro e w1 ⟨rfl, hb1⟩
      have hb2 := (below_one w (.cells #[.int .i64 m, .slice A l.length c] 34)).trans (hb1.mono (by simp))
      obtain ⟨⟨y1, y2, _⟩, y3, y4⟩ := HX.out.keep hb2
      go_wp2
      rw [rounds_succ]
      go_wp2_with fail
      refine (IsSeries_any _ _ _ l' _ hl' (HR'.out.below (below_alloc _ hb2))).mono ?_
      rintro e w2 ⟨rfl, hb3⟩
      have hb4 := (below_alloc (.cells #[.int .i64 m', .slice A' l'.length c'] 34) hb2).trans (hb3.mono (by have := hb2.size; simp; omega))
      clear y1 y2 y3 y4 hb1 hb2 hb3
      obtain ⟨⟨y1, y2, _⟩, y3, y4⟩ := HX.out.keep hb4
      go_wp2
      rw [rounds_succ]
      go_wp2
      refine wp_loop_rounds 3 ?_
      rw [rounds_succ]
      go_wp2
      obtain ⟨W, hW, b1, b2, hwb⟩ := var_in (m' := m) (A' := A) (n' := l.length) (c' := c) HX.out.1 hb4
      rw [hW]
      have B1 := Lib.hid b1
      have B2 := Lib.hid b2
      have HB := Lib.hid hwb
      clear hW b1 b2 hwb
      go_region_held3 (fun w' => (w'.cell? ⟨w2.heap.size, 0, none⟩ = some (.int .i64 m) ∧ w'.cell? ⟨w2.heap.size, 1, none⟩ = some (.slice A l.length c)) ∧ (w'.cell? ⟨g, 0, none⟩ = some (.int .i64 m) ∧ w'.cell? ⟨g, 1, none⟩ = some (.slice A l.length c)) ∧ Below W.heap.size W w') (first | exact box2_in B1.out B2.out (below_drew0 _) | exact box2_next B1.out B2.out (by assumption) (by assumption)) (first
        | (go_at_call 103; refine (isAlike_any _ _ _ _ _ _ _ _ _ hl hl).mono ?_; rintro e1 w3 ⟨rfl, hb5⟩))
      have hb6 : Below w.heap.size w w3 := HB.out.trans ((box2_next B1.out B2.out (Below.refl _ _) (by assumption)).2.2.mono HB.out.size)
      clear y1 y2 y3 y4
      obtain ⟨⟨y1, y2, _⟩, y3, y4⟩ := HX.out.keep hb6
      clear B1 B2 HB hb5
      go_wp2
      rw [rounds_succ]
      go_wp2
      obtain ⟨W', hW, b1, b2, hwb⟩ := var_in (m' := m') (A' := A') (n' := l'.length) (c' := c') HX.out.1 hb6
      rw [hW]
      have B1 := Lib.hid b1
      have B2 := Lib.hid b2
      have HB := Lib.hid hwb
      clear hW b1 b2 hwb
      obtain ⟨q, hq⟩ : ∃ q, (decide (m' = m) && decide (l'.length = l.length)) = q := ⟨_, rfl⟩
      have HC := Lib.hid (HAL.out q hq)
      have HQ : Hid (∀ W0 : World, Calls Try.prog 103 #[.agg #[.int .i64 m', .slice A' l'.length c'], .agg #[.int .i64 m, .slice A l.length c]] W0 fun e w' => e = .returned (.bool q) ∧ Below W0.heap.size W0 w') :=
        Lib.hid (fun W0 => by have := isAlike_any m' m A' A l'.length c' l.length c W0 hl' hl; rw [hq] at this; exact this)
      clear hq HAL
      cases q
      all_goals
        go_region_held3 (fun w' => (w'.cell? ⟨w3.heap.size, 0, none⟩ = some (.int .i64 m') ∧ w'.cell? ⟨w3.heap.size, 1, none⟩ = some (.slice A' l'.length c')) ∧ (w'.cell? ⟨g, 0, none⟩ = some (.int .i64 m) ∧ w'.cell? ⟨g, 1, none⟩ = some (.slice A l.length c)) ∧ Below W'.heap.size W' w') (first | exact box2_in B1.out B2.out (below_drew0 _) | exact box2_next B1.out B2.out (by assumption) (by assumption)) (first
          | (go_at_call 103; refine (HQ.out _).mono ?_; rintro e1 w4 ⟨rfl, hb7⟩))
        have hb8 : Below w.heap.size w w4 := HB.out.trans ((box2_next B1.out B2.out (Below.refl _ _) (by assumption)).2.2.mono HB.out.size)
        clear B1 B2 HB hb7 y1 y2 y3 y4
        go_wp2
        first
          | (go_ret; exact ⟨ret_int HC.out.symm, hb8⟩)
          | (rw [rounds_succ]; go_wp2; go_ret; exact ⟨ret_int HC.out.symm, hb8⟩)
    · have h2' : isS m' l' = false := by simpa using h2
      have HF := Lib.hid (show code2 m l m' l' = 1 by unfold code2; rw [if_neg (fun h => h2 h.2)])
      clear h2
      go_enter Try.func76, Try.ntmps76
      go_wp2
      refine wp_loop_rounds 3 ?_
      rw [rounds_succ]
      go_wp2_with fail
      refine (IsSeries_any _ _ _ l _ hl (HR.out.below (below_one _ _))).mono ?_
      rintro e w1 ⟨rfl, hb1⟩
      have hb2 := (below_one w (.cells #[.int .i64 m, .slice A l.length c] 34)).trans (hb1.mono (by simp))
      obtain ⟨⟨y1, y2, _⟩, y3, y4⟩ := HX.out.keep hb2
      go_wp2
      rw [rounds_succ]
      go_wp2_with fail
      refine (IsSeries_any _ _ _ l' _ hl' (HR'.out.below (below_alloc _ hb2))).mono ?_
      rintro e w2 ⟨rfl, hb3⟩
      have hb4 := (below_alloc (.cells #[.int .i64 m', .slice A' l'.length c'] 34) hb2).trans (hb3.mono (by have := hb2.size; simp; omega))
      go_wp2
      go_ret
      exact ⟨ret_int HF.out.symm, hb4⟩
  · have h1' : isS m l = false := by simpa using h1
    have HF := Lib.hid (show code2 m l m' l' = 1 by unfold code2; rw [if_neg (fun h => h1 h.1)])
    clear h1
    go_enter Try.func76, Try.ntmps76
    go_wp2
    refine wp_loop_rounds 3 ?_
    rw [rounds_succ]
    go_wp2_with fail
    refine (IsSeries_any _ _ _ l _ hl (HR.out.below (below_one _ _))).mono ?_
    rintro e w1 ⟨rfl, hb1⟩
    have hb2 := (below_one w (.cells #[.int .i64 m, .slice A l.length c] 34)).trans (hb1.mono (by simp))
    go_wp2
    go_ret
    exact ⟨ret_int HF.out.symm, hb2⟩
end Go.Proofs.Ytlpfifdocgljnaa

/- What a list of a series is; the model's looks at series. -/
namespace Go.Proofs.Ytlpfifdocgljnaa
open Go.RowKit Go.WideShapes Go.ChangeShapes Go.ChangeAt

/-- a list of numbers of a series: what a closure reads of it -/
theorem RI.at {w : World} {A : Option Addr} {l : List Int} (h : RI w A l) (n : Nat) (hn : n < l.length) : ∃ b off, A = some ⟨b, off, none⟩ ∧ b < w.heap.size ∧ w.cell? ⟨b, off + n, none⟩ = some (.int .i64 (Ser.co l n)) := by
  obtain ⟨b, off, e, hlt, hc⟩ := h (by rintro rfl; simp at hn)
  exact ⟨b, off, e, hlt, hc n hn⟩

theorem degree_nat (m : Int) (A : Option Addr) (n c d : Nat) (w : World) (hn : n = d + 1) (hd : d ≤ 1000) :
    Calls Try.prog 69 #[.agg #[.int .i64 m, .slice A n c]] w fun e w' => e = .returned (.int .i64 (d : Int)) ∧ Below w.heap.size w w' :=
  (degree_any m A n c w (by omega)).mono fun e w' ⟨h1, h2⟩ => ⟨by rw [h1, show (n : Int) - 1 = (d : Int) by omega], h2⟩

/-- the world behind a box, a result's variable and the list of the one series -/
theorem pro0 (w : World) (m : Int) (A : Option Addr) (n c : Nat) : ∃ W, (w.alloc (.cells #[.int .i64 m, .slice A n c] 34)).alloc (.cells #[.int .i64 m, .slice A n c] 34) = W ∧ Box W w.heap.size m A n c ∧ Box W (w.heap.size + 1) m A n c ∧ Below w.heap.size w W :=
  ⟨_, rfl, box2_new w m m A A n c n c _ rfl⟩
theorem spro1 (w : World) (m : Int) (A : Option Addr) (n c : Nat) : ∃ W, (w.alloc (.cells #[.int .i64 m, .slice A n c] 34)).alloc (.cells #[.int .i64 0, .slice none 0 0] 34) = W ∧
    Box W w.heap.size m A n c ∧ Var2 W (w.heap.size + 1) (.int .i64 0) (.slice none 0 0) ∧ Below w.heap.size w W := by
  refine ⟨_, rfl, (Box.new w m A n c).keep (below_one _ _), ?_, below_alloc _ (below_one _ _)⟩
  have := Var2.new (w.alloc (.cells #[.int .i64 m, .slice A n c] 34)) (.int .i64 0) (.slice none 0 0)
  simpa using this
theorem pro1 (w : World) (m : Int) (A : Option Addr) (n c : Nat) : ∃ W, ((w.alloc (.cells #[.int .i64 m, .slice A n c] 34)).alloc (.cells #[.int .i64 0, .slice none 0 0] 34)).alloc (.cells #[.int .i64 m, .slice A n c] 34) = W ∧
    Box W w.heap.size m A n c ∧ Var2 W (w.heap.size + 1) (.int .i64 0) (.slice none 0 0) ∧ Box W (w.heap.size + 1 + 1) m A n c ∧ Below w.heap.size w W := by
  obtain ⟨W0, hW0, h1, h2, h3⟩ := spro1 w m A n c
  have hs : W0.heap.size = w.heap.size + 1 + 1 := by rw [← hW0]; simp
  rw [hW0]
  refine ⟨_, rfl, h1.keep (below_one _ _), h2.keep (below_one _ _), ?_, below_alloc _ h3⟩
  rw [← hs]
  exact Box.new _ _ _ _ _
theorem code1_zero {m : Int} {l : List Int} (h : code1 m l = 0) : isS m l = true := by
  unfold code1 at h
  by_cases h1 : isS m l = true
  · exact h1
  · rw [if_neg h1] at h; exact absurd h (by decide)
theorem code1_isS {m : Int} {l : List Int} (h : isS m l = true) : code1 m l = 0 := by unfold code1; rw [if_pos h]
theorem code1_no {m : Int} {l : List Int} (h : isS m l = false) : code1 m l = 1 := by unfold code1; rw [h]; rfl
theorem ret_i2 {a b c d : Int} (h : a = c) (k : b = d) : Ending.returned (.tuple #[.int .i64 a, .int .i64 b]) = .returned (.tuple #[.int .i64 c, .int .i64 d]) := by rw [h, k]

/-- m and l are a series of degree d -/
structure SerOk (m : Int) (d : Nat) (l : List Int) : Prop where
  m1 : 2 ≤ m
  m2 : m ≤ 10000
  d1 : 1 ≤ d
  d2 : d ≤ 10
  len : l.length = d + 1
  red : Ser.Red m l
theorem SerOk.cut {m : Int} {d : Nat} {l : List Int} (h : SerOk m d l) (f : Nat → Int) : SerOk m d (Ser.cut m d f) :=
  ⟨h.m1, h.m2, h.d1, h.d2, Ser.cut_length _ _ _, Ser.cut_red (by have := h.m1; omega) _ _⟩

theorem serOk_of {m : Int} {l : List Int} (h : isS m l = true) : ∃ d, l.length = d + 1 ∧ SerOk m d l := by
  obtain ⟨h1, h2, h3⟩ := isS_iff h
  obtain ⟨d, hd⟩ : ∃ d, l.length = d + 1 := ⟨l.length - 1, by omega⟩
  unfold codeN at h3
  by_cases hm : isM m = true
  · rw [if_pos hm] at h3
    obtain ⟨m1, m2⟩ := (isM_iff m).1 hm
    by_cases ha : allIn 0 (m - 1) l = true
    · refine ⟨d, hd, m1, m2, by omega, by omega, hd, fun i => ?_⟩
      by_cases hi : i < l.length
      · have := List.all_eq_true.1 ha _ (List.getElem_mem hi)
        have := (inB_iff _ _ _).1 this
        unfold Ser.co
        rw [List.getElem?_eq_getElem hi]
        simp only [Option.getD_some]
        omega
      · rw [Ser.co_over (by omega)]; omega
    · rw [if_neg ha] at h3; exact absurd h3 (by decide)
  · rw [if_neg hm] at h3; exact absurd h3 (by decide)
theorem isS_spec (m : Int) (l : List Int) : isS m l = (isM m && inB (l.length : Int) 2 11 && allIn 0 (m - 1) l) := by
  unfold isS codeN
  have e : inB ((l.length : Int) - 1) 1 10 = inB (l.length : Int) 2 11 := by
    rw [Bool.eq_iff_iff, inB_iff, inB_iff]; omega
  rw [e]
  by_cases hm : isM m = true
  · by_cases ha : allIn 0 (m - 1) l = true
    · rw [if_pos hm, if_pos ha, hm, ha]; simp
    · rw [if_pos hm, if_neg ha, hm, Bool.eq_false_iff.2 ha]; simp
  · rw [if_neg hm, Bool.eq_false_iff.2 hm]; simp

set_option maxHeartbeats 1000000 in
theorem l02Is_any (m : Int) (A : Option Addr) (c : Nat) (l : List Int) (w : World) (hl : l.length ≤ 9223372036854775807) (hr : RI w A l) :
    Calls Try.prog 39 #[.agg #[.int .i64 m, .slice A l.length c]] w fun e w' => e = .returned (.bool (isS m l)) ∧ Below w.heap.size w w' := by
  have HR := Lib.hid (hr.below (below_one w (.cells #[.int .i64 m, .slice A l.length c] 34)))
  clear hr
  have HE := Lib.hid (isS_spec m l)
  by_cases hm : isM m = true
  · obtain ⟨hm2, hm3⟩ := (isM_iff m).1 hm
    by_cases hi : inB (l.length : Int) 2 11 = true
    · go_enter Try.func39, Try.ntmps39
      go_wp2_with (first
        | (go_at_call 50; refine (l01Modulus_any _ _).mono ?_; rintro e w' ⟨rfl, rfl⟩)
        | (go_at_call 51; refine (l01In_any _ _ _ _).mono ?_; rintro e w' ⟨rfl, rfl⟩)
        | (go_at_call 72; refine (l01Numbers_any _ _ _ _ _ hm2 hm3 hl HR.out).mono ?_; rintro e w' ⟨rfl, rfl⟩))
      go_ret
      exact ⟨ret_bool (by rw [HE.out, hm, hi]; rfl), below_one _ _⟩
    · have hi' : inB (l.length : Int) 2 11 = false := by simpa using hi
      clear hi
      go_enter Try.func39, Try.ntmps39
      go_wp2_with (first
        | (go_at_call 50; refine (l01Modulus_any _ _).mono ?_; rintro e w' ⟨rfl, rfl⟩)
        | (go_at_call 51; refine (l01In_any _ _ _ _).mono ?_; rintro e w' ⟨rfl, rfl⟩))
      go_ret
      exact ⟨ret_bool (by rw [HE.out, hi']; simp), below_one _ _⟩
  · have hm' : isM m = false := by simpa using hm
    clear hm
    go_enter Try.func39, Try.ntmps39
    go_wp2_with (first
      | (go_at_call 50; refine (l01Modulus_any _ _).mono ?_; rintro e w' ⟨rfl, rfl⟩))
    go_ret
    exact ⟨ret_bool (by rw [HE.out, hm']; simp), below_one _ _⟩

theorem take_cut_len (m : Int) (d : Nat) (f : Nat → Int) (k : Nat) : ((Ser.cut m d f).take k).length ≤ d + 1 := by
  rw [List.length_take, Ser.cut_length]; omega
theorem OwnI.empty (w : World) : OwnI (w.alloc (.cells #[] 2)) w.heap.size (.slice (some ⟨w.heap.size, 0, none⟩) 0 0) [] :=
  ⟨rfl, .inr ⟨w.heap.size, 0, #[], rfl, Nat.le_refl _, heap_alloc_new w _, Nat.le_refl _, Nat.zero_le _, rfl, rfl⟩⟩
end Go.Proofs.Ytlpfifdocgljnaa

/- Lists of lists of integers that are read, and those that a call makes itself, row by row. -/
namespace Go.Proofs.Ytlpfifdocgljnaa
open Go.RowKit Go.WideShapes Go.ChangeShapes Go.ChangeAt

theorem OwnI.capP {w : World} {base n c : Nat} {A : Option Addr} {l : List Int} (h : OwnI w base (.slice A n c) l) : l.length ≤ c := by
  unfold OwnI at h
  rcases h.2 with ⟨hv, h0⟩ | ⟨g, cap, cur, hv, _, _, h1, _⟩
  · omega
  · injection hv with e1 e2 e3
    omega

/-- the slice of slices at A holds the rows -/
def RP (w : World) (A : Option Addr) (t : List (List Int)) : Prop :=
  t ≠ [] → ∃ b off, A = some ⟨b, off, none⟩ ∧ b < w.heap.size ∧ ∀ k, k < t.length → ∃ A' c', w.cell? ⟨b, off + k, none⟩ = some (.slice A' (Pl.rw' t k).length c') ∧ (Pl.rw' t k).length ≤ c' ∧ RI w A' (Pl.rw' t k)
theorem RP.below {w w' : World} {A : Option Addr} {t : List (List Int)} (h : RP w A t) (hb : Below w.heap.size w w') : RP w' A t := by
  intro hl
  obtain ⟨b, off, e, hlt, hc⟩ := h hl
  refine ⟨b, off, e, Nat.lt_of_lt_of_le hlt hb.size, fun k hk => ?_⟩
  obtain ⟨A', c', h1, h2, h3⟩ := hc k hk
  exact ⟨A', c', (hb.cell (p := ⟨b, off + k, none⟩) hlt).trans h1, h2, h3.below hb⟩
theorem RP.at {w : World} {A : Option Addr} {t : List (List Int)} (h : RP w A t) (k : Nat) (hk : k < t.length) :
    ∃ b off A' c', A = some ⟨b, off, none⟩ ∧ b < w.heap.size ∧ w.cell? ⟨b, off + k, none⟩ = some (.slice A' (Pl.rw' t k).length c') ∧ (Pl.rw' t k).length ≤ c' ∧ RI w A' (Pl.rw' t k) := by
  obtain ⟨b, off, e, hlt, hc⟩ := h (by rintro rfl; simp at hk)
  obtain ⟨A', c', h1, h2, h3⟩ := hc k hk
  exact ⟨b, off, A', c', e, hlt, h1, h2, h3⟩
/-- one number of it -/
theorem RP.num {w : World} {A : Option Addr} {t : List (List Int)} (h : RP w A t) (i j : Nat) (hi : i < t.length) (hj : j < (Pl.rw' t i).length) :
    ∃ b off b' off' c', A = some ⟨b, off, none⟩ ∧ b < w.heap.size ∧ w.cell? ⟨b, off + i, none⟩ = some (.slice (some ⟨b', off', none⟩) (Pl.rw' t i).length c') ∧ b' < w.heap.size ∧ w.cell? ⟨b', off' + j, none⟩ = some (.int .i64 (Pl.pc t i j)) := by
  obtain ⟨b, off, A', c', e, hlt, h1, _, h3⟩ := h.at i hi
  obtain ⟨b', off', rfl, h4, h5⟩ := h3.at j hj
  exact ⟨b, off, b', off', c', e, hlt, h1, h4, h5⟩
theorem OwnR.rp {w : World} {lo hi n c : Nat} {A : Option Addr} {t : List (List Int)} (h : OwnR w lo hi (.slice A n c) t) : RP w A t := by
  intro ht
  obtain ⟨A0, c0, e, hr⟩ := h.read
  injection e with e1 e2 e3
  subst e1
  obtain ⟨g, hA, hg, _, _, hrow⟩ := hr ht
  refine ⟨g, 0, hA, hg, fun k hk => ?_⟩
  obtain ⟨A', c', h1, h2, _⟩ := hrow k hk
  exact ⟨A', c', by rw [Nat.zero_add]; exact h1, h2.capP, h2.ri⟩
theorem OwnR.len {w : World} {lo hi : Nat} {v : Value} {t : List (List Int)} (h : OwnR w lo hi v t) : ∃ A c, v = .slice A t.length c ∧ RP w A t := by
  obtain ⟨A0, c0, rfl, hr⟩ := h.read
  exact ⟨A0, c0, rfl, h.rp⟩

theorem OwnR.low {w : World} {lo lo' hi : Nat} {v : Value} {t : List (List Int)} (h : OwnR w lo hi v t) (hh : lo' ≤ lo) : OwnR w lo' hi v t := by
  obtain ⟨vs, h1, h2, h3, h4⟩ := h
  refine ⟨vs, ⟨h1.1, ?_⟩, h2, fun i r hr => ?_, h4⟩
  · rcases h1.2 with hn | ⟨g, cap, cur, hv, hg, rest⟩
    · exact .inl hn
    · exact .inr ⟨g, cap, cur, hv, Nat.le_trans hh hg, rest⟩
  · obtain ⟨u, a, b, c⟩ := h3 i r hr
    exact ⟨u, a, b.more hh, c⟩
theorem OwnR.openv {w : World} {lo hi : Nat} {v : Value} {t : List (List Int)} (h : OwnR w lo hi v t) (ht : 0 < t.length) : ∃ g c, v = .slice (some ⟨g, 0, none⟩) t.length c := by
  obtain ⟨g, c, _, _, e, _⟩ := h.row 0 ht
  exact ⟨g, c, e⟩
/-- a new slice of empty slices -/
theorem OwnR.made (w : World) (n : Nat) (hn : n ≤ maxLen) : OwnR (w.alloc (.cells (madeCells #[Value.slice none 0 0] n) 25)) w.heap.size (w.heap.size + 1) (.slice (some ⟨w.heap.size, 0, none⟩) n n) (List.replicate n []) := by
  have key : ∀ (i : Nat) (u : Value), (List.replicate n (Value.slice none 0 0))[i]? = some u → u = Value.slice none 0 0 := by
    intro i u hu
    rw [List.getElem?_replicate] at hu
    split at hu <;> simp at hu
    exact hu.symm
  refine ⟨List.replicate n (Value.slice none 0 0), ?_, ?_, ?_, ?_⟩
  · rw [List.length_replicate]
    have := World.ownsRow_lit (base := w.heap.size) (e := 25) (size := 1) w (madeCells #[Value.slice none 0 0] n) n (Nat.le_refl _) hn (by rw [size_madeCells]; omega)
    rwa [toList_madeCells_one] at this
  · intro g hg
    have : g = w.heap.size := by simpa [Value.ownBlock] using hg.symm
    omega
  · intro i r hr
    rw [List.getElem?_replicate] at hr
    split at hr
    · rename_i hi
      injection hr with hr
      subst hr
      exact ⟨.slice none 0 0, by rw [List.getElem?_replicate, if_pos hi], OwnI.nil _ _, fun g hg => by simp [Value.ownBlock] at hg⟩
    · exact absurd hr (by simp)
  · intro i j u u' _ hu _
    left
    rw [key i u hu]; rfl
theorem OwnR.cell {w : World} {lo hi g n c : Nat} {t : List (List Int)} (h : OwnR w lo hi (.slice (some ⟨g, 0, none⟩) n c) t) (i : Nat) (hi' : i < t.length) :
    lo ≤ g ∧ g < hi ∧ g < w.heap.size ∧ w.frozen? ⟨g, i, none⟩ = false ∧ ∃ A' c', w.cell? ⟨g, i, none⟩ = some (.slice A' (Pl.rw' t i).length c') ∧ OwnI w lo (.slice A' (Pl.rw' t i).length c') (Pl.rw' t i) ∧
      (∀ b, (Value.slice A' (Pl.rw' t i).length c').ownBlock = some b → b < hi) ∧ (∀ vs : List Value, w.ownsRow lo 25 1 (.slice (some ⟨g, 0, none⟩) t.length c) t.length vs → vs[i]? = some (.slice A' (Pl.rw' t i).length c')) := by
  have hn : n = t.length := by
    obtain ⟨A0, c0, e, _⟩ := h.read
    injection e
  subst hn
  obtain ⟨g0, c0, A', c', e, hg, h1, h2, h3, h4⟩ := h.row i hi'
  injection e with e1 e2 e3
  injection e1 with e1
  injection e1 with e1
  subst e1 e3
  obtain ⟨vs, k1, k2, _⟩ := h
  exact ⟨(World.ownsRow.lt k1 g rfl).1, k2 g rfl, hg, World.ownsRow.frozenAt k1 i, A', c', h1, h3, h4, h2⟩
/-- a new row is stored -/
theorem OwnR.put {w : World} {lo hi hi' g n c : Nat} {t : List (List Int)} (h : OwnR w lo hi (.slice (some ⟨g, 0, none⟩) n c) t) (i : Nat) (hi1 : i < t.length) (u : Value) (r : List Int)
    (hu : OwnI w lo u r) (hb : ∀ b, u.ownBlock = some b → hi ≤ b ∧ b < hi') (hh : hi ≤ hi') : OwnR (w.setCell ⟨g, i, none⟩ u) lo hi' (.slice (some ⟨g, 0, none⟩) n c) (t.set i r) := by
  have hn : n = t.length := by
    obtain ⟨A0, c0, e, _⟩ := h.read
    injection e
  subst hn
  obtain ⟨vs, h1, h2, h3, h4⟩ := h
  have hl : vs.length = t.length := by have := h1.1; omega
  obtain ⟨k1, k2⟩ := World.ownsRow.stored h1 i u
  have keepI : ∀ (u0 : Value) (l : List Int), OwnI w lo u0 l → OwnI (w.setCell ⟨g, i, none⟩ u) lo u0 l := fun u0 l ho => ho.other (grown_setCell w g i u) (ne_types h1 ho)
  refine ⟨vs.set i u, by rw [List.length_set]; exact k1, fun b hb' => Nat.lt_of_lt_of_le (h2 b hb') hh, fun j r' hr => ?_, fun j k x y hjk hx hy => ?_⟩
  · rw [List.getElem?_set] at hr
    by_cases hij : i = j
    · subst hij
      rw [if_pos rfl, if_pos hi1] at hr
      injection hr with hr
      subst hr
      exact ⟨u, by rw [List.getElem?_set, if_pos rfl, if_pos (by omega)], keepI u r hu, fun b hb' => (hb b hb').2⟩
    · rw [if_neg hij] at hr
      obtain ⟨u1, a1, a2, a3⟩ := h3 j r' hr
      exact ⟨u1, by rw [List.getElem?_set, if_neg hij]; exact a1, keepI u1 r' a2, fun b hb' => Nat.lt_of_lt_of_le (a3 b hb') hh⟩
  · have hblk : ∀ (q : Nat) (z : Value), vs[q]? = some z → ∀ b, z.ownBlock = some b → b < hi := by
      intro q z hz b hb'
      have hq := (List.getElem?_eq_some_iff.1 hz).1
      obtain ⟨z', a1, _, a3⟩ := h3 q _ (List.getElem?_eq_getElem (show q < t.length by omega))
      rw [hz] at a1
      injection a1 with a1
      subst a1
      exact a3 b hb'
    rw [List.getElem?_set] at hx hy
    by_cases hij : i = j
    · subst hij
      rw [if_pos rfl, if_pos (by omega)] at hx
      injection hx with hx
      subst hx
      rw [if_neg (by omega)] at hy
      rcases hc : u.ownBlock with _ | b
      · exact .inl rfl
      · refine .inr fun e => ?_
        have p1 := (hb b hc).1
        have p2 := hblk k y hy b e.symm
        omega
    · rw [if_neg hij] at hx
      by_cases hik : i = k
      · subst hik
        rw [if_pos rfl, if_pos (by omega)] at hy
        injection hy with hy
        subst hy
        rcases hc : x.ownBlock with _ | b
        · exact .inl rfl
        · refine .inr fun e => ?_
          have p1 := (hb b e.symm).1
          have p2 := hblk j x hx b hc
          omega
      · rw [if_neg hik] at hy
        exact h4 j k x y hjk hx hy
/-- one number of row i is written -/
theorem OwnR.num {w : World} {lo hi n c : Nat} {g : Nat} {t : List (List Int)} (h : OwnR w lo hi (.slice (some ⟨g, 0, none⟩) n c) t) (i j : Nat) (hi1 : i < t.length) (hj : j < (Pl.rw' t i).length) :
    ∃ b c', w.cell? ⟨g, i, none⟩ = some (.slice (some ⟨b, 0, none⟩) (Pl.rw' t i).length c') ∧ lo ≤ b ∧ b < hi ∧ b < w.heap.size ∧ w.cell? ⟨b, j, none⟩ = some (.int .i64 (Pl.pc t i j)) ∧ w.frozen? ⟨b, j, none⟩ = false ∧
      ∀ y, OwnR (w.setCell ⟨b, j, none⟩ (.int .i64 y)) lo hi (.slice (some ⟨g, 0, none⟩) n c) (t.set i ((Pl.rw' t i).set j y)) := by
  have hn : n = t.length := by
    obtain ⟨A0, c0, e, _⟩ := h.read
    injection e
  subst hn
  obtain ⟨_, _, _, _, A', c', h1, h2, h3, h4⟩ := h.cell i hi1
  obtain ⟨b, cb, e⟩ := h2.openv (by intro e; rw [e] at hj; simp at hj)
  injection e with e1 e2 e3
  subst e1 e3
  obtain ⟨o1, o2, o3, o4⟩ := h2.cells
  refine ⟨b, c', h1, o1, h3 b rfl, o2, o3 j hj, o4 j, fun y => ?_⟩
  exact h.setRow i _ h4 hi1 (grown_setCell w b j (.int .i64 y)) (h2.set j y)

/-- the same in whatever world comes of this one by new blocks -/
theorem OwnR.numB {w : World} {lo hi n c : Nat} {g : Nat} {t : List (List Int)} (h : OwnR w lo hi (.slice (some ⟨g, 0, none⟩) n c) t) (i j L : Nat) (hi1 : i < t.length) (hL : (Pl.rw' t i).length = L) (hj : j < L) :
    ∃ b c', g < hi ∧ lo ≤ b ∧ b < hi ∧ b ≠ g ∧ ∀ W, Below hi w W → W.cell? ⟨g, i, none⟩ = some (.slice (some ⟨b, 0, none⟩) L c') ∧ W.cell? ⟨b, j, none⟩ = some (.int .i64 (Pl.pc t i j)) ∧ W.frozen? ⟨b, j, none⟩ = false ∧
      ∀ y, OwnR (W.setCell ⟨b, j, none⟩ (.int .i64 y)) lo hi (.slice (some ⟨g, 0, none⟩) n c) (t.set i ((Pl.rw' t i).set j y)) := by
  subst hL
  obtain ⟨b, c', k1, k2, k3, _⟩ := h.num i j hi1 hj
  have hg := (h.cell i hi1).2.1
  have hbg : b ≠ g := by
    rintro rfl
    obtain ⟨_, _, _, _, A', c2, p1, p2, _⟩ := h.cell i hi1
    rw [k1] at p1
    injection p1 with p1
    injection p1 with p1 p1b p1c
    subst p1
    obtain ⟨vs, q1, _⟩ := h
    rcases ne_types q1 p2 with e | e
    · simp [Value.ownBlock] at e
    · simp [Value.ownBlock] at e
  refine ⟨b, c', hg, k2, k3, hbg, fun W hb => ?_⟩
  obtain ⟨b', c'', l1, _, _, _, l2, l3, l4⟩ := (h.keep hb).num i j hi1 hj
  have e := (hb.cell (p := ⟨g, i, none⟩) hg).trans k1
  rw [l1] at e
  injection e with e
  injection e with e1 e2 e3
  injection e1 with e1
  injection e1 with e1
  subst e1 e3
  exact ⟨l1, l2, l3, l4⟩

/-- block g holds a variable of several cells -/
def VarC (t : TypeId) (w : World) (g : Nat) (cs : Array Value) : Prop := w.heap[g]? = some (.cells cs t (0, 0))
theorem VarC.new (t : TypeId) (w : World) (cs : Array Value) : VarC t (w.alloc (.cells cs t)) w.heap.size cs := heap_alloc_new w _
theorem VarC.lt {t : TypeId} {w : World} {g : Nat} {cs : Array Value} (h : VarC t w g cs) : g < w.heap.size := (Array.getElem?_eq_some_iff.1 h).1
theorem VarC.keep {t : TypeId} {w w' : World} {g : Nat} {cs : Array Value} (h : VarC t w g cs) (hb : Below w.heap.size w w') : VarC t w' g cs := (hb.block g h.lt).trans h
theorem VarC.other {t : TypeId} {w w' : World} {g : Nat} {cs : Array Value} {r : Option Nat} (h : VarC t w g cs) (hg : w.grownBy w' r) (hne : r ≠ some g) : VarC t w' g cs := (hg.block g h.lt (fun e => hne e.symm)).trans h
theorem VarC.far {t : TypeId} {w : World} {g : Nat} {cs : Array Value} (h : VarC t w g cs) (b i : Nat) (u : Value) (hne : b ≠ g) : VarC t (w.setCell ⟨b, i, none⟩ u) g cs :=
  (Below.heap_setCell w ⟨b, i, none⟩ u g (fun e => hne e.symm)).trans h
theorem VarC.cell {t : TypeId} {w : World} {g : Nat} {cs : Array Value} (h : VarC t w g cs) (k : Nat) (x : Value) (hk : cs[k]? = some x) : w.cell? ⟨g, k, none⟩ = some x := by
  unfold VarC at h
  simp [World.cell?, h, hk]
theorem VarC.fz {t : TypeId} {w : World} {g : Nat} {cs : Array Value} (h : VarC t w g cs) (k : Nat) : w.frozen? ⟨g, k, none⟩ = false := by
  unfold VarC at h
  simp [World.frozen?, h]
theorem VarC.set {t : TypeId} {w : World} {g : Nat} {cs : Array Value} (h : VarC t w g cs) (k : Nat) (u : Value) : VarC t (w.setCell ⟨g, k, none⟩ u) g (cs.setIfInBounds k u) := by
  unfold VarC at h ⊢
  simp [World.setCell, Array.getElem?_modify, h]
theorem VarC.drew {t : TypeId} {w : World} {g : Nat} {cs : Array Value} (h : VarC t w g cs) : VarC t w.drew g cs := h
end Go.Proofs.Ytlpfifdocgljnaa

/- Contracts of the exact laws' helpers on planes: size, copying, comparing, marking, looking at the marks. -/
namespace Go.Proofs.Ytlpfifdocgljnaa
open Go.RowKit Go.WideShapes Go.ChangeShapes Go.ChangeAt

/-- the slice of slices at A, wherever they begin, holds the rows -/
def RQ (w : World) (A : Option Addr) (t : List (List Int)) : Prop :=
  t ≠ [] → ∃ ad : Addr, A = some ad ∧ ad.block < w.heap.size ∧ ∀ k, k < t.length → ∃ A' c', w.cell? (ad.add k) = some (.slice A' (Pl.rw' t k).length c') ∧ RA w A' (Pl.rw' t k)
theorem RQ.below {w w' : World} {A : Option Addr} {t : List (List Int)} (h : RQ w A t) (hb : Below w.heap.size w w') : RQ w' A t := by
  intro hl
  obtain ⟨ad, e, hlt, hc⟩ := h hl
  refine ⟨ad, e, Nat.lt_of_lt_of_le hlt hb.size, fun k hk => ?_⟩
  obtain ⟨A', c', h1, h3⟩ := hc k hk
  exact ⟨A', c', (hb.cell (p := ad.add k) (by rw [add_block]; exact hlt)).trans h1, h3.below hb⟩
theorem RQ.at {w : World} {A : Option Addr} {t : List (List Int)} (h : RQ w A t) (k : Nat) (hk : k < t.length) :
    ∃ (ad : Addr) (A' : Option Addr) (c' : Nat), A = some ad ∧ ad.block < w.heap.size ∧ w.cell? (ad.add k) = some (.slice A' (Pl.rw' t k).length c') ∧ RA w A' (Pl.rw' t k) := by
  obtain ⟨ad, e, hlt, hc⟩ := h (by rintro rfl; simp at hk)
  obtain ⟨A', c', h1, h3⟩ := hc k hk
  exact ⟨ad, A', c', e, hlt, h1, h3⟩

theorem take_tot (t : List (List Int)) (j : Nat) (h : j < t.length) : tot (t.take (j + 1)) = tot (t.take j) + (Pl.rw' t j).length := take_succ_tot t j h
/-- how many elements a table has on both levels -/
def szT (t : List (List Int)) : Nat := t.length + tot t
theorem tot_row (t : List (List Int)) (k : Nat) : (Pl.rw' t k).length ≤ tot t := by
  by_cases hk : k < t.length
  · have h1 := take_tot t k hk
    have h2 := tot_take_le t (k + 1)
    omega
  · rw [Pl.rw_over (by omega)]; exact Nat.zero_le _

set_option maxHeartbeats 1000000 in
theorem szInt64SS_any (A : Option Addr) (c : Nat) (t : List (List Int)) (left : Int) (w : World) (h1 : 0 ≤ left) (h2 : left ≤ 1048576) (hq : RQ w A t) (hl : t.length ≤ 9223372036854775807) (hrl : ∀ k, (Pl.rw' t k).length ≤ 9223372036854775807) :
    Calls Try.prog 24 #[.slice A t.length c, .int .i64 left] w fun e w' => e = .returned (.int .i64 (if ((szT t : Nat) : Int) ≤ left then left - (szT t : Nat) else -1)) ∧ w = w' := by
  obtain ⟨R, hR⟩ : ∃ R, (if ((szT t : Nat) : Int) ≤ left then left - (szT t : Nat) else -1) = R := ⟨_, rfl⟩
  rw [hR]
  have HRR := Lib.hid hR
  clear hR
  by_cases hz : (t.length : Int) ≤ left
  · have HR := Lib.hid hrl
    clear hrl
    go_enter Try.func24, Try.ntmps24
    go_wp2
    go_loop [5, 1] (fun i m => ∃ k : Nat, k ≤ t.length ∧ i = .int .i64 k ∧ m = .int .i64 (left - t.length - tot (t.take k)) ∧ 0 ≤ left - t.length - tot (t.take k)) (fun i _ => t.length - (intOf i).toNat)
    case atStart => exact ⟨0, Nat.zero_le _, rfl, by simp [tot], by simp [tot]; omega⟩
    case round =>
      obtain ⟨k, hk, rfl, rfl, hnn⟩ := hrel
      by_cases hlt : k < t.length
      · obtain ⟨ad, A', c', rfl, hb, hc, -⟩ := hq.at k hlt
        have hT := take_tot t k hlt
        have hT2 := tot_take_le t (k + 1)
        have hr := HR.out k
        obtain ⟨n, hn⟩ : ∃ n, (Pl.rw' t k).length = n := ⟨_, rfl⟩
        obtain ⟨T, hTT⟩ : ∃ T, tot (t.take k) = T := ⟨_, rfl⟩
        obtain ⟨T2, hTT2⟩ : ∃ T, tot (t.take (k + 1)) = T := ⟨_, rfl⟩
        rw [hn] at hc hT hr
        rw [hTT] at hT hnn ⊢
        rw [hTT2] at hT hT2
        have HTT2 := Lib.hid hTT2
        have HT := Lib.hid hT
        have HT2 := Lib.hid hT2
        have hj0 : (0 : Int) ≤ (k : Int) := by omega
        have hj1 : (k : Int) < (t.length : Int) := by omega
        have HS := Lib.hid (fun W => szInt64S_any A' n c' (left - t.length - T) W hnn (by omega) hr)
        by_cases hfit : (n : Int) ≤ left - t.length - T
        · rw [if_pos hfit] at HS
          clear hn hTT hTT2 hT hT2 hq
          go_wp2_with (go_at_call 25; refine (HS.out _).mono ?_; rintro e w2 ⟨rfl, rfl⟩)
          go_round
          case rel => exact ⟨k + 1, by omega, by go_num, by have := HT.out; rw [HTT2.out, this]; congr 1; push_cast; omega, by have := HT.out; rw [HTT2.out, this]; push_cast; omega⟩
          case measure => simp only [intOf]; omega
        · rw [if_neg hfit] at HS
          have hno : ¬ ((szT t : Nat) : Int) ≤ left := by unfold szT; omega
          have HNO := Lib.hid (show R = -1 by rw [← HRR.out, if_neg hno])
          clear hn hTT hTT2 hT hT2 hq hno
          go_wp2_with (go_at_call 25; refine (HS.out _).mono ?_; rintro e w2 ⟨rfl, rfl⟩)
          go_ret
          exact ⟨ret_int HNO.out.symm, rfl⟩
      · obtain rfl : k = t.length := by omega
        have hyes : ((szT t : Nat) : Int) ≤ left := by unfold szT; rw [List.take_length] at hnn; push_cast; omega
        have HY := Lib.hid (show R = left - t.length - tot (t.take t.length) by rw [← HRR.out, if_pos hyes, List.take_length]; unfold szT; push_cast; omega)
        clear hyes
        go_wp2
        go_ret
        exact ⟨ret_int (by have := HY.out; rw [List.take_length] at this; exact this.symm), rfl⟩
  · have hno : ¬ ((szT t : Nat) : Int) ≤ left := by unfold szT; omega
    have HNO := Lib.hid (show R = -1 by rw [← HRR.out, if_neg hno])
    clear hno
    go_enter Try.func24, Try.ntmps24
    go_wp2
    go_ret
    exact ⟨ret_int HNO.out.symm, rfl⟩
theorem szPlane_any (m : Int) (A : Option Addr) (c : Nat) (t : List (List Int)) (left : Int) (w : World) (h1 : 0 ≤ left) (h2 : left ≤ 1048576) (hq : RQ w A t) (hl : t.length ≤ 9223372036854775807) (hrl : ∀ k, (Pl.rw' t k).length ≤ 9223372036854775807) :
    Calls Try.prog 7 #[.agg #[.int .i64 m, .slice A t.length c], .int .i64 left] w fun e w' => e = .returned (.int .i64 (if ((szT t : Nat) : Int) ≤ left then left - (szT t : Nat) else -1)) ∧ Below w.heap.size w w' := by
  have hsz := fun W (h : Below w.heap.size w W) => szInt64SS_any A c t left W h1 h2 (hq.below h) hl hrl
  by_cases h : ((szT t : Nat) : Int) ≤ left
  · rw [if_pos h] at hsz ⊢
    have HS := Lib.hid hsz
    clear hsz
    go_enter Try.func7, Try.ntmps7
    go_wp2_with (go_at_call 24; refine (HS.out _ (below_one _ _)).mono ?_; rintro e w' ⟨rfl, rfl⟩)
    go_ret
    exact ⟨rfl, below_one _ _⟩
  · rw [if_neg h] at hsz ⊢
    have HS := Lib.hid hsz
    clear hsz
    go_enter Try.func7, Try.ntmps7
    go_wp2_with (go_at_call 24; refine (HS.out _ (below_one _ _)).mono ?_; rintro e w' ⟨rfl, rfl⟩)
    go_ret
    exact ⟨rfl, below_one _ _⟩
theorem szPlane_ok (m : Int) (A : Option Addr) (c : Nat) (t : List (List Int)) (left : Int) (w : World) (h : ((szT t : Nat) : Int) ≤ left) (h2 : left ≤ 1048576) (hq : RQ w A t) :
    Calls Try.prog 7 #[.agg #[.int .i64 m, .slice A t.length c], .int .i64 left] w fun e w' => e = .returned (.int .i64 (left - (szT t : Nat))) ∧ Below w.heap.size w w' := by
  have := szPlane_any m A c t left w (by omega) h2 hq (by unfold szT at h; omega) (fun k => by have := tot_row t k; unfold szT at h; omega)
  rwa [if_pos h] at this
theorem szPlane_no (m : Int) (A : Option Addr) (c : Nat) (t : List (List Int)) (left : Int) (w : World) (h : ¬ ((szT t : Nat) : Int) ≤ left) (h1 : 0 ≤ left) (h2 : left ≤ 1048576) (hq : RQ w A t) (hl : t.length ≤ 9223372036854775807) (hrl : ∀ k, (Pl.rw' t k).length ≤ 9223372036854775807) :
    Calls Try.prog 7 #[.agg #[.int .i64 m, .slice A t.length c], .int .i64 left] w fun e w' => e = .returned (.int .i64 (-1)) ∧ Below w.heap.size w w' := by
  have := szPlane_any m A c t left w h1 h2 hq hl hrl
  rwa [if_neg h] at this

theorem rows_step (t : List (List Int)) (k : Nat) (h : k < t.length) : (t.take k ++ List.replicate (t.length - k) []).set k (Pl.rw' t k) = t.take (k + 1) ++ List.replicate (t.length - (k + 1)) [] := by
  have e : t[k] = Pl.rw' t k := by unfold Pl.rw'; rw [List.getElem?_eq_getElem h]; rfl
  rw [List.set_append_right _ _ (by simp; omega), List.length_take, Nat.min_eq_left (by omega), Nat.sub_self, show t.length - k = (t.length - (k + 1)) + 1 by omega, List.replicate_succ, List.set_cons_zero, List.take_succ_eq_append_getElem h, e, List.append_assoc]
  rfl

set_option maxHeartbeats 1000000 in
theorem toInt64SS_any (A : Option Addr) (c : Nat) (t : List (List Int)) (w : World) (hl : t.length ≤ 1048576) (hrl : ∀ k, (Pl.rw' t k).length ≤ 1048576) (hq : RQ w A t) :
    Calls Try.prog 30 #[.slice A t.length c] w fun e w' => ∃ v, e = .returned v ∧ OwnR w' w.heap.size w'.heap.size v t ∧ Below w.heap.size w w' := by
  have hmk := fun W => run_make_row' (P := Try.prog) 22 25 (.slice none 0 0) 24 Try.underlying22 infoRow rfl .i64 .i64 t.length (by omega) (by omega) W
  have HR := Lib.hid hrl
  have HQ := Lib.hid hq
  clear hrl hq
  go_enter Try.func30, Try.ntmps30
  go_wp2
  go_loopw [4] (fun i wr => ∃ k : Nat, k ≤ t.length ∧ i = .int .i64 k ∧ OwnR wr w.heap.size wr.heap.size (.slice (some ⟨w.heap.size, 0, none⟩) t.length t.length) (t.take k ++ List.replicate (t.length - k) []) ∧ Below w.heap.size w wr) (fun i _ => t.length - (intOf i).toNat)
  case atStart => exact ⟨0, Nat.zero_le _, rfl, by simpa using OwnR.made w t.length (by unfold maxLen; omega), (Below.refl _ _).alloc (Nat.le_refl _) _⟩
  case round =>
    clear hmk
    obtain ⟨k, hk, rfl, hown, hbel⟩ := hrel
    have HB := Lib.hid hbel
    have HO := Lib.hid hown
    clear hown hbel
    by_cases hlt : k < t.length
    · obtain ⟨ad, A', c', rfl, hb, hc, hra⟩ := HQ.out.at k hlt
      have hck := (HB.out.cell (p := ad.add k) (by rw [add_block]; exact hb)).trans hc
      have hr := HR.out k
      have HST := Lib.hid (rows_step t k hlt)
      obtain ⟨r, hrr⟩ : ∃ r, Pl.rw' t k = r := ⟨_, rfl⟩
      rw [hrr] at hck hra hr HST
      have HA := Lib.hid (hra.below HB.out)
      have hj0 : (0 : Int) ≤ (k : Int) := by omega
      have hj1 : (k : Int) < (t.length : Int) := by omega
      have hlen : k < (t.take k ++ List.replicate (t.length - k) ([] : List Int)).length := by simp; omega
      clear hc hra hrr hb
      go_wp2_with fail
      refine (toInt64S_any _ _ r _ hr HA.out).mono ?_
      rintro e w1 ⟨u0, rfl, ho1, hb1⟩
      obtain ⟨Au, cu, rfl, _⟩ := ho1.form
      obtain ⟨u, hu⟩ : ∃ u, Value.slice Au r.length cu = u := ⟨_, rfl⟩
      rw [hu] at ho1
      have ho2 := HO.out.keep hb1
      obtain ⟨l0, _, _, hf, _, _, hcg, _⟩ := ho2.cell k hlen
      have hput := ho2.put k hlen u r (ho1.more HB.out.size) (hi' := w1.heap.size) (fun b hb => ho1.lt b hb) hb1.size
      rw [HST.out] at hput
      subst hu
      have HP := Lib.hid hput
      have HB1 := Lib.hid ((below_step HB.out hb1).setCell (p := ⟨w.heap.size, k, none⟩) (Nat.le_refl _) (.slice Au r.length cu))
      clear hput ho1 ho2 hb1
      go_wp2
      go_roundw
      case rel => exact ⟨k + 1, by omega, by go_num, HP.out.more (by simp [World.setCell]), HB1.out⟩
      case measure => simp only [intOf]; omega
    · obtain rfl : k = t.length := by omega
      have hfin := HO.out
      rw [Nat.sub_self, List.replicate_zero, List.append_nil, List.take_length] at hfin
      have HFin := Lib.hid hfin
      clear hfin
      go_wp2
      go_ret
      exact ⟨_, rfl, HFin.out, HB.out⟩

set_option maxHeartbeats 1000000 in
theorem toPlane_any (m : Int) (A : Option Addr) (c : Nat) (t : List (List Int)) (w : World) (hl : szT t ≤ 1048576) (hq : RQ w A t) :
    Calls Try.prog 10 #[.agg #[.int .i64 m, .slice A t.length c]] w fun e w' => ∃ s, e = .returned (.agg #[.int .i64 m, s]) ∧ OwnR w' w.heap.size w'.heap.size s t ∧ Below w.heap.size w w' := by
  obtain ⟨W, hW⟩ : ∃ W, (((w.alloc (.cells #[.int .i64 m, .slice A t.length c] 24)).alloc (.cells #[.int .i64 0, .slice none 0 0] 32)).alloc (.cells #[.int .i64 m, .slice none 0 0] 32)) = W := ⟨_, rfl⟩
  have hwb : Below w.heap.size w W := by rw [← hW]; exact below_alloc _ (below_alloc _ (below_one _ _))
  have v1 : VarC 32 W (w.heap.size + 1) #[.int .i64 0, .slice none 0 0] := by
    rw [← hW]
    have := (VarC.new 32 (w.alloc (.cells #[.int .i64 m, .slice A t.length c] 24)) #[.int .i64 0, .slice none 0 0]).keep (below_one _ (.cells #[.int .i64 m, .slice none 0 0] 32))
    simpa using this
  have v2 : VarC 32 W (w.heap.size + 1 + 1) #[.int .i64 m, .slice none 0 0] := by
    rw [← hW]
    have := VarC.new 32 ((w.alloc (.cells #[.int .i64 m, .slice A t.length c] 24)).alloc (.cells #[.int .i64 0, .slice none 0 0] 32)) #[.int .i64 m, .slice none 0 0]
    simpa using this
  have HT := Lib.hid (fun W' (h : Below W.heap.size W W') => toInt64SS_any A c t W' (by unfold szT at hl; omega) (fun k => by have := tot_row t k; unfold szT at hl; omega) ((hq.below hwb).below h))
  have HW := Lib.hid hW
  have HB := Lib.hid hwb
  have V1 := Lib.hid v1
  have V2 := Lib.hid v2
  clear hq hW hwb v1 v2
  go_enter Try.func10, Try.ntmps10
  go_wp2_with fail
  rw [HW.out]
  refine (HT.out _ (Below.refl _ _)).mono ?_
  rintro e w1 ⟨s, rfl, ho1, hb1⟩
  obtain ⟨A1, c1, rfl, _⟩ := ho1.len
  have hu := V2.out.keep hb1
  have q1 : w1.cell? ⟨w.heap.size + 1 + 1, 1, none⟩ = some (.slice none 0 0) := hu.cell 1 _ rfl
  have q2 := hu.fz 1
  have hu2 := hu.set 1 (.slice A1 t.length c1)
  have q3 : (w1.setCell ⟨w.heap.size + 1 + 1, 1, none⟩ (.slice A1 t.length c1)).cell? ⟨w.heap.size + 1 + 1, 0, none⟩ = some (.int .i64 m) := hu2.cell 0 _ rfl
  have q4 : (w1.setCell ⟨w.heap.size + 1 + 1, 1, none⟩ (.slice A1 t.length c1)).cell? ⟨w.heap.size + 1 + 1, 1, none⟩ = some (.slice A1 t.length c1) := hu2.cell 1 _ rfl
  have hr1 := (V1.out.keep hb1).far (w.heap.size + 1 + 1) 1 (.slice A1 t.length c1) (by omega)
  have q5 : (w1.setCell ⟨w.heap.size + 1 + 1, 1, none⟩ (.slice A1 t.length c1)).cell? ⟨w.heap.size + 1, 0, none⟩ = some (.int .i64 0) := hr1.cell 0 _ rfl
  have q6 : (w1.setCell ⟨w.heap.size + 1 + 1, 1, none⟩ (.slice A1 t.length c1)).cell? ⟨w.heap.size + 1, 1, none⟩ = some (.slice none 0 0) := hr1.cell 1 _ rfl
  have q7 := hr1.fz 0
  have q8 := hr1.fz 1
  have hlt := V2.out.lt
  have hw2 : Below w.heap.size w (w1.setCell ⟨w.heap.size + 1 + 1, 1, none⟩ (.slice A1 t.length c1)) := (below_step HB.out hb1).setCell (by show w.heap.size ≤ w.heap.size + 1 + 1; omega) _
  have ho2 := (ho1.far (Span.of_grown (lo := w.heap.size + 1 + 1) (hi := w.heap.size + 1 + 1 + 1) (grown_setCell w1 (w.heap.size + 1 + 1) 1 (.slice A1 t.length c1)) (fun b hb => by injection hb with hb; omega)) (by omega)).more (show w1.heap.size ≤ (w1.setCell ⟨w.heap.size + 1 + 1, 1, none⟩ (.slice A1 t.length c1)).heap.size by simp [World.setCell])
  have fin := hr1.set 0 (.int .i64 m)
  have fin2 := fin.set 1 (.slice A1 t.length c1)
  have f0 : (((w1.setCell ⟨w.heap.size + 1 + 1, 1, none⟩ (.slice A1 t.length c1)).setCell ⟨w.heap.size + 1, 0, none⟩ (.int .i64 m)).setCell ⟨w.heap.size + 1, 1, none⟩ (.slice A1 t.length c1)).cell? ⟨w.heap.size + 1, 0, none⟩ = some (.int .i64 m) := fin2.cell 0 _ rfl
  have f1 : (((w1.setCell ⟨w.heap.size + 1 + 1, 1, none⟩ (.slice A1 t.length c1)).setCell ⟨w.heap.size + 1, 0, none⟩ (.int .i64 m)).setCell ⟨w.heap.size + 1, 1, none⟩ (.slice A1 t.length c1)).cell? ⟨w.heap.size + 1, 1, none⟩ = some (.slice A1 t.length c1) := fin2.cell 1 _ rfl
  have hg2 := grown_set2 (w1.setCell ⟨w.heap.size + 1 + 1, 1, none⟩ (.slice A1 t.length c1)) (w.heap.size + 1) (.int .i64 m) (.slice A1 t.length c1)
  have f2a := ho2.far (Span.of_grown (lo := w.heap.size + 1) (hi := w.heap.size + 1 + 1) hg2 (fun b hb => by injection hb with hb; omega)) (by omega)
  have f2 := (f2a.more hg2.size).low (show w.heap.size ≤ W.heap.size by omega)
  have f3 := below_set2 hw2 (show w.heap.size ≤ w.heap.size + 1 by omega) (.int .i64 m) (.slice A1 t.length c1)
  have F2 := Lib.hid f2
  have F3 := Lib.hid f3
  clear f2 f2a hg2 f3 hw2 ho2 ho1 hb1 hu hu2 hr1 fin fin2
  go_wp2
  refine bodyPost_ret (v := .agg #[.int .i64 m, .slice A1 t.length c1]) (by simp [results, Try.results10, go_sem, f0, f1]) rfl ⟨_, rfl, F2.out, F3.out⟩

set_option maxHeartbeats 1000000 in
theorem eqPlane_any (m : Int) (v u : Value) (lo hi lo' hi' : Nat) (t : List (List Int)) (w : World) (hl : szT t ≤ 1048576) (ha : OwnR w lo hi v t) (hb : OwnR w lo' hi' u t) (h1 : hi ≤ w.heap.size) (h2 : hi' ≤ w.heap.size) :
    Calls Try.prog 13 #[.agg #[.int .i64 m, v], .agg #[.int .i64 m, u]] w fun e w' => e = .returned (.bool true) ∧ Below w.heap.size w w' := by
  have hb2 := (below_alloc (.cells #[.int .i64 m, u] 32) (below_one w (.cells #[.int .i64 m, v] 32)))
  have HA := Lib.hid (ha.keep (hb2.mono h1))
  have HB := Lib.hid (hb.keep (hb2.mono h2))
  have HE := Lib.hid (fun W0 a b => eqInt64SS_any v u lo hi lo' hi' t W0 (by unfold szT at hl; omega) (fun k => by have := tot_row t k; unfold szT at hl; unfold Pl.rw' at this; omega) a b)
  obtain ⟨A, c, rfl, -⟩ := ha.len
  obtain ⟨B, d, rfl, -⟩ := hb.len
  have H2 := Lib.hid hb2
  clear ha hb hb2
  go_enter Try.func13, Try.ntmps13
  go_wp2_with (go_at_call 37; refine (HE.out _ HA.out HB.out).mono ?_; rintro e w' ⟨rfl, hb3⟩)
  go_ret
  exact ⟨rfl, below_step H2.out hb3⟩

set_option maxHeartbeats 1000000 in
theorem markPlane_any (m : Int) (v : Value) (lo hi : Nat) (t : List (List Int)) (k : Int) (w : World) (hl : szT t ≤ 1048576) (hk : 0 ≤ k) (hk2 : k ≤ 500000000000) (hown : OwnR w lo hi v t) (h1 : hi ≤ w.heap.size) :
    Calls Try.prog 18 #[.agg #[.int .i64 m, v], .int .i64 k] w fun e w' => e = .returned (.int .i64 (k + tot t)) ∧ OwnR w' lo hi v (mkR k t) ∧ Span lo hi w w' := by
  obtain ⟨A, c, rfl, _⟩ := hown.len
  have HO := Lib.hid (hown.keep ((below_one w (.cells #[.int .i64 m, .slice A t.length c] 32)).mono h1))
  have HM := Lib.hid (fun W0 h => markInt64SS_any (.slice A t.length c) lo hi t k W0 (by unfold szT at hl; omega) (by unfold szT at hl; omega) hk hk2 h)
  clear hown
  go_enter Try.func18, Try.ntmps18
  go_wp2_with (go_at_call 48; refine (HM.out _ HO.out).mono ?_; rintro e w' ⟨rfl, ho2, hg2⟩)
  go_ret
  exact ⟨rfl, ho2, (Span.of_grown (grown_alloc w (.cells #[.int .i64 m, .slice A t.length c] 32) none) (fun g hg => by cases hg)).trans hg2⟩

set_option maxHeartbeats 1000000 in
theorem heldPlane_any (m : Int) (v : Value) (lo hi : Nat) (t : List (List Int)) (k : Int) (w : World) (hl : szT t ≤ 1048576) (hk : 0 ≤ k) (hk2 : k ≤ 500000000000) (hown : OwnR w lo hi v (mkR k t)) (h1 : hi ≤ w.heap.size) :
    Calls Try.prog 19 #[.agg #[.int .i64 m, v], .int .i64 k] w fun e w' => e = .returned (.int .i64 (k + tot t)) ∧ Below w.heap.size w w' := by
  obtain ⟨A, c, rfl, _⟩ := hown.len
  have HO := Lib.hid (hown.keep ((below_one w (.cells #[.int .i64 m, .slice A (mkR k t).length c] 32)).mono h1))
  have HM := Lib.hid (fun W0 h => heldInt64SS_any (.slice A (mkR k t).length c) lo hi t k W0 (by unfold szT at hl; omega) (by unfold szT at hl; omega) hk hk2 h)
  clear hown
  go_enter Try.func19, Try.ntmps19
  go_wp2_with (go_at_call 49; refine (HM.out _ HO.out).mono ?_; rintro e w' ⟨rfl, rfl⟩)
  go_ret
  exact ⟨rfl, below_one _ _⟩
end Go.Proofs.Ytlpfifdocgljnaa

/- Helpers of the exact laws over planes and series. -/
namespace Go.Proofs.Ytlpfifdocgljnaa
open Go.RowKit Go.WideShapes Go.ChangeShapes Go.ChangeAt

theorem lenT {t : List (List Int)} (h : szT t ≤ 1048576) : t.length ≤ 9223372036854775807 := by unfold szT at h; omega
theorem rowT {t : List (List Int)} (h : szT t ≤ 1048576) (k : Nat) : (Pl.rw' t k).length ≤ 9223372036854775807 := by have := tot_row t k; unfold szT at h; omega
theorem Box.span {w w' : World} {g lo hi : Nat} {m : Int} {A : Option Addr} {n c : Nat} (hx : Box w g m A n c) (hs : Span lo hi w w') (hd : g < lo ∨ hi ≤ g) : Box w' g m A n c := by
  obtain ⟨h1, h2, h3⟩ := hx
  have hb := hs.block g h3 hd
  exact ⟨by rw [← h1]; simp only [World.cell?, hb], by rw [← h2]; simp only [World.cell?, hb], Nat.lt_of_lt_of_le h3 hs.size⟩
theorem varC_keep {t : TypeId} {cur wd : World} {g : Nat} {cs : Array Value} (h : VarC t cur g cs) (hb : Below cur.heap.size cur wd) : VarC t wd g cs ∧ g < cur.heap.size := ⟨h.keep hb, h.lt⟩
theorem varC_at {t : TypeId} {w : World} {g k : Nat} {cs : Array Value} (_h : VarC t w g cs) (hk : k ≤ g) : k ≤ g := hk
/-- a plane has been stored into a variable that lay there before the call -/
theorem reg_finP {t : TypeId} {wk cur wd : World} {g : Nat} {A : Option Addr} {n c : Nat} {T : List (List Int)} {x y : Value} (hk : wk.heap.size ≤ g) (hgc : g < cur.heap.size) (hv : VarC t wd g #[x, y]) (ho : OwnR wd cur.heap.size wd.heap.size (.slice A n c) T) (hb : Below wk.heap.size wk wd) (M : Int) :
    OwnR ((wd.setCell ⟨g, 0, none⟩ (.int .i64 M)).setCell ⟨g, 1, none⟩ (.slice A n c)) wk.heap.size ((wd.setCell ⟨g, 0, none⟩ (.int .i64 M)).setCell ⟨g, 1, none⟩ (.slice A n c)).heap.size (.slice A n c) T ∧ Box ((wd.setCell ⟨g, 0, none⟩ (.int .i64 M)).setCell ⟨g, 1, none⟩ (.slice A n c)) g M A n c ∧
    Below wk.heap.size wk ((wd.setCell ⟨g, 0, none⟩ (.int .i64 M)).setCell ⟨g, 1, none⟩ (.slice A n c)) := by
  have h2 := (hv.set 0 (.int .i64 M)).set 1 (.slice A n c)
  have hg := grown_set2 wd g (.int .i64 M) (.slice A n c)
  have ho2 := ho.far (Span.of_grown (lo := g) (hi := g + 1) hg (fun b hb => by injection hb with hb; omega)) (.inr (by omega))
  have hlt := hv.lt
  refine ⟨(ho2.low (by omega)).more hg.size, ⟨h2.cell 0 _ rfl, h2.cell 1 _ rfl, h2.lt⟩, (hb.setCell hk _).setCell hk _⟩
/-- a plane has been stored into a new variable -/
theorem reg_newP {wk cur wd : World} {A : Option Addr} {n c : Nat} {T : List (List Int)} (hk : wk.heap.size ≤ cur.heap.size) (ho : OwnR wd cur.heap.size wd.heap.size (.slice A n c) T) (hb : Below wk.heap.size wk wd) (M : Int) (t : TypeId) :
    OwnR (wd.alloc (.cells #[.int .i64 M, .slice A n c] t)) wk.heap.size (wd.alloc (.cells #[.int .i64 M, .slice A n c] t)).heap.size (.slice A n c) T ∧ Box (wd.alloc (.cells #[.int .i64 M, .slice A n c] t)) wd.heap.size M A n c ∧ Below wk.heap.size wk (wd.alloc (.cells #[.int .i64 M, .slice A n c] t)) :=
  ⟨((ho.keep (below_one _ _)).low hk).more (below_one wd _).size, Box.newT _ _ _ _ _ _, below_alloc _ hb⟩
theorem startB2 (t t' : TypeId) (w : World) (m : Int) (A : Option Addr) (n c : Nat) (m' : Int) (A' : Option Addr) (n' c' : Nat) :
    ∃ W, (w.alloc (.cells #[.int .i64 m, .slice A n c] t)).alloc (.cells #[.int .i64 m', .slice A' n' c'] t') = W ∧ Box W w.heap.size m A n c ∧ Box W (w.heap.size + 1) m' A' n' c' ∧ Below w.heap.size w W := by
  refine ⟨_, rfl, (Box.newT t w m A n c).keep (below_one _ _), ?_, below_alloc _ (below_one _ _)⟩
  have := Box.newT t' (w.alloc (.cells #[.int .i64 m, .slice A n c] t)) m' A' n' c'
  simpa using this
theorem startB3 (t t' t'' : TypeId) (w : World) (m : Int) (A : Option Addr) (n c : Nat) (m' : Int) (A' : Option Addr) (n' c' : Nat) (m'' : Int) (A'' : Option Addr) (n'' c'' : Nat) :
    ∃ W, ((w.alloc (.cells #[.int .i64 m, .slice A n c] t)).alloc (.cells #[.int .i64 m', .slice A' n' c'] t')).alloc (.cells #[.int .i64 m'', .slice A'' n'' c''] t'') = W ∧ Box W w.heap.size m A n c ∧ Box W (w.heap.size + 1) m' A' n' c' ∧ Box W (w.heap.size + 1 + 1) m'' A'' n'' c'' ∧ Below w.heap.size w W := by
  obtain ⟨W0, h0, h1, h2, h3⟩ := startB2 t t' w m A n c m' A' n' c'
  have hs : W0.heap.size = w.heap.size + 1 + 1 := by rw [← h0]; simp
  rw [h0]
  refine ⟨_, rfl, h1.keep (below_one _ _), h2.keep (below_one _ _), ?_, below_alloc _ h3⟩
  rw [← hs]
  exact Box.newT _ _ _ _ _ _
theorem frth {p q r s : Prop} (h : p ∧ q ∧ r ∧ s) : s := h.2.2.2
theorem reg_end2 {wk cur wd : World} {p q : Prop} (hs : p ∧ q ∧ Below wk.heap.size wk cur) (hb : Below cur.heap.size cur wd) : Below wk.heap.size wk wd ∧ wk.heap.size ≤ cur.heap.size := reg_end hs hb
theorem reg_end3 {wk cur wd : World} {p q r : Prop} (hs : p ∧ q ∧ r ∧ Below wk.heap.size wk cur) (hb : Below cur.heap.size cur wd) : Below wk.heap.size wk wd ∧ wk.heap.size ≤ cur.heap.size :=
  ⟨below_step hs.2.2.2 hb, hs.2.2.2.size⟩
theorem box3_in {W w' : World} {g g' g'' : Nat} {m m' m'' : Int} {A A' A'' : Option Addr} {n c n' c' n'' c'' : Nat} (h : Box W g m A n c) (h' : Box W g' m' A' n' c') (h'' : Box W g'' m'' A'' n'' c'') (hb : Below W.heap.size W w') :
    (w'.cell? ⟨g, 0, none⟩ = some (.int .i64 m) ∧ w'.cell? ⟨g, 1, none⟩ = some (.slice A n c)) ∧ (w'.cell? ⟨g', 0, none⟩ = some (.int .i64 m') ∧ w'.cell? ⟨g', 1, none⟩ = some (.slice A' n' c')) ∧ (w'.cell? ⟨g'', 0, none⟩ = some (.int .i64 m'') ∧ w'.cell? ⟨g'', 1, none⟩ = some (.slice A'' n'' c'')) ∧ Below W.heap.size W w' :=
  ⟨box_in h hb, box_in h' hb, box_in h'' hb, hb⟩
theorem box3_alloc {W w : World} {g g' g'' : Nat} {m m' m'' : Int} {A A' A'' : Option Addr} {n c n' c' n'' c'' : Nat} {p q r : Prop} {o : Obj} (h : Box W g m A n c) (h' : Box W g' m' A' n' c') (h'' : Box W g'' m'' A'' n'' c'') (hs : p ∧ q ∧ r ∧ Below W.heap.size W w) :
    ((w.alloc o).cell? ⟨g, 0, none⟩ = some (.int .i64 m) ∧ (w.alloc o).cell? ⟨g, 1, none⟩ = some (.slice A n c)) ∧ ((w.alloc o).cell? ⟨g', 0, none⟩ = some (.int .i64 m') ∧ (w.alloc o).cell? ⟨g', 1, none⟩ = some (.slice A' n' c')) ∧ ((w.alloc o).cell? ⟨g'', 0, none⟩ = some (.int .i64 m'') ∧ (w.alloc o).cell? ⟨g'', 1, none⟩ = some (.slice A'' n'' c'')) ∧ Below W.heap.size W (w.alloc o) :=
  box3_in h h' h'' (below_alloc _ hs.2.2.2)
end Go.Proofs.Ytlpfifdocgljnaa

/- A series among a law's arguments: what its reading tells. -/
namespace Go.Proofs.Ytlpfifdocgljnaa
open Go.RowKit Go.WideShapes Go.ChangeShapes Go.ChangeAt

theorem use_it {p q : Prop} (h : p) (k : p → q) : q := k h
theorem Var2.drew {w : World} {g : Nat} {x y : Value} (h : Var2 w g x y) : Var2 w.drew g x y := h
theorem cells_ser : Try.prog.cellsOf 27 = 2 := by kernel_rfl
theorem cells_i64 : Try.prog.cellsOf 2 = 1 := by kernel_rfl
theorem cells_i64s : Try.prog.cellsOf 25 = 1 := by kernel_rfl
set_option maxRecDepth 100000 in
theorem open_ser {H : Type} {enc : TypeId × Value → H} {W : World} {base : Nat} {v : Value} {d : DataW H} {p : List MemPlace}
    (hv : Value.okWide Try.prog W .any base 27 v) (h : DataW.Trod enc Try.prog W 0 (fun _ => true) true 27 v d p) :
    ∃ (m : Int) (A : Option Addr) (c : Nat) (l : List Int), v = .agg #[.int .i64 m, .slice A l.length c] ∧ l.length ≤ maxLen ∧ RA W A l := by
  obtain ⟨cs, rfl, hsz⟩ := okWide_struct Try.underlying27 hv
  rw [cells_ser] at hsz
  obtain ⟨l⟩ := cs
  match l, hsz with
  | [c0, c1], _ =>
    obtain ⟨fuel, hf⟩ := h
    obtain ⟨y0, y1, m, hx, _, hy0, hy1⟩ := trod_struct2 Try.underlying27 hf
    obtain ⟨a, e0, -, -⟩ := DataW.trod_int Try.underlying2 hy0
    simp [Value.cells, cells_i64] at e0
    subst e0
    rcases open_ints Try.underlying25 Try.underlying2 (by kernel_rfl) hy1 with ⟨hcs, -⟩ | ⟨x, n, c, zs, hcs, -, hl, hm, hz, -, hcell, hwz⟩
    · simp [Value.cells, cells_i64s] at hcs
      subst hcs
      exact ⟨a, none, 0, [], rfl, Nat.zero_le _, fun h => absurd rfl h⟩
    · simp [Value.cells, cells_i64s] at hcs
      subst hcs
      obtain ⟨l, rfl, h1, h2⟩ := ra_of_row (w := W) (a := some x) (len := n) (cap := c) (zs := zs) (.inr ⟨x, rfl, hl, hm, by simpa using hz, hcell, hwz⟩)
      exact ⟨a, some x, c, l, rfl, h1, h2⟩
end Go.Proofs.Ytlpfifdocgljnaa

/- A plane among a law's arguments: what its reading tells. -/
namespace Go.Proofs.Ytlpfifdocgljnaa
open Go.RowKit Go.WideShapes Go.ChangeShapes Go.ChangeAt

theorem cells_pla : Try.prog.cellsOf 24 = 2 := by kernel_rfl
theorem cells_i64ss : Try.prog.cellsOf 22 = 1 := by kernel_rfl
set_option maxRecDepth 100000 in
theorem open_pla {H : Type} {enc : TypeId × Value → H} {W : World} {base : Nat} {v : Value} {d : DataW H} {p : List MemPlace}
    (hv : Value.okWide Try.prog W .any base 24 v) (h : DataW.Trod enc Try.prog W 0 (fun _ => true) true 24 v d p) :
    ∃ (m : Int) (A : Option Addr) (c : Nat) (t : List (List Int)), v = .agg #[.int .i64 m, .slice A t.length c] ∧ (t.length ≤ 9223372036854775807 ∧ ∀ k, (Pl.rw' t k).length ≤ 9223372036854775807) ∧ RQ W A t := by
  obtain ⟨cs, rfl, hsz⟩ := okWide_struct Try.underlying24 hv
  rw [cells_pla] at hsz
  obtain ⟨l⟩ := cs
  match l, hsz with
  | [c0, c1], _ =>
    obtain ⟨fuel, hf⟩ := h
    obtain ⟨y0, y1, m, hx, _, hy0, hy1⟩ := trod_struct2 Try.underlying24 hf
    obtain ⟨a, e0, -, -⟩ := DataW.trod_int Try.underlying2 hy0
    simp [Value.cells, cells_i64] at e0
    subst e0
    rcases Go.Deep.open_int_rows Try.underlying22 Try.underlying25 Try.underlying2 (by kernel_rfl) (by kernel_rfl) hy1 with ⟨hcs, -⟩ | ⟨ad, n, cap, A, L, C, Z, hcs, -, hl, hm, -, hr⟩
    · simp [Value.cells, cells_i64ss] at hcs
      subst hcs
      exact ⟨a, none, 0, [], rfl, ⟨Nat.zero_le _, fun k => Nat.zero_le _⟩, fun h => absurd rfl h⟩
    · simp [Value.cells, cells_i64ss] at hcs
      subst hcs
      have key : ∀ r, r < n → Pl.rw' ((List.range n).map fun r => (Z r).take (L r)) r = (Z r).take (L r) := by
        intro r h
        unfold Pl.rw'
        rw [List.getElem?_map, List.getElem?_range h]; rfl
      have klen : ∀ r, r < n → ((Z r).take (L r)).length = L r := by
        intro r h
        obtain ⟨_, h2, _, h4, _⟩ := hr r (by omega)
        rw [List.length_take]; omega
      have hlen : ((List.range n).map fun r => (Z r).take (L r)).length = n := by simp
      refine ⟨a, some ad, cap, (List.range n).map fun r => (Z r).take (L r), by rw [hlen], ⟨by rw [hlen]; unfold maxLen at hm; omega, fun k => ?_⟩, fun hne => ?_⟩
      · by_cases hk : k < n
        · rw [key k hk, klen k hk]
          obtain ⟨_, h2, h3, _⟩ := hr k (by omega)
          unfold maxLen at h3; omega
        · rw [Pl.rw_over (by rw [hlen]; omega)]; exact Nat.zero_le _
      · have hn : 0 < n := by
          rcases Nat.eq_zero_or_pos n with e | e
          · subst e; exact absurd rfl hne
          · exact e
        refine ⟨ad, rfl, ?_, fun k hk => ?_⟩
        · have := World.block_lt_of_cell? W _ (hr 0 (by omega)).1
          rwa [add_block] at this
        · rw [hlen] at hk
          obtain ⟨h1, h2, h3, h4, _, _, h7⟩ := hr k (by omega)
          refine ⟨A k, C k, by rw [key k hk, klen k hk]; exact h1, ?_⟩
          rw [key k hk]
          intro hne2
          have hL : 0 < L k := by
            rcases Nat.eq_zero_or_pos (L k) with e | e
            · rw [e] at hne2; exact absurd rfl hne2
            · exact e
          rcases hA : A k with _ | a'
          · obtain ⟨_, _, _, _, _, h6, _⟩ := hr k (by omega)
            have := h6 hA
            omega
          · obtain ⟨_, h8⟩ := h7 a' hA
            refine ⟨a', rfl, ?_, fun j hj => ?_⟩
            · have := World.block_lt_of_cell? W _ (h8 0 (by omega))
              rwa [add_block] at this
            · rw [klen k hk] at hj
              rw [h8 j (by omega), List.getElem?_take, if_pos hj]
              simp [List.getD_eq_getElem?_getD]
end Go.Proofs.Ytlpfifdocgljnaa

/- Helpers of the exact laws whose result is a list of integers. -/
namespace Go.Proofs.Ytlpfifdocgljnaa
open Go.RowKit Go.WideShapes Go.ChangeShapes Go.ChangeAt

theorem heldInt64S_b (A : Option Addr) (c n : Nat) (k : Int) (w : World) (hl : n ≤ 10485760) (hk : 0 ≤ k) (hk2 : k ≤ 1000000000000) (hr : RI w A (marks k n)) :
    Calls Try.prog 82 #[.slice A n c, .int .i64 k] w fun e w' => e = .returned (.int .i64 (k + n)) ∧ Below w.heap.size w w' :=
  (heldInt64S_any A c n k w hl hk hk2 hr).mono fun e w' ⟨h1, h2⟩ => ⟨h1, by subst h2; exact Below.refl _ _⟩
end Go.Proofs.Ytlpfifdocgljnaa

/- Contract of frame.filled: the table of the remainders of what a function value tells. -/
namespace Go.Proofs.Ytlpfifdocgljnaa
open Go.RowKit Go.WideShapes Go.ChangeShapes Go.ChangeAt

theorem lenRow_any (m : Int) (d i : Nat) (w : World) (hd : d ≤ 1000) (hi : i ≤ d) :
    Calls Try.prog 108 #[.agg #[.int .i64 m, .int .i64 d], .int .i64 i] w fun e w' => e = .returned (.int .i64 ((d - i + 1 : Nat) : Int)) ∧ Below w.heap.size w w' := by
  have HE := Lib.hid (show ((d - i + 1 : Nat) : Int) = (d : Int) - (i : Int) + 1 by omega)
  rw [HE.out]
  go_enter Try.func108, Try.ntmps108
  go_wp2
  go_ret
  exact ⟨rfl, below_one _ _⟩

theorem Span.setCell (lo hi : Nat) (w : World) (g i : Nat) (u : Value) (h1 : lo ≤ g) (h2 : g < hi) : Span lo hi w (w.setCell ⟨g, i, none⟩ u) :=
  Span.of_grown (grown_setCell w g i u) (fun b hb => by injection hb with hb; omega)
/-- the frame's box and the grid's variable of a call of filled -/
def FilV (w W : World) (m : Int) (d : Nat) : Prop :=
  VarC 57 W w.heap.size #[.int .i64 m, .int .i64 d] ∧ VarC 59 W (w.heap.size + 1) #[.int .i64 0, .int .i64 0, .slice none 0 0]
theorem FilV.keep {w W W' : World} {m : Int} {d : Nat} (h : FilV w W m d) (hb : Below W.heap.size W W') : FilV w W' m d := ⟨h.1.keep hb, h.2.keep hb⟩
theorem FilV.far {w W : World} {m : Int} {d : Nat} (h : FilV w W m d) (b i : Nat) (u : Value) (hne : w.heap.size + 2 ≤ b) : FilV w (W.setCell ⟨b, i, none⟩ u) m d := ⟨h.1.far b i u (by omega), h.2.far b i u (by omega)⟩
theorem FilV.c {w W : World} {m : Int} {d : Nat} (h : FilV w W m d) : W.cell? ⟨w.heap.size, 0, none⟩ = some (.int .i64 m) ∧ W.cell? ⟨w.heap.size, 1, none⟩ = some (.int .i64 d) := ⟨h.1.cell 0 _ rfl, h.1.cell 1 _ rfl⟩
theorem cut_stepL (m : Int) (d : Nat) (f : Nat → Int) (k n : Nat) (hn : n = d + 1) (h : k ≤ d) : ((Ser.cut m d f).take k ++ List.replicate (n - k) 0).set k (f k % m) = (Ser.cut m d f).take (k + 1) ++ List.replicate (n - (k + 1)) 0 := by
  subst hn; exact cut_step m d f k h
theorem row_len (m : Int) (d : Nat) (f : Nat → Int) (k : Nat) (h : k ≤ d + 1) : ((Ser.cut m d f).take k ++ List.replicate (d + 1 - k) 0).length = d + 1 := by
  have := Ser.cut_length m d f
  simp; omega

/-- three cells stored -/
def set3 (w : World) (g : Nat) (x y z : Value) : World := ((w.setCell ⟨g, 0, none⟩ x).setCell ⟨g, 1, none⟩ y).setCell ⟨g, 2, none⟩ z
theorem VarC.set3 {t : TypeId} {w : World} {g : Nat} {a b c : Value} (h : VarC t w g #[a, b, c]) (x y z : Value) : VarC t (set3 w g x y z) g #[x, y, z] := ((h.set 0 x).set 1 y).set 2 z
theorem grown_set3 (w : World) (g : Nat) (x y z : Value) : w.grownBy (set3 w g x y z) (some g) := grown_trans (grown_trans (grown_setCell w g 0 x) (grown_setCell _ g 1 y)) (grown_setCell _ g 2 z)
theorem below_set3 {B : Nat} {w w' : World} {g : Nat} (hb : Below B w w') (hg : B ≤ g) (x y z : Value) : Below B w (set3 w' g x y z) := ((hb.setCell hg x).setCell hg y).setCell hg z
/-- a grid is stored into its variable: what the return reads -/
theorem fin_grid {t : TypeId} {w w2 : World} {g lo hi : Nat} {v a b c : Value} {T : List (List Int)} (hv : VarC t w2 g #[a, b, c]) (ho : OwnR w2 lo hi v T) (hg : g < lo ∨ hi ≤ g) (hwg : w.heap.size ≤ g) (hhi : hi ≤ w2.heap.size) (hb : Below w.heap.size w w2) (p q r : Value) :
    (set3 w2 g p q r).cell? ⟨g, 0, none⟩ = some p ∧ (set3 w2 g p q r).cell? ⟨g, 1, none⟩ = some q ∧ (set3 w2 g p q r).cell? ⟨g, 2, none⟩ = some r ∧
    OwnR (set3 w2 g p q r) lo (set3 w2 g p q r).heap.size v T ∧ Below w.heap.size w (set3 w2 g p q r) := by
  have h := hv.set3 p q r
  refine ⟨h.cell 0 _ rfl, h.cell 1 _ rfl, h.cell 2 _ rfl, ?_, below_set3 hb hwg p q r⟩
  exact (ho.far (Span.of_grown (lo := g) (hi := g + 1) (grown_set3 w2 g p q r) (fun b hb => by injection hb with hb; omega)) (by omega)).more (Nat.le_trans hhi (grown_set3 w2 g p q r).size)

theorem kp_call {w w' : World} {a1 a2 : Addr} {x y : Value} (hb : Below w.heap.size w w') (hs : w.cell? a1 = some x ∧ w.cell? a2 = some y) : w'.cell? a1 = some x ∧ w'.cell? a2 = some y :=
  ⟨(hb.cell (World.block_lt_of_cell? w a1 hs.1)).trans hs.1, (hb.cell (World.block_lt_of_cell? w a2 hs.2)).trans hs.2⟩
theorem kp_store {w : World} {a1 a2 b : Addr} {x y u : Value} (h1 : b.block ≠ a1.block) (h2 : b.block ≠ a2.block) (hs : w.cell? a1 = some x ∧ w.cell? a2 = some y) : (w.setCell b u).cell? a1 = some x ∧ (w.setCell b u).cell? a2 = some y :=
  ⟨(World.cell?_of_block (w := w) (Below.heap_setCell w b u a1.block (fun e => h1 e.symm))).trans hs.1, (World.cell?_of_block (w := w) (Below.heap_setCell w b u a2.block (fun e => h2 e.symm))).trans hs.2⟩

set_option maxHeartbeats 4000000 in
set_option maxRecDepth 100000 in
theorem filled_any (m : Int) (d fn : Nat) (cap : Array Value) (f : Nat → Nat → Int) (w : World) (h1 : 1 ≤ m) (h2 : m ≤ 10000) (hd : d ≤ 1000) (hlo : ∀ i j, i + j ≤ d → -1000000000000 ≤ f i j ∧ f i j ≤ 1000000000000)
    (hen : ∀ (args : Array Value) (W : World), (callFunc fn args).run Try.prog W = .ok (.enter fn args) W)
    (hf : ∀ (i j : Nat) (W : World), i + j ≤ d → Below w.heap.size w W → Calls Try.prog fn (#[.int .i64 i, .int .i64 j] ++ cap) W fun e w' => e = .returned (.int .i64 (f i j)) ∧ Below W.heap.size W w') :
    Calls Try.prog 85 #[.agg #[.int .i64 m, .int .i64 d], .func (.func fn) #[] cap] w fun e w' => ∃ v, e = .returned (.agg #[.int .i64 m, .int .i64 d, v]) ∧ OwnR w' w.heap.size w'.heap.size v (Pl.tab m d f) ∧ Below w.heap.size w w' := by
  have HF := Lib.hid hf
  have HL := Lib.hid hlo
  clear hf hlo
  have hmk : ∀ W : World, (Instr.makeSlice 22 (.int .i64 ((d : Int) + 1)) (.int .i64 ((d : Int) + 1))).run Try.prog W = .ok (.slice (some ⟨W.heap.size, 0, none⟩) (d + 1) (d + 1)) (W.alloc (.cells (madeCells #[Value.slice none 0 0] (d + 1)) 25)) := by
    intro W
    have := run_make_row' (P := Try.prog) 22 25 (.slice none 0 0) 24 Try.underlying22 infoRow rfl .i64 .i64 (d + 1) (by omega) (by omega) W
    rwa [show ((d + 1 : Nat) : Int) = (d : Int) + 1 by omega] at this
  have hmk2 : ∀ (n : Nat) (W : World), n ≤ 1001 → (Instr.makeSlice 25 (.int .i64 (n : Int)) (.int .i64 (n : Int))).run Try.prog W = .ok (.slice (some ⟨W.heap.size, 0, none⟩) n n) (W.alloc (.cells (madeCells #[.int .i64 0] n) 2)) := by
    intro n W hn
    exact run_make_row' (P := Try.prog) 25 2 (.int .i64 0) 8 Try.underlying25 info64 rfl .i64 .i64 n (by omega) (by omega) W
  have HM2 := Lib.hid hmk2
  clear hmk2
  go_enter Try.func85, Try.ntmps85
  go_wp2
  go_loopw [15] (fun i wr => ∃ k : Nat, k ≤ d + 1 ∧ i = .int .i64 k ∧ OwnR wr (w.heap.size + 2) wr.heap.size (.slice (some ⟨w.heap.size + 1 + 1, 0, none⟩) (d + 1) (d + 1)) ((Pl.tab m d f).take k ++ List.replicate (d + 1 - k) []) ∧ FilV w wr m d ∧ Below w.heap.size w wr) (fun i _ => d + 1 - (intOf i).toNat)
  case atStart =>
    refine ⟨0, Nat.zero_le _, rfl, ?_, ⟨?_, ?_⟩, below_alloc _ (below_alloc _ (below_one _ _))⟩
    · have h := OwnR.made ((w.alloc (.cells #[.int .i64 m, .int .i64 d] 57)).alloc (.cells #[.int .i64 0, .int .i64 0, .slice none 0 0] 59)) (d + 1) (by unfold maxLen; omega)
      simpa using h
    · exact ((VarC.new 57 w _).keep (below_one _ _)).keep (below_one _ _)
    · have h := (VarC.new 59 (w.alloc (.cells #[.int .i64 m, .int .i64 d] 57)) #[.int .i64 0, .int .i64 0, .slice none 0 0]).keep (below_one _ (.cells (madeCells #[Value.slice none 0 0] (d + 1)) 25))
      simpa using h
  case round =>
    clear hmk
    obtain ⟨k, hk, rfl, hown, hvar, hbel⟩ := hrel
    have HV := Lib.hid hvar
    have HB := Lib.hid hbel
    have HO := Lib.hid hown
    clear hown hbel hvar
    by_cases hlt : k < d + 1
    · obtain ⟨v0, v1⟩ := HV.out.c
      have hkd : (k : Int) < (d : Int) + 1 := by omega
      go_wp2_with fail
      refine (lenRow_any m d k _ hd (by omega)).mono ?_
      rintro e w1 ⟨rfl, hb1⟩
      obtain ⟨N, hN⟩ : ∃ N, d - k + 1 = N := ⟨_, rfl⟩
      have hN1 : N ≤ 1001 := by omega
      have hmk := fun W => HM2.out N W hN1
      rw [hN]
      have HN := Lib.hid hN
      have HB1 := Lib.hid (HB.out.trans (hb1.mono HB.out.size))
      have hb2 := below_one w1 (.cells (madeCells #[.int .i64 0] N) 2)
      have hsz1 := hb1.size
      have ho1 := HO.out.keep (hb1.trans (hb2.mono hsz1))
      have hlen : k < ((Pl.tab m d f).take k ++ List.replicate (d + 1 - k) []).length := by have := Pl.tab_length m d f; simp; omega
      obtain ⟨_, o2, _, o4, _, _, o5, _⟩ := ho1.cell k hlen
      have hput := ho1.put k hlen (.slice (some ⟨w1.heap.size, 0, none⟩) N N) (List.replicate N 0) ((OwnI.made w1 N (by unfold maxLen; omega)).more (by omega))
        (hi' := w1.heap.size + 1) (fun b hb => by have : b = w1.heap.size := by simpa [Value.ownBlock] using hb.symm
                                                  omega) (by omega)
      rw [Pl.tab_step m d f k (by omega)] at hput
      have hv1 := ((HV.out.keep hb1).keep hb2).far (w.heap.size + 1 + 1) k (.slice (some ⟨w1.heap.size, 0, none⟩) N N) (by omega)
      have hbw : Below w.heap.size w ((w1.alloc (.cells (madeCells #[.int .i64 0] N) 2)).setCell ⟨w.heap.size + 1 + 1, k, none⟩ (.slice (some ⟨w1.heap.size, 0, none⟩) N N)) :=
        (below_step HB1.out hb2).setCell (by show w.heap.size ≤ w.heap.size + 1 + 1; omega) _
      obtain ⟨x0, x1⟩ := hv1.c
      obtain ⟨w3, hw3⟩ : ∃ w3, (w1.alloc (.cells (madeCells #[.int .i64 0] N) 2)).setCell ⟨w.heap.size + 1 + 1, k, none⟩ (.slice (some ⟨w1.heap.size, 0, none⟩) N N) = w3 := ⟨_, rfl⟩
      have hs3 : w1.heap.size + 1 = w3.heap.size := by rw [← hw3]; simp [World.setCell]
      rw [hw3] at hput hv1 hbw
      rw [hs3] at hput
      have HP := Lib.hid hput
      have HV3 := Lib.hid hv1
      have HB3 := Lib.hid hbw
      have HW3 := Lib.hid hw3
      clear hN hput hv1 hbw hw3 ho1 hb2 hlen hs3 hsz1 HB1 HV HB HO
      go_wp2_with fail
      rw [HW3.out]
      refine (lenRow_any m d k _ hd (by omega)).mono ?_
      rintro e w4 ⟨rfl, hb4⟩
      rw [HN.out]
      have HP4 := Lib.hid ((HP.out.keep hb4).more hb4.size)
      have HV4 := Lib.hid (HV3.out.keep hb4)
      have HB4 := Lib.hid (below_step HB3.out hb4)
      clear HP HV3 HB3 hb4 HW3 hmk v0 v1 x0 x1 hb1
      go_wp2
      go_loopw [28] (fun i wr => ∃ j : Nat, j ≤ N ∧ i = .int .i64 j ∧ OwnR wr (w.heap.size + 2) wr.heap.size (.slice (some ⟨w.heap.size + 1 + 1, 0, none⟩) (d + 1) (d + 1)) ((Pl.tab m d f).take k ++ (((Ser.cut m (d - k) (f k)).take j ++ List.replicate (N - j) 0) :: List.replicate (d + 1 - (k + 1)) [])) ∧ FilV w wr m d ∧ Below w.heap.size w wr) (fun i _ => N - (intOf i).toNat)
      case atStart => exact ⟨0, Nat.zero_le _, rfl, by simpa using HP4.out, HV4.out, HB4.out⟩
      case round =>
        clear HP4 HV4 HB4
        obtain ⟨j, hj, rfl, hown, hvar, hbel⟩ := hrel
        have HV := Lib.hid hvar
        have HB := Lib.hid hbel
        have HO := Lib.hid hown
        clear hown hbel hvar
        by_cases hjt : j < N
        · obtain ⟨v0, v1⟩ := HV.out.c
          have hNk := HN.out
          obtain ⟨q1, q2⟩ := HL.out k j (by omega)
          obtain ⟨F, hF⟩ : ∃ F, f k j = F := ⟨_, rfl⟩
          have hcl : ∀ W : World, Below wr.heap.size wr W → _ := fun W hW => HF.out k j W (by omega) (HB.out.trans (hW.mono HB.out.size))
          rw [hF] at q1 q2 hcl
          have HC := Lib.hid hcl
          have hTl : k < ((Pl.tab m d f).take k ++ (((Ser.cut m (d - k) (f k)).take j ++ List.replicate (N - j) 0) :: List.replicate (d + 1 - (k + 1)) [])).length := by rw [Pl.tab_mid_length m d f k (by omega)]; omega
          obtain ⟨b, c', g1, g2, g3, g4, hcel⟩ := HO.out.numB k j N hTl (by rw [Pl.tab_mid m d f k (by omega)]; have := row_len m (d - k) (f k) j (by omega); rw [hNk] at this; exact this) hjt
          have hset : ∀ _ : Nat, ((Pl.tab m d f).take k ++ (((Ser.cut m (d - k) (f k)).take j ++ List.replicate (N - j) 0) :: List.replicate (d + 1 - (k + 1)) [])).set k ((Pl.rw' ((Pl.tab m d f).take k ++ (((Ser.cut m (d - k) (f k)).take j ++ List.replicate (N - j) 0) :: List.replicate (d + 1 - (k + 1)) [])) k).set j (F % m)) =
              (Pl.tab m d f).take k ++ (((Ser.cut m (d - k) (f k)).take (j + 1) ++ List.replicate (N - (j + 1)) 0) :: List.replicate (d + 1 - (k + 1)) []) := by
            intro _
            rw [Pl.tab_mid m d f k (by omega), Pl.tab_step2 m d f k (by omega), ← hF, cut_stepL m (d - k) (f k) j N hNk.symm (by omega)]
          have hcell2 : ∀ W, Below wr.heap.size wr W → (W.cell? ⟨w.heap.size + 1 + 1, k, none⟩ = some (.slice (some ⟨b, 0, none⟩) N c') ∧ (∃ y, W.cell? ⟨b, j, none⟩ = some (.int .i64 y)) ∧ W.frozen? ⟨b, j, none⟩ = false ∧
              OwnR (W.setCell ⟨b, j, none⟩ (.int .i64 (F % m))) (w.heap.size + 2) wr.heap.size (.slice (some ⟨w.heap.size + 1 + 1, 0, none⟩) (d + 1) (d + 1)) ((Pl.tab m d f).take k ++ (((Ser.cut m (d - k) (f k)).take (j + 1) ++ List.replicate (N - (j + 1)) 0) :: List.replicate (d + 1 - (k + 1)) []))) := by
            intro W hW
            obtain ⟨c1, c2, c3, c4⟩ := hcel W hW
            have := c4 (F % m)
            rw [hset 0] at this
            exact ⟨c1, ⟨_, c2⟩, c3, this⟩
          have HCE := Lib.hid hcell2
          obtain ⟨c1, _⟩ := hcell2 wr (Below.refl _ _)
          have i1 : (0 : Int) ≤ (j : Int) := by omega
          have i2 : (j : Int) < (N : Int) := by omega
          have i3 : (0 : Int) ≤ (k : Int) := by omega
          have l1 : w.heap.size < wr.heap.size := HV.out.1.lt
          clear hF hcl hTl hcel hset hcell2 hNk
          go_wp2
          go_region_held3 (fun w' => w'.cell? ⟨w.heap.size, 0, none⟩ = some (.int .i64 m) ∧ w'.cell? ⟨w.heap.size + 1 + 1, k, none⟩ = some (.slice (some ⟨b, 0, none⟩) N c')) (first | exact ⟨v0, c1⟩ | exact kp_call hb5 ⟨v0, c1⟩ | exact kp_store (by show b ≠ w.heap.size; omega) g4 (by assumption)) (first
            | (go_at_call 105; refine (remainder_any _ _ _ h1 h2 q1 q2).mono ?_; rintro e w' ⟨rfl, rfl⟩)
            | (refine (HC.out _ (below_drew0 _)).mono ?_; rintro e w5 ⟨rfl, hb5⟩; obtain ⟨_, ⟨y0, s2⟩, s3, s4⟩ := HCE.out w5 (below_step (below_drew0 _) hb5)))
          all_goals
            have k1 := s4.more (show wr.heap.size ≤ (w5.setCell ⟨b, j, none⟩ (.int .i64 (F % m))).heap.size by have := hb5.size; simp only [World.setCell, Array.size_modify]; exact this)
            have k2 := (HV.out.keep (below_step (below_drew0 _) hb5)).far b j (.int .i64 (F % m)) g2
            have k3 := (below_step HB.out (below_step (below_drew0 wr) hb5)).setCell (p := ⟨b, j, none⟩) (by show w.heap.size ≤ b; omega) (.int .i64 (F % m))
            have K1 := Lib.hid k1
            have K2 := Lib.hid k2
            have K3 := Lib.hid k3
            clear k1 k2 k3 s4 HCE HC hb5 s2 s3
            go_wp2
            go_roundw
            case rel => exact ⟨j + 1, by omega, by go_num, K1.out, K2.out, K3.out⟩
            case measure => simp only [intOf]; omega
        · obtain rfl : j = N := by omega
          have ho := HO.out
          have hNk := HN.out
          rw [List.take_of_length_le (l := Ser.cut m (d - k) (f k)) (by rw [Ser.cut_length]; omega), Nat.sub_self, List.replicate_zero, List.append_nil, Pl.tab_done m d f k (by omega)] at ho
          have HO2 := Lib.hid ho
          clear ho HO hNk
          go_wp2
          go_roundw
          case rel => exact ⟨k + 1, by omega, by go_num, HO2.out, HV.out, HB.out⟩
          case measure => simp only [intOf]; omega
    · obtain rfl : k = d + 1 := by omega
      have ho := HO.out
      rw [Pl.tab_take_all, Nat.sub_self, List.replicate_zero, List.append_nil] at ho
      obtain ⟨v0, v1⟩ := HV.out.c
      have hv := HV.out.2
      have q3 := hv.fz 0
      have q4 := hv.fz 1
      have q5 := hv.fz 2
      have q6 := hv.cell 0 _ rfl
      have q7 := hv.cell 1 _ rfl
      have q8 := hv.cell 2 _ rfl
      simp only [List.getElem_toArray, List.getElem_cons_zero, List.getElem_cons_succ] at q6 q7 q8
      obtain ⟨f0, f1, f2, f3, f4⟩ := fin_grid (w := w) hv ho (by omega) (by omega) (Nat.le_refl _) HB.out (.int .i64 m) (.int .i64 d) (.slice (some ⟨w.heap.size + 1 + 1, 0, none⟩) (d + 1) (d + 1))
      have F3 := Lib.hid f3
      have F4 := Lib.hid f4
      unfold set3 at f0 f1 f2
      clear f3 f4 ho hv HO HV HB
      go_wp2
      refine bodyPost_ret (v := .agg #[.int .i64 m, .int .i64 d, .slice (some ⟨w.heap.size + 1 + 1, 0, none⟩) (d + 1) (d + 1)]) (by simp [results, Try.results85, go_sem, f0, f1, f2]) rfl ⟨_, rfl, F3.out.low (by omega), F4.out⟩
end Go.Proofs.Ytlpfifdocgljnaa

/- Contracts of the looks at planes, of the program and of the model. -/
namespace Go.Proofs.Ytlpfifdocgljnaa
open Go.RowKit Go.WideShapes Go.ChangeShapes Go.ChangeAt

/-- row i of a table of n rows is as a plane's -/
def rowOk (m : Int) (n : Nat) (t : List (List Int)) (i : Nat) : Bool := decide ((Pl.rw' t i).length + i = n) && allIn 0 (m - 1) (Pl.rw' t i)
/-- a table with a modulus is a plane -/
def isP (m : Int) (t : List (List Int)) : Bool := isM m && (inB (t.length : Int) 2 11 && (List.range t.length).all (rowOk m t.length t))
theorem all_succ (f : Nat → Bool) (k : Nat) : (List.range (k + 1)).all f = ((List.range k).all f && f k) := by
  rw [List.range_succ, List.all_append]; simp
theorem all_no (f : Nat → Bool) (k n : Nat) (h : k < n) (hf : f k = false) : (List.range n).all f = false := by
  rw [← Bool.not_eq_true, List.all_eq_true]
  intro hh
  have := hh k (List.mem_range.2 h)
  rw [hf] at this
  exact absurd this (by decide)
theorem plOk_of {m : Int} {t : List (List Int)} (h : isP m t = true) : ∃ d, t.length = d + 1 ∧ Pl.Ok m d t := by
  unfold isP at h
  rw [Bool.and_eq_true, Bool.and_eq_true, isM_iff, inB_iff, List.all_eq_true] at h
  obtain ⟨⟨m1, m2⟩, ⟨n1, n2⟩, hr⟩ := h
  obtain ⟨d, hd⟩ : ∃ d, t.length = d + 1 := ⟨t.length - 1, by omega⟩
  have key : ∀ i, i ≤ d → (Pl.rw' t i).length + i = d + 1 ∧ allIn 0 (m - 1) (Pl.rw' t i) = true := by
    intro i hi
    have := hr i (List.mem_range.2 (by omega))
    unfold rowOk at this
    rw [Bool.and_eq_true, decide_eq_true_iff, hd] at this
    exact this
  refine ⟨d, hd, m1, m2, by omega, by omega, hd, fun i hi => by have := (key i hi).1; omega, fun i => ?_⟩
  by_cases hi : i ≤ d
  · intro j
    by_cases hj : j < (Pl.rw' t i).length
    · have h1 := List.all_eq_true.1 (key i hi).2 _ (List.getElem_mem hj)
      have h2 := (inB_iff _ _ _).1 h1
      unfold Ser.co
      rw [List.getElem?_eq_getElem hj]
      simp only [Option.getD_some]
      omega
    · rw [Ser.co_over (by omega)]; omega
  · rw [Pl.rw_over (by omega)]
    intro j; rw [Ser.co_over (Nat.zero_le _)]; omega
theorem isP_len {m : Int} {t : List (List Int)} (h : isP m t = true) : 2 ≤ t.length ∧ t.length ≤ 11 := by
  unfold isP at h
  rw [Bool.and_eq_true, Bool.and_eq_true, inB_iff] at h
  omega

set_option maxHeartbeats 1000000 in
theorem gridOf_any (m : Int) (A : Option Addr) (n c : Nat) (w : World) (hn : n ≤ 9223372036854775807) :
    Calls Try.prog 33 #[.agg #[.int .i64 m, .slice A n c]] w fun e w' => e = .returned (.agg #[.int .i64 m, .int .i64 ((n : Int) - 1), .slice A n c]) ∧ Below w.heap.size w w' := by
  go_enter Try.func33, Try.ntmps33
  go_wp2
  exact bodyPost_ret (v := .agg #[.int .i64 m, .int .i64 ((n : Int) - 1), .slice A n c]) (by simp [results, Try.results33, go_sem]) rfl ⟨rfl, below_alloc _ (below_one _ _)⟩
theorem gridOf_nat (m : Int) (A : Option Addr) (n c d : Nat) (w : World) (hn : n = d + 1) (hd : d ≤ 1000) :
    Calls Try.prog 33 #[.agg #[.int .i64 m, .slice A n c]] w fun e w' => e = .returned (.agg #[.int .i64 m, .int .i64 d, .slice A n c]) ∧ Below w.heap.size w w' :=
  (gridOf_any m A n c w (by omega)).mono fun e w' ⟨h1, h2⟩ => ⟨by rw [h1, show (n : Int) - 1 = (d : Int) by omega], h2⟩
set_option maxHeartbeats 1000000 in
theorem plane_any (m d : Int) (A : Option Addr) (n c : Nat) (w : World) :
    Calls Try.prog 57 #[.agg #[.int .i64 m, .int .i64 d, .slice A n c]] w fun e w' => e = .returned (.agg #[.int .i64 m, .slice A n c]) ∧ Below w.heap.size w w' := by
  go_enter Try.func57, Try.ntmps57
  go_wp2
  exact bodyPost_ret (v := .agg #[.int .i64 m, .slice A n c]) (by simp [results, Try.results57, go_sem]) rfl ⟨rfl, below_alloc _ (below_one _ _)⟩

/-- the frame of a grid's value -/
theorem field_frame (a b c : Value) (W : World) : (Instr.field 59 (.agg #[a, b, c]) 0).run Try.prog W = .ok (.agg #[a, b]) W := by kernel_rfl
theorem frm_in {w w1 : World} {m : Int} {d : Nat} {t1 t2 : TypeId} {A : Option Addr} {n c : Nat} (hb : Below (w.alloc (.cells #[.int .i64 m, .slice A n c] t1)).heap.size (w.alloc (.cells #[.int .i64 m, .slice A n c] t1)) w1) :
    ∃ W, w1.alloc (.cells #[.int .i64 m, .int .i64 d] t2) = W ∧ VarC t2 W w1.heap.size #[.int .i64 m, .int .i64 d] ∧ Box W w.heap.size m A n c ∧ Below w.heap.size w W :=
  ⟨_, rfl, VarC.new _ _ _, ((Box.newT t1 w m A n c).keep hb).keep (below_one _ _), below_alloc _ (below_step (below_one _ _) hb)⟩
set_option maxHeartbeats 2000000 in
set_option maxRecDepth 100000 in
theorem IsPlane_c (m : Int) (A : Option Addr) (c : Nat) (t : List (List Int)) (w : World) (hl : t.length ≤ 9223372036854775807) (hrl : ∀ k, (Pl.rw' t k).length ≤ 9223372036854775807) (hr : RP w A t) :
    Calls Try.prog 91 #[.agg #[.int .i64 m, .slice A t.length c]] w fun e w' => e = .returned (.bool (isP m t)) ∧ Below w.heap.size w w' := by
  have HR := Lib.hid hr
  have HRL := Lib.hid hrl
  clear hr hrl
  obtain ⟨R, hR⟩ : ∃ R, isP m t = R := ⟨_, rfl⟩
  rw [hR]
  have HRR := Lib.hid hR
  clear hR
  by_cases h1 : inB ((t.length : Int) - 1) 1 10 = true
  · obtain ⟨d, hd⟩ : ∃ d, t.length = d + 1 := ⟨t.length - 1, by have := (inB_iff _ _ _).1 h1; omega⟩
    have hd2 : d ≤ 10 := by have := (inB_iff _ _ _).1 h1; omega
    have HG := Lib.hid (fun W => gridOf_nat m A t.length c d W hd (by omega))
    have hw1 : inB (d : Int) 1 10 = true := by rw [← h1]; congr 1; omega
    have HD := Lib.hid hd
    have HI := Lib.hid h1
    obtain ⟨L, hL⟩ : ∃ L, t.length = L := ⟨_, rfl⟩
    rw [hL] at HG ⊢
    have HL := Lib.hid hL
    have HLd : Hid ((L : Int) = (d : Int) + 1) := Lib.hid (by omega)
    clear h1 hd hL hl
    go_enter Try.func91, Try.ntmps91
    go_wp2_with fail
    refine (HG.out _).mono ?_
    rintro e w1 ⟨rfl, hb1⟩
    obtain ⟨W, hW, v, hx, hwb⟩ := frm_in (d := d) (t2 := 57) hb1
    have HW := Lib.hid hW
    have HV := Lib.hid v
    have HX := Lib.hid hx
    have HB := Lib.hid hwb
    have hfd := field_frame
    clear hW v hx hwb hb1
    go_wp2_with fail
    rw [HW.out]
    refine (isWithin_any _ _ _ _).mono ?_
    rintro e w' ⟨rfl, rfl⟩
    rw [hw1]
    obtain ⟨g, hg⟩ : ∃ g, w1.heap.size = g := ⟨_, rfl⟩
    rw [hg] at HV ⊢
    clear hg HW hfd
    have v1 : W.cell? ⟨g, 1, none⟩ = some (.int .i64 d) := HV.out.cell 1 _ rfl
    go_wp2
    go_loopw [16] (fun i wr => ∃ k : Nat, k ≤ d + 1 ∧ i = .int .i64 k ∧ (List.range k).all (rowOk m (d + 1) t) = true ∧ (0 < k → isM m = true) ∧ VarC 57 wr g #[.int .i64 m, .int .i64 d] ∧ Box wr w.heap.size m A L c ∧ Below w.heap.size w wr) (fun i _ => d + 1 - (intOf i).toNat)
    case atStart => exact ⟨0, Nat.zero_le _, rfl, rfl, fun h => absurd h (Nat.lt_irrefl _), HV.out, HX.out, HB.out⟩
    case round =>
      clear HV HX HB v1
      obtain ⟨k, hk, rfl, hall, hmk, hv, hx, hb⟩ := hrel
      have HV := Lib.hid hv
      have HX := Lib.hid hx
      have HB := Lib.hid hb
      have HA := Lib.hid hall
      have HMK := Lib.hid hmk
      clear hmk
      by_cases hlt : k < d + 1
      · obtain ⟨bb, off, A', c', rfl, hbb, hc, _, hri⟩ := HR.out.at k (by have := HD.out; omega)
        have hck := (hb.cell (p := ⟨bb, off + k, none⟩) hbb).trans hc
        have hrl := HRL.out k
        have hst : rowOk m (d + 1) t k = (decide ((Pl.rw' t k).length + k = d + 1) && allIn 0 (m - 1) (Pl.rw' t k)) := rfl
        obtain ⟨r, hr⟩ : ∃ r, Pl.rw' t k = r := ⟨_, rfl⟩
        rw [hr] at hck hrl hst hri
        have HST := Lib.hid hst
        obtain ⟨N, hN⟩ : ∃ N, d - k + 1 = N := ⟨_, rfl⟩
        have HLR : Hid (∀ W, Calls Try.prog 108 #[.agg #[.int .i64 m, .int .i64 d], .int .i64 k] W fun e w' => e = .returned (.int .i64 (N : Int)) ∧ Below W.heap.size W w') := Lib.hid (fun W => by have := lenRow_any m d k W (by omega) (by omega); rw [hN] at this; exact this)
        have HRI := Lib.hid (hri.below hb)
        have hx1 : wr.cell? ⟨w.heap.size, 1, none⟩ = some (.slice (some ⟨bb, off, none⟩) L c) := hx.2.1
        have v0 : wr.cell? ⟨g, 0, none⟩ = some (.int .i64 m) := hv.cell 0 _ rfl
        have v1 : wr.cell? ⟨g, 1, none⟩ = some (.int .i64 d) := hv.cell 1 _ rfl
        have hkd : (k : Int) < (d : Int) + 1 := by omega
        have hk0 : (0 : Int) ≤ (k : Int) := by omega
        have hkL : (k : Int) < (L : Int) := by have := HLd.out; omega
        clear hall hv hx hb hc hri hst hbb
        by_cases hlen : r.length = N
        · obtain ⟨C, hC⟩ : ∃ C, codeN m r = C := ⟨_, rfl⟩
          have HC : Hid (∀ W, Below wr.heap.size wr W → Calls Try.prog 111 #[.int .i64 m, .slice A' r.length c'] W fun e w' => e = .returned (.int .i64 C) ∧ W = w') := Lib.hid (fun W hW => by have := codeOfNumbers_any m A' c' r W hrl (HRI.out.below hW); rw [hC] at this; exact this)
          rw [hlen] at hck HC
          have HN := Lib.hid hN
          have HLN := Lib.hid hlen
          by_cases hC0 : C = 0
          · subst hC0
            have hm : isM m = true := by
              by_cases hm : isM m = true
              · exact hm
              · unfold codeN at hC; rw [if_neg hm] at hC; exact absurd hC (by decide)
            have HMM := Lib.hid hm
            have hok : rowOk m (d + 1) t k = true := by
              have ha : allIn 0 (m - 1) r = true := by
                by_cases ha : allIn 0 (m - 1) r = true
                · exact ha
                · unfold codeN at hC; rw [if_pos hm, if_neg ha] at hC; exact absurd hC (by decide)
              rw [HST.out, ha, decide_eq_true (by omega)]; rfl
            have HOK := Lib.hid (show (List.range (k + 1)).all (rowOk m (d + 1) t) = true by rw [all_succ, HA.out, hok]; rfl)
            clear hC hok hlen hr hN hm
            go_wp2_with fail
            refine (HLR.out _).mono ?_
            rintro e w2 ⟨rfl, hb2⟩
            have x0 : w2.cell? ⟨g, 0, none⟩ = some (.int .i64 m) := (HV.out.keep hb2).cell 0 _ rfl
            go_wp2_with fail
            refine (HC.out _ hb2).mono ?_
            rintro e w3 ⟨rfl, rfl⟩
            go_wp2
            go_roundw
            case rel => exact ⟨k + 1, by omega, by go_num, HOK.out, fun _ => HMM.out, HV.out.keep hb2, HX.out.keep hb2, below_step HB.out hb2⟩
            case measure => simp only [intOf]; omega
          · obtain ⟨n1, n2⟩ := ne_facts hC0
            have hno : R = false := by
              rw [← HRR.out]
              unfold isP
              by_cases hm : isM m = true
              · have hf : rowOk m t.length t k = false := by
                  rw [HD.out, HST.out]
                  unfold codeN at hC
                  rw [if_pos hm] at hC
                  by_cases ha : allIn 0 (m - 1) r = true
                  · rw [if_pos ha] at hC; exact absurd hC.symm hC0
                  · rw [Bool.eq_false_iff.2 ha, Bool.and_false]
                rw [all_no _ k t.length (by have := HD.out; omega) hf, Bool.and_false, Bool.and_false]
              · rw [Bool.eq_false_iff.2 hm]; rfl
            have HNO := Lib.hid hno
            clear hC hno hlen hr hN hC0
            go_wp2_with fail
            refine (HLR.out _).mono ?_
            rintro e w2 ⟨rfl, hb2⟩
            have x0 : w2.cell? ⟨g, 0, none⟩ = some (.int .i64 m) := (HV.out.keep hb2).cell 0 _ rfl
            go_wp2_with fail
            refine (HC.out _ hb2).mono ?_
            rintro e w3 ⟨rfl, rfl⟩
            go_wp2
            go_ret
            exact ⟨ret_bool HNO.out.symm, below_step HB.out hb2⟩
        · have hlen2 : ¬ (r.length : Int) = (N : Int) := by omega
          obtain ⟨n1, n2⟩ : ((r.length : Int) == (N : Int)) = false ∧ ((r.length : Int) != (N : Int)) = true := ⟨by simpa using hlen2, by simpa using hlen2⟩
          have hno : R = false := by
            rw [← HRR.out]
            unfold isP
            have hf : rowOk m t.length t k = false := by rw [HD.out, HST.out, decide_eq_false (by omega)]; rfl
            rw [all_no _ k t.length (by have := HD.out; omega) hf, Bool.and_false, Bool.and_false]
          have HNO := Lib.hid hno
          obtain ⟨rl, hrl2⟩ : ∃ q, r.length = q := ⟨_, rfl⟩
          rw [hrl2] at hck n1 n2 hlen2 hrl
          clear hno hr hN hlen HRI hrl2
          go_wp2_with fail
          refine (HLR.out _).mono ?_
          rintro e w2 ⟨rfl, hb2⟩
          go_wp2
          go_ret
          exact ⟨ret_bool HNO.out.symm, below_step HB.out hb2⟩
      · obtain rfl : k = d + 1 := by omega
        have hyes : R = true := by
          rw [← HRR.out]
          unfold isP
          have := HI.out
          rw [inB_iff] at this
          rw [HMK.out (by omega), (inB_iff _ _ _).2 (show (2 : Int) ≤ t.length ∧ (t.length : Int) ≤ 11 by omega), HD.out, hall]; rfl
        have HY := Lib.hid hyes
        clear hyes hall hv hx hb
        go_wp2
        go_ret
        exact ⟨ret_bool HY.out.symm, HB.out⟩
  · have hw1 : inB ((t.length : Int) - 1) 1 10 = false := by simpa using h1
    have hno : R = false := by
      rw [← HRR.out]
      unfold isP
      rw [inB_no (show ¬ ((2 : Int) ≤ t.length ∧ (t.length : Int) ≤ 11) by intro h; exact h1 ((inB_iff _ _ _).2 (by omega))), Bool.false_and, Bool.and_false]
    have HNO := Lib.hid hno
    have HG := Lib.hid (fun W => gridOf_any m A t.length c W hl)
    have hfd := field_frame
    obtain ⟨D, hD⟩ : ∃ D, (t.length : Int) - 1 = D := ⟨_, rfl⟩
    rw [hD] at HG hw1
    clear h1 hno hD
    go_enter Try.func91, Try.ntmps91
    go_wp2_with fail
    refine (HG.out _).mono ?_
    rintro e w1 ⟨rfl, hb1⟩
    go_wp2_with fail
    refine (isWithin_any _ _ _ _).mono ?_
    rintro e w' ⟨rfl, rfl⟩
    rw [hw1]
    go_wp2
    go_ret
    exact ⟨ret_bool HNO.out.symm, below_alloc _ (below_step (below_one _ _) hb1)⟩
end Go.Proofs.Ytlpfifdocgljnaa

/- Contracts of the looks at planes, of the model; of the codes of planes. -/
namespace Go.Proofs.Ytlpfifdocgljnaa
open Go.RowKit Go.WideShapes Go.ChangeShapes Go.ChangeAt

theorem l03Make_any (m : Int) (A : Option Addr) (n c : Nat) (w : World) :
    Calls Try.prog 42 #[.int .i64 m, .slice A n c] w fun e w' => e = .returned (.agg #[.int .i64 m, .slice A n c]) ∧ Below w.heap.size w w' := by
  go_enter Try.func42, Try.ntmps42
  go_wp2
  exact bodyPost_ret (v := .agg #[.int .i64 m, .slice A n c]) (by simp [results, Try.results42, go_sem]) rfl ⟨rfl, below_one _ _⟩

set_option maxHeartbeats 2000000 in
set_option maxRecDepth 100000 in
theorem l03Is_any (m : Int) (A : Option Addr) (c : Nat) (t : List (List Int)) (w : World) (hl : t.length ≤ 9223372036854775807) (hrl : ∀ k, (Pl.rw' t k).length ≤ 9223372036854775807) (hr : RP w A t) :
    Calls Try.prog 89 #[.agg #[.int .i64 m, .slice A t.length c]] w fun e w' => e = .returned (.bool (isP m t)) ∧ Below w.heap.size w w' := by
  obtain ⟨W, hW, hx, hwb⟩ := start1 32 w m A t.length c
  have HR := Lib.hid (hr.below hwb)
  have HRL := Lib.hid hrl
  have HX := Lib.hid hx
  have HB := Lib.hid hwb
  have HW := Lib.hid hW
  clear hr hrl hwb hx hW
  obtain ⟨R, hR⟩ : ∃ R, isP m t = R := ⟨_, rfl⟩
  rw [hR]
  have HRR := Lib.hid hR
  clear hR
  by_cases hm : isM m = true
  · obtain ⟨m1, m2⟩ := (isM_iff m).1 hm
    have HM := Lib.hid hm
    have hlm := fun W => l01Modulus_any m W
    rw [hm] at hlm
    have HLM := Lib.hid hlm
    clear hm hlm
    by_cases h1 : 2 ≤ t.length ∧ t.length ≤ 11
    · obtain ⟨L, hL⟩ : ∃ L, t.length = L := ⟨_, rfl⟩
      have HL := Lib.hid hL
      rw [hL] at h1 HW HX ⊢
      obtain ⟨h1, h2⟩ := h1
      have z1 : (2 : Int) ≤ (L : Int) := by omega
      have z2 : (L : Int) ≤ 11 := by omega
      clear hL hl
      go_enter Try.func89, Try.ntmps89
      go_wp2_with fail
      rw [HW.out]
      refine (HLM.out _).mono ?_
      rintro e w' ⟨rfl, rfl⟩
      go_wp2
      go_loopw [4] (fun i wr => ∃ k : Nat, k ≤ L ∧ i = .int .i64 k ∧ (List.range k).all (rowOk m L t) = true ∧ Box wr w.heap.size m A L c ∧ Below W.heap.size W wr) (fun i _ => L - (intOf i).toNat)
      case atStart => exact ⟨0, Nat.zero_le _, rfl, rfl, HX.out, Below.refl _ _⟩
      case round =>
        obtain ⟨k, hk, rfl, hall, hx, hb⟩ := hrel
        have HB' := Lib.hid hb
        have HX' := Lib.hid hx
        have HA := Lib.hid hall
        by_cases hlt : k < L
        · obtain ⟨bb, off, A', c', rfl, hbb, hc, _, hri⟩ := HR.out.at k (by have := HL.out; omega)
          have hck := (hb.cell (p := ⟨bb, off + k, none⟩) hbb).trans hc
          have hrl := HRL.out k
          have hst : rowOk m L t k = (decide ((Pl.rw' t k).length + k = L) && allIn 0 (m - 1) (Pl.rw' t k)) := rfl
          obtain ⟨r, hr⟩ : ∃ r, Pl.rw' t k = r := ⟨_, rfl⟩
          rw [hr] at hck hrl hst hri
          have HST := Lib.hid hst
          have HRI := Lib.hid (hri.below hb)
          obtain ⟨x1, x2, _⟩ := hx
          have j0 : (0 : Int) ≤ (k : Int) := by omega
          have j1 : (k : Int) < (L : Int) := by omega
          clear hall hb hc hri hst hbb hr
          by_cases hlen : r.length + k = L
          · have hle : (L : Int) - (k : Int) = (r.length : Int) := by omega
            obtain ⟨q, hq⟩ : ∃ q, allIn 0 (m - 1) r = q := ⟨_, rfl⟩
            have HN : Hid (∀ n, Calls Try.prog 72 #[.int .i64 m, .slice A' r.length c'] (wr.drewN n) fun e w' => e = .returned (.bool q) ∧ w' = wr.drewN n) :=
              Lib.hid (fun n => by have := l01Numbers_any m A' c' r (wr.drewN n) m1 m2 hrl HRI.out; rw [hq] at this; exact this.mono fun e w' ⟨p1, p2⟩ => ⟨p1, p2.symm⟩)
            obtain ⟨rl, hrl2⟩ : ∃ q, r.length = q := ⟨_, rfl⟩
            have HQ := Lib.hid hq
            have HLN := Lib.hid hlen
            have HR2 := Lib.hid hrl2
            rw [hrl2] at hck hrl hle HN
            clear hq hlen hrl2
            cases q with
            | true =>
              have HOK := Lib.hid (show (List.range (k + 1)).all (rowOk m L t) = true by rw [all_succ, HA.out, HST.out, HQ.out, decide_eq_true HLN.out]; rfl)
              go_wp2
              go_quiet ((go_at_call 72; exact Calls.quiet_of_same (HN.out _)))
              go_wp2
              go_roundw
              case rel => exact ⟨k + 1, by omega, by go_num, HOK.out, HX'.out, below_drewN HB'.out _⟩
              case measure => simp only [intOf]; omega
            | false =>
              have hno : R = false := by
                rw [← HRR.out]
                unfold isP
                have hf : rowOk m t.length t k = false := by rw [HL.out, HST.out, HQ.out, Bool.and_false]
                rw [all_no _ k t.length (by have := HL.out; omega) hf, Bool.and_false, Bool.and_false]
              have HNO := Lib.hid hno
              clear hno
              go_wp2
              go_quiet ((go_at_call 72; exact Calls.quiet_of_same (HN.out _)))
              go_wp2
              go_ret
              exact ⟨ret_bool HNO.out.symm, below_drewN (below_step HB.out HB'.out) _⟩
          · have hno : R = false := by
              rw [← HRR.out]
              unfold isP
              have hf : rowOk m t.length t k = false := by rw [HL.out, HST.out, decide_eq_false hlen, Bool.false_and]
              rw [all_no _ k t.length (by have := HL.out; omega) hf, Bool.and_false, Bool.and_false]
            have HNO := Lib.hid hno
            obtain ⟨rl, hrl2⟩ : ∃ q, r.length = q := ⟨_, rfl⟩
            have hle : ¬ (r.length : Int) = (L : Int) - (k : Int) := by omega
            rw [hrl2] at hck hrl hle
            obtain ⟨n1, n2⟩ : ((rl : Int) == (L : Int) - (k : Int)) = false ∧ ((rl : Int) != (L : Int) - (k : Int)) = true := ⟨by simpa using hle, by simpa using hle⟩
            clear hno hlen hrl2 HRI
            go_wp2
            go_quiet (fail)
            go_wp2
            go_ret
            exact ⟨ret_bool HNO.out.symm, below_drewN (below_step HB.out HB'.out) _⟩
        · obtain rfl : k = L := by omega
          have hyes : R = true := by
            rw [← HRR.out]
            unfold isP
            rw [HM.out, HL.out, (inB_iff _ _ _).2 ⟨z1, z2⟩, hall]; rfl
          have HY := Lib.hid hyes
          clear hyes hall hx hb
          go_wp2
          go_ret
          exact ⟨ret_bool HY.out.symm, below_step HB.out HB'.out⟩
    · have hno : R = false := by
        rw [← HRR.out]
        unfold isP
        rw [inB_no (show ¬ ((2 : Int) ≤ t.length ∧ (t.length : Int) ≤ 11) by omega), Bool.false_and, Bool.and_false]
      have HNO := Lib.hid hno
      clear hno
      by_cases h2 : t.length < 2
      · go_enter Try.func89, Try.ntmps89
        go_wp2_with fail
        rw [HW.out]
        refine (HLM.out _).mono ?_
        rintro e w' ⟨rfl, rfl⟩
        go_wp2
        go_ret
        exact ⟨ret_bool HNO.out.symm, HB.out⟩
      · have h3 : (11 : Int) < (t.length : Int) := by omega
        clear h1
        go_enter Try.func89, Try.ntmps89
        go_wp2_with fail
        rw [HW.out]
        refine (HLM.out _).mono ?_
        rintro e w' ⟨rfl, rfl⟩
        go_wp2
        go_ret
        exact ⟨ret_bool HNO.out.symm, HB.out⟩
  · have hm' : isM m = false := by simpa using hm
    have HNO := Lib.hid (show R = false by rw [← HRR.out]; unfold isP; rw [hm']; rfl)
    have hlm := fun W => l01Modulus_any m W
    rw [hm'] at hlm
    have HLM := Lib.hid hlm
    clear hm hm' hlm
    go_enter Try.func89, Try.ntmps89
    go_wp2_with fail
    rw [HW.out]
    refine (HLM.out _).mono ?_
    rintro e w' ⟨rfl, rfl⟩
    go_wp2
    go_ret
    exact ⟨ret_bool HNO.out.symm, HB.out⟩
end Go.Proofs.Ytlpfifdocgljnaa

/- Contracts of IsPlane at planes of bounded size. -/
namespace Go.Proofs.Ytlpfifdocgljnaa
open Go.RowKit Go.WideShapes Go.ChangeShapes Go.ChangeAt

theorem IsPlane_any (m : Int) (A : Option Addr) (c : Nat) (t : List (List Int)) (w : World) (hz : szT t ≤ 1048576) (hr : RP w A t) :
    Calls Try.prog 91 #[.agg #[.int .i64 m, .slice A t.length c]] w fun e w' => e = .returned (.bool (isP m t)) ∧ Below w.heap.size w w' := IsPlane_c m A c t w (lenT hz) (rowT hz) hr
theorem l03Is_z (m : Int) (A : Option Addr) (c : Nat) (t : List (List Int)) (w : World) (hz : szT t ≤ 1048576) (hr : RP w A t) :
    Calls Try.prog 89 #[.agg #[.int .i64 m, .slice A t.length c]] w fun e w' => e = .returned (.bool (isP m t)) ∧ Below w.heap.size w w' := l03Is_any m A c t w (lenT hz) (rowT hz) hr
end Go.Proofs.Ytlpfifdocgljnaa

/- Contracts of the codes of planes: one, two; of the program and of the model. -/
namespace Go.Proofs.Ytlpfifdocgljnaa
open Go.RowKit Go.WideShapes Go.ChangeShapes Go.ChangeAt

/-- the code of one plane, of two -/
def codeP1 (m : Int) (t : List (List Int)) : Int := if isP m t = true then 0 else 1
def codeP2 (m : Int) (t : List (List Int)) (m' : Int) (t' : List (List Int)) : Int := if isP m t = true ∧ isP m' t' = true then (if m = m' ∧ t.length = t'.length then 0 else 2) else 1
theorem var_inT {T : TypeId} {w w' : World} {g : Nat} {m m' : Int} {A A' : Option Addr} {n c n' c' : Nat} (hx : Box w g m A n c) (hb : Below w.heap.size w w') :
    ∃ W, (w'.alloc (.cells #[.int .i64 m', .slice A' n' c'] T)) = W ∧ Box W w'.heap.size m' A' n' c' ∧ Box W g m A n c ∧ Below w.heap.size w W :=
  ⟨_, rfl, Box.newT _ _ _ _ _ _, hx.keep (below_alloc _ hb), below_alloc _ hb⟩


theorem codeP1_zero {m : Int} {t : List (List Int)} (h : codeP1 m t = 0) : isP m t = true := by
  unfold codeP1 at h
  by_cases h1 : isP m t = true
  · exact h1
  · rw [if_neg h1] at h; exact absurd h (by decide)
theorem codeP1_yes {m : Int} {t : List (List Int)} (h : isP m t = true) : codeP1 m t = 0 := by unfold codeP1; rw [if_pos h]
theorem codeP1_no {m : Int} {t : List (List Int)} (h : isP m t = false) : codeP1 m t = 1 := by unfold codeP1; rw [h]; rfl
theorem codeP2_ok {m : Int} {t : List (List Int)} {m' : Int} {t' : List (List Int)} (h : codeP2 m t m' t' = 0) : m = m' ∧ ∃ d, t.length = d + 1 ∧ t'.length = d + 1 ∧ Pl.Ok m d t ∧ Pl.Ok m d t' := by
  unfold codeP2 at h
  by_cases h1 : isP m t = true ∧ isP m' t' = true
  · rw [if_pos h1] at h
    by_cases h2 : m = m' ∧ t.length = t'.length
    · obtain ⟨rfl, h2⟩ := h2
      obtain ⟨d, e, s⟩ := plOk_of h1.1
      obtain ⟨d', e', s'⟩ := plOk_of h1.2
      obtain rfl : d' = d := by omega
      exact ⟨rfl, d', e, e', s, s'⟩
    · rw [if_neg h2] at h; exact absurd h (by decide)
  · rw [if_neg h1] at h; exact absurd h (by decide)
end Go.Proofs.Ytlpfifdocgljnaa

