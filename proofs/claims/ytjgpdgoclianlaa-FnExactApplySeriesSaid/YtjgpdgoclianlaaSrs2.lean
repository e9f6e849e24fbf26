/- Contracts of the codes of series: one, two, one with a number. -/
import Derived.Test.YtjgpdgoclianlaaSrs
namespace Go.Proofs.Ytjgpdgoclianlaa
open Go.RowKit Go.WideShapes Go.ChangeShapes Go.ChangeAt

/-- a list's coefficients as numbers -/
def isC (m : Int) (l : List Int) : Bool := isS m l && (l[0]?.getD 0 == 0)
set_option maxHeartbeats 1000000 in
theorem IsCurve_any (m : Int) (A : Option Addr) (c : Nat) (l : List Int) (w : World) (hl : l.length ≤ 9223372036854775807) (hr : RI w A l) :
    Calls Try.prog 120 #[.agg #[.int .i64 m, .slice A l.length c]] w fun e w' => e = .returned (.bool (isC m l)) ∧ Below w.heap.size w w' := by
  have HR := Lib.hid hr
  by_cases h1 : isS m l = true
  · obtain ⟨k1, k2, _⟩ := isS_iff h1
    have HF := Lib.hid (show isC m l = (l[0]?.getD 0 == 0) by unfold isC; rw [h1]; rfl)
    obtain ⟨b, off, rfl, hb, hc⟩ := hr (by rintro rfl; simp at k1)
    have hc0 : w.cell? ⟨b, off, none⟩ = some (.int .i64 (l[0]?.getD 0)) := hc 0 (by omega)
    obtain ⟨x, hx⟩ : ∃ x, l[0]?.getD 0 = x := ⟨_, rfl⟩
    rw [hx] at hc0
    have HX := Lib.hid hx
    have HB := Lib.hid hb
    clear hx hc hb
    have z1 : (0 : Int) < (l.length : Int) := by omega
    go_enter Try.func120, Try.ntmps120
    go_wp2_with (first
      | (go_at_call 123; refine (IsSeries_any _ _ _ l _ hl (HR.out.below (below_one _ _))).mono ?_; rintro e w1 ⟨rfl, hb1⟩; have hb2 := (below_one w (.cells #[.int .i64 m, .slice (some ⟨b, off, none⟩) l.length c] 49)).trans (hb1.mono (by simp)); obtain ⟨x1, x2⟩ := box_in (Box.new w m (some ⟨b, off, none⟩) l.length c) hb1; have x3 := (hb2.cell (p := ⟨b, off, none⟩) HB.out).trans hc0))
    go_ret
    exact ⟨ret_bool (by rw [HF.out, HX.out]), by assumption⟩
  · have h1' : isS m l = false := by simpa using h1
    have HF := Lib.hid (show isC m l = false by unfold isC; rw [h1']; rfl)
    clear h1
    go_enter Try.func120, Try.ntmps120
    go_wp2_with (first
      | (go_at_call 123; refine (IsSeries_any _ _ _ l _ hl (HR.out.below (below_one _ _))).mono ?_; rintro e w1 ⟨rfl, hb1⟩; have hb2 := (below_one w (.cells #[.int .i64 m, .slice A l.length c] 49)).trans (hb1.mono (by simp))))
    go_ret
    exact ⟨ret_bool HF.out.symm, by assumption⟩

/-- the code of one series, of two -/
def code1 (m : Int) (l : List Int) : Int := if isS m l = true then 0 else 1
def code2 (m : Int) (l : List Int) (m' : Int) (l' : List Int) : Int := if isS m l = true ∧ isS m' l' = true then (if m = m' ∧ l.length = l'.length then 0 else 2) else 1

theorem var_in {w w' : World} {g : Nat} {m m' : Int} {A A' : Option Addr} {n c n' c' : Nat} (hx : Box w g m A n c) (hb : Below w.heap.size w w') :
    ∃ W, (w'.alloc (.cells #[.int .i64 m', .slice A' n' c'] 49)) = W ∧ Box W w'.heap.size m' A' n' c' ∧ Box W g m A n c ∧ Below w.heap.size w W :=
  ⟨_, rfl, Box.new _ _ _ _ _, hx.keep (below_alloc _ hb), below_alloc _ hb⟩

set_option maxHeartbeats 2000000 in
theorem codeOfSeries1_any (g : Nat) (m : Int) (A : Option Addr) (c : Nat) (l : List Int) (w : World) (hl : l.length ≤ 9223372036854775807) (hr : RI w A l) (hx : Box w g m A l.length c) :
    Calls Try.prog 101 #[.slice (some ⟨g, 0, none⟩) 1 1] w fun e w' => e = .returned (.int .i64 (code1 m l)) ∧ Below w.heap.size w w' := by
  have HR := Lib.hid hr
  have HX := Lib.hid hx
  obtain ⟨x1, x2, x3⟩ := hx
  clear hr x3
  by_cases h1 : isS m l = true
  · have HF := Lib.hid (show code1 m l = 0 by unfold code1; rw [if_pos h1])
    go_enter Try.func101, Try.ntmps101
    go_wp2
    refine wp_loop_rounds 2 ?_
    rw [rounds_succ]
    go_wp2_with fail
    refine (IsSeries_any _ _ _ l _ hl (HR.out.below (below_one _ _))).mono ?_
    rintro e w1 ⟨rfl, hb1⟩
    have hb2 := (below_one w (.cells #[.int .i64 m, .slice A l.length c] 49)).trans (hb1.mono (by simp))
    obtain ⟨y1, y2, y3⟩ := HX.out.keep hb2
    go_wp2
    rw [rounds_succ]
    go_wp2
    refine wp_loop_rounds 2 ?_
    rw [rounds_succ]
    go_wp2
    obtain ⟨W, hW, b1, b2, hwb⟩ := var_in (m' := m) (A' := A) (n' := l.length) (c' := c) HX.out hb2
    rw [hW]
    have B1 := Lib.hid b1
    have B2 := Lib.hid b2
    have HB := Lib.hid hwb
    clear hW b1 b2 hwb hb1 hb2
    go_region_held3 (fun w' => (w'.cell? ⟨w1.heap.size, 0, none⟩ = some (.int .i64 m) ∧ w'.cell? ⟨w1.heap.size, 1, none⟩ = some (.slice A l.length c)) ∧ (w'.cell? ⟨g, 0, none⟩ = some (.int .i64 m) ∧ w'.cell? ⟨g, 1, none⟩ = some (.slice A l.length c)) ∧ Below W.heap.size W w') (first | exact box2_in B1.out B2.out (below_drew0 _) | exact box2_next B1.out B2.out (by assumption) (by assumption)) (first
      | (go_at_call 125; refine (isAlike_any _ _ _ _ _ _ _ _ _ hl hl).mono ?_; rintro e1 w2 ⟨rfl, hb3⟩))
    all_goals
      go_wp2
      rw [rounds_succ]
      go_wp2
      go_ret
      exact ⟨ret_int HF.out.symm, HB.out.trans ((box2_next B1.out B2.out (Below.refl _ _) (by assumption)).2.2.mono HB.out.size)⟩
  · have h1' : isS m l = false := by simpa using h1
    have HF := Lib.hid (show code1 m l = 1 by unfold code1; rw [if_neg h1])
    clear h1
    go_enter Try.func101, Try.ntmps101
    go_wp2
    refine wp_loop_rounds 2 ?_
    rw [rounds_succ]
    go_wp2_with (first
      | (go_at_call 123; refine (IsSeries_any _ _ _ l _ hl (HR.out.below (below_one _ _))).mono ?_; rintro e w1 ⟨rfl, hb1⟩; have hb2 := (below_one w (.cells #[.int .i64 m, .slice A l.length c] 49)).trans (hb1.mono (by simp))))
    go_ret
    exact ⟨ret_int HF.out.symm, by assumption⟩

/-- a list of two series in block g -/
def Box4 (w : World) (g : Nat) (m : Int) (A : Option Addr) (n c : Nat) (m' : Int) (A' : Option Addr) (n' c' : Nat) : Prop :=
  Box w g m A n c ∧ w.cell? ⟨g, 2, none⟩ = some (.int .i64 m') ∧ w.cell? ⟨g, 3, none⟩ = some (.slice A' n' c')
theorem Box4.keep {w w' : World} {g : Nat} {m : Int} {A : Option Addr} {n c : Nat} {m' : Int} {A' : Option Addr} {n' c' : Nat} (h : Box4 w g m A n c m' A' n' c') (hb : Below w.heap.size w w') : Box4 w' g m A n c m' A' n' c' :=
  ⟨h.1.keep hb, (hb.cell (p := ⟨g, 2, none⟩) h.1.2.2).trans h.2.1, (hb.cell (p := ⟨g, 3, none⟩) h.1.2.2).trans h.2.2⟩
theorem Box4.new (w : World) (m : Int) (A : Option Addr) (n c : Nat) (m' : Int) (A' : Option Addr) (n' c' : Nat) : Box4 (w.alloc (.cells #[.int .i64 m, .slice A n c, .int .i64 m', .slice A' n' c'] 49)) w.heap.size m A n c m' A' n' c' := by
  refine ⟨⟨?_, ?_, by simp⟩, ?_, ?_⟩ <;> rw [World.cell?_alloc_at _ _ _ _ rfl] <;> rfl

set_option maxHeartbeats 4000000 in
theorem codeOfSeries2_any (g : Nat) (m : Int) (A : Option Addr) (c : Nat) (l : List Int) (m' : Int) (A' : Option Addr) (c' : Nat) (l' : List Int) (w : World) (hl : l.length ≤ 9223372036854775807) (hl' : l'.length ≤ 9223372036854775807)
    (hr : RI w A l) (hr' : RI w A' l') (hx : Box4 w g m A l.length c m' A' l'.length c') :
    Calls Try.prog 101 #[.slice (some ⟨g, 0, none⟩) 2 2] w fun e w' => e = .returned (.int .i64 (code2 m l m' l')) ∧ Below w.heap.size w w' := by
  have HR := Lib.hid hr
  have HR' := Lib.hid hr'
  have HX := Lib.hid hx
  obtain ⟨⟨x1, x2, _⟩, x3, x4⟩ := hx
  clear hr hr'
  by_cases h1 : isS m l = true
  · by_cases h2 : isS m' l' = true
    · have hal : ∀ b : Bool, (decide (m' = m) && decide (l'.length = l.length)) = b → (code2 m l m' l' = if b then 0 else 2) := by
        intro b hb
        subst hb
        unfold code2
        rw [if_pos ⟨h1, h2⟩]
        have q1 : (m = m' ∧ l.length = l'.length) ↔ ((decide (m' = m) && decide (l'.length = l.length)) = true) := by
          rw [Bool.and_eq_true, decide_eq_true_iff, decide_eq_true_iff]
          exact ⟨fun h => ⟨h.1.symm, h.2.symm⟩, fun h => ⟨h.1.symm, h.2.symm⟩⟩
        by_cases q : m = m' ∧ l.length = l'.length
        · rw [if_pos q, q1.1 q]; rfl
        · rw [if_neg q, Bool.eq_false_iff.2 (fun h => q (q1.2 h))]; rfl
      have HAL := Lib.hid hal
      clear hal
      go_enter Try.func101, Try.ntmps101
      go_wp2
      refine wp_loop_rounds 3 ?_
      rw [rounds_succ]
      go_wp2_with fail
      refine (IsSeries_any _ _ _ l _ hl (HR.out.below (below_one _ _))).mono ?_
      rintro e w1 ⟨rfl, hb1⟩
      have hb2 := (below_one w (.cells #[.int .i64 m, .slice A l.length c] 49)).trans (hb1.mono (by simp))
      obtain ⟨⟨y1, y2, _⟩, y3, y4⟩ := HX.out.keep hb2
      go_wp2
      rw [rounds_succ]
      go_wp2_with fail
      refine (IsSeries_any _ _ _ l' _ hl' (HR'.out.below (below_alloc _ hb2))).mono ?_
      rintro e w2 ⟨rfl, hb3⟩
      have hb4 := (below_alloc (.cells #[.int .i64 m', .slice A' l'.length c'] 49) hb2).trans (hb3.mono (by have := hb2.size; simp; omega))
      clear y1 y2 y3 y4 hb1 hb2 hb3
      obtain ⟨⟨y1, y2, _⟩, y3, y4⟩ := HX.out.keep hb4
      go_wp2
      rw [rounds_succ]
      go_wp2
      refine wp_loop_rounds 3 ?_
      rw [rounds_succ]
      go_wp2
      obtain ⟨W, hW, b1, b2, hwb⟩ := var_in (m' := m) (A' := A) (n' := l.length) (c' := c) HX.out.1 hb4
      rw [hW]
      have B1 := Lib.hid b1
      have B2 := Lib.hid b2
      have HB := Lib.hid hwb
      clear hW b1 b2 hwb
      go_region_held3 (fun w' => (w'.cell? ⟨w2.heap.size, 0, none⟩ = some (.int .i64 m) ∧ w'.cell? ⟨w2.heap.size, 1, none⟩ = some (.slice A l.length c)) ∧ (w'.cell? ⟨g, 0, none⟩ = some (.int .i64 m) ∧ w'.cell? ⟨g, 1, none⟩ = some (.slice A l.length c)) ∧ Below W.heap.size W w') (first | exact box2_in B1.out B2.out (below_drew0 _) | exact box2_next B1.out B2.out (by assumption) (by assumption)) (first
        | (go_at_call 125; refine (isAlike_any _ _ _ _ _ _ _ _ _ hl hl).mono ?_; rintro e1 w3 ⟨rfl, hb5⟩))
      have hb6 : Below w.heap.size w w3 := HB.out.trans ((box2_next B1.out B2.out (Below.refl _ _) (by assumption)).2.2.mono HB.out.size)
      clear y1 y2 y3 y4
      obtain ⟨⟨y1, y2, _⟩, y3, y4⟩ := HX.out.keep hb6
      clear B1 B2 HB hb5
      go_wp2
      rw [rounds_succ]
      go_wp2
      obtain ⟨W', hW, b1, b2, hwb⟩ := var_in (m' := m') (A' := A') (n' := l'.length) (c' := c') HX.out.1 hb6
      rw [hW]
      have B1 := Lib.hid b1
      have B2 := Lib.hid b2
      have HB := Lib.hid hwb
      clear hW b1 b2 hwb
      obtain ⟨q, hq⟩ : ∃ q, (decide (m' = m) && decide (l'.length = l.length)) = q := ⟨_, rfl⟩
      have HC := Lib.hid (HAL.out q hq)
      have HQ : Hid (∀ W0 : World, Calls Try.prog 125 #[.agg #[.int .i64 m', .slice A' l'.length c'], .agg #[.int .i64 m, .slice A l.length c]] W0 fun e w' => e = .returned (.bool q) ∧ Below W0.heap.size W0 w') :=
        Lib.hid (fun W0 => by have := isAlike_any m' m A' A l'.length c' l.length c W0 hl' hl; rw [hq] at this; exact this)
      clear hq HAL
      cases q
      all_goals
        go_region_held3 (fun w' => (w'.cell? ⟨w3.heap.size, 0, none⟩ = some (.int .i64 m') ∧ w'.cell? ⟨w3.heap.size, 1, none⟩ = some (.slice A' l'.length c')) ∧ (w'.cell? ⟨g, 0, none⟩ = some (.int .i64 m) ∧ w'.cell? ⟨g, 1, none⟩ = some (.slice A l.length c)) ∧ Below W'.heap.size W' w') (first | exact box2_in B1.out B2.out (below_drew0 _) | exact box2_next B1.out B2.out (by assumption) (by assumption)) (first
          | (go_at_call 125; refine (HQ.out _).mono ?_; rintro e1 w4 ⟨rfl, hb7⟩))
        have hb8 : Below w.heap.size w w4 := HB.out.trans ((box2_next B1.out B2.out (Below.refl _ _) (by assumption)).2.2.mono HB.out.size)
        clear B1 B2 HB hb7 y1 y2 y3 y4
        go_wp2
        first
          | (go_ret; exact ⟨ret_int HC.out.symm, hb8⟩)
          | (rw [rounds_succ]; go_wp2; go_ret; exact ⟨ret_int HC.out.symm, hb8⟩)
    · have h2' : isS m' l' = false := by simpa using h2
      have HF := Lib.hid (show code2 m l m' l' = 1 by unfold code2; rw [if_neg (fun h => h2 h.2)])
      clear h2
      go_enter Try.func101, Try.ntmps101
      go_wp2
      refine wp_loop_rounds 3 ?_
      rw [rounds_succ]
      go_wp2_with fail
      refine (IsSeries_any _ _ _ l _ hl (HR.out.below (below_one _ _))).mono ?_
      rintro e w1 ⟨rfl, hb1⟩
      have hb2 := (below_one w (.cells #[.int .i64 m, .slice A l.length c] 49)).trans (hb1.mono (by simp))
      obtain ⟨⟨y1, y2, _⟩, y3, y4⟩ := HX.out.keep hb2
      go_wp2
      rw [rounds_succ]
      go_wp2_with fail
      refine (IsSeries_any _ _ _ l' _ hl' (HR'.out.below (below_alloc _ hb2))).mono ?_
      rintro e w2 ⟨rfl, hb3⟩
      have hb4 := (below_alloc (.cells #[.int .i64 m', .slice A' l'.length c'] 49) hb2).trans (hb3.mono (by have := hb2.size; simp; omega))
      go_wp2
      go_ret
      exact ⟨ret_int HF.out.symm, hb4⟩
  · have h1' : isS m l = false := by simpa using h1
    have HF := Lib.hid (show code2 m l m' l' = 1 by unfold code2; rw [if_neg (fun h => h1 h.1)])
    clear h1
    go_enter Try.func101, Try.ntmps101
    go_wp2
    refine wp_loop_rounds 3 ?_
    rw [rounds_succ]
    go_wp2_with fail
    refine (IsSeries_any _ _ _ l _ hl (HR.out.below (below_one _ _))).mono ?_
    rintro e w1 ⟨rfl, hb1⟩
    have hb2 := (below_one w (.cells #[.int .i64 m, .slice A l.length c] 49)).trans (hb1.mono (by simp))
    go_wp2
    go_ret
    exact ⟨ret_int HF.out.symm, hb2⟩
end Go.Proofs.Ytjgpdgoclianlaa
