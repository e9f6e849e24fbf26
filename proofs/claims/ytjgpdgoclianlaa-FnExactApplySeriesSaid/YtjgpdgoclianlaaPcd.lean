/- Contracts of the codes of planes: one, two; of the program and of the model. -/
import Derived.Test.YtjgpdgoclianlaaPls
import Derived.Deep.DeepCutAuto
namespace Go.Proofs.Ytjgpdgoclianlaa
open Go.RowKit Go.WideShapes Go.ChangeShapes Go.ChangeAt

/-- the code of one plane, of two -/
def codeP1 (m : Int) (t : List (List Int)) : Int := if isP m t = true then 0 else 1
def codeP2 (m : Int) (t : List (List Int)) (m' : Int) (t' : List (List Int)) : Int := if isP m t = true ∧ isP m' t' = true then (if m = m' ∧ t.length = t'.length then 0 else 2) else 1
theorem var_inT {T : TypeId} {w w' : World} {g : Nat} {m m' : Int} {A A' : Option Addr} {n c n' c' : Nat} (hx : Box w g m A n c) (hb : Below w.heap.size w w') :
    ∃ W, (w'.alloc (.cells #[.int .i64 m', .slice A' n' c'] T)) = W ∧ Box W w'.heap.size m' A' n' c' ∧ Box W g m A n c ∧ Below w.heap.size w W :=
  ⟨_, rfl, Box.newT _ _ _ _ _ _, hx.keep (below_alloc _ hb), below_alloc _ hb⟩

set_option maxHeartbeats 4000000 in
set_option maxRecDepth 100000 in
theorem codeOfPlanes1_any (g : Nat) (m : Int) (A : Option Addr) (c : Nat) (t : List (List Int)) (w : World) (hz : szT t ≤ 1048576) (hr : RP w A t) (hx : Box w g m A t.length c) :
    Calls Try.prog 63 #[.slice (some ⟨g, 0, none⟩) 1 1] w fun e w' => e = .returned (.int .i64 (codeP1 m t)) ∧ Below w.heap.size w w' := by
  have HR := Lib.hid hr
  have HX := Lib.hid hx
  have HIP := Lib.hid (fun W (h : Below w.heap.size w W) => IsPlane_any m A c t W hz (hr.below h))
  have HG := Lib.hid (fun W => gridOf_any m A t.length c W (lenT hz))
  have hfd := field_frame
  obtain ⟨x1, x2, x3⟩ := hx
  obtain ⟨L, hL⟩ : ∃ L, t.length = L := ⟨_, rfl⟩
  rw [hL] at HX HIP HG x2
  clear hr x3 hL
  by_cases h1 : isP m t = true
  · have HF := Lib.hid (show codeP1 m t = 0 by unfold codeP1; rw [if_pos h1])
    rw [h1] at HIP
    go_enter Try.func63, Try.ntmps63
    go_wp2
    refine wp_loop_rounds 2 ?_
    rw [rounds_succ]
    go_wp2_with fail
    refine (HIP.out _ (below_one _ _)).mono ?_
    rintro e w1 ⟨rfl, hb1⟩
    have hb2 := (below_one w (.cells #[.int .i64 m, .slice A L c] 27)).trans (hb1.mono (by simp))
    obtain ⟨y1, y2, y3⟩ := HX.out.keep hb2
    go_wp2
    rw [rounds_succ]
    go_wp2
    refine wp_loop_rounds 2 ?_
    rw [rounds_succ]
    go_wp2
    obtain ⟨W, hW, b1, b2, hwb⟩ := var_inT (T := 27) (m' := m) (A' := A) (n' := L) (c' := c) HX.out hb2
    rw [hW]
    have B1 := Lib.hid b1
    have B2 := Lib.hid b2
    have HB := Lib.hid hwb
    clear hW b1 b2 hwb hb1 hb2
    go_region_held3 (fun w' => (w'.cell? ⟨w1.heap.size, 0, none⟩ = some (.int .i64 m) ∧ w'.cell? ⟨w1.heap.size, 1, none⟩ = some (.slice A L c)) ∧ (w'.cell? ⟨g, 0, none⟩ = some (.int .i64 m) ∧ w'.cell? ⟨g, 1, none⟩ = some (.slice A L c)) ∧ Below W.heap.size W w') (first | exact box2_in B1.out B2.out (below_drew0 _) | exact box2_next B1.out B2.out (by assumption) (by assumption)) (first
      | (go_at_call 55; refine (HG.out _).mono ?_; rintro e1 w2 ⟨rfl, hb3⟩))
    all_goals
      go_wp2
      rw [rounds_succ]
      go_wp2
      go_ret
      exact ⟨ret_int HF.out.symm, HB.out.trans ((box2_next B1.out B2.out (Below.refl _ _) (by assumption)).2.2.mono HB.out.size)⟩
  · have h1' : isP m t = false := by simpa using h1
    have HF := Lib.hid (show codeP1 m t = 1 by unfold codeP1; rw [if_neg h1])
    rw [h1'] at HIP
    clear h1 h1'
    go_enter Try.func63, Try.ntmps63
    go_wp2
    refine wp_loop_rounds 2 ?_
    rw [rounds_succ]
    go_wp2_with fail
    refine (HIP.out _ (below_one _ _)).mono ?_
    rintro e w1 ⟨rfl, hb1⟩
    have hb2 := (below_one w (.cells #[.int .i64 m, .slice A L c] 27)).trans (hb1.mono (by simp))
    go_wp2
    go_ret
    exact ⟨ret_int HF.out.symm, hb2⟩

set_option maxHeartbeats 8000000 in
set_option maxRecDepth 100000 in
theorem codeOfPlanes2_any (g : Nat) (m : Int) (A : Option Addr) (c : Nat) (t : List (List Int)) (m' : Int) (A' : Option Addr) (c' : Nat) (t' : List (List Int)) (w : World) (hz : szT t ≤ 1048576) (hz' : szT t' ≤ 1048576)
    (hr : RP w A t) (hr' : RP w A' t') (hx : Box4 w g m A t.length c m' A' t'.length c') :
    Calls Try.prog 63 #[.slice (some ⟨g, 0, none⟩) 2 2] w fun e w' => e = .returned (.int .i64 (codeP2 m t m' t')) ∧ Below w.heap.size w w' := by
  have HX := Lib.hid hx
  have HIP := Lib.hid (fun W (h : Below w.heap.size w W) => IsPlane_any m A c t W hz (hr.below h))
  have HIP' := Lib.hid (fun W (h : Below w.heap.size w W) => IsPlane_any m' A' c' t' W hz' (hr'.below h))
  have HG := Lib.hid (fun W => gridOf_any m A t.length c W (lenT hz))
  have HG' := Lib.hid (fun W => gridOf_any m' A' t'.length c' W (lenT hz'))
  have hfd := field_frame
  have HCC : Hid (codeP2 m t m' t' = if isP m t = true ∧ isP m' t' = true then (if m = m' ∧ t.length = t'.length then 0 else 2) else 1) := Lib.hid rfl
  obtain ⟨C, hC⟩ : ∃ C, codeP2 m t m' t' = C := ⟨_, rfl⟩
  obtain ⟨b, hb⟩ : ∃ b, isP m t = b := ⟨_, rfl⟩
  obtain ⟨b', hb'⟩ : ∃ b, isP m' t' = b := ⟨_, rfl⟩
  obtain ⟨L, hL⟩ : ∃ L, t.length = L := ⟨_, rfl⟩
  obtain ⟨L', hL'⟩ : ∃ L, t'.length = L := ⟨_, rfl⟩
  rw [hC] at HCC ⊢
  rw [hb, hb', hL, hL'] at HCC
  rw [hL, hL'] at HX hx
  rw [hL, hb] at HIP
  rw [hL', hb'] at HIP'
  rw [hL] at HG
  rw [hL'] at HG'
  obtain ⟨⟨x1, x2, _⟩, x3, x4⟩ := hx
  clear hr hr' hC hb hb' hL hL' hz hz'
  cases b with
  | true =>
    cases b' with
    | true =>
      have hcc : C = if m' = m ∧ L' = L then 0 else 2 := by
        have := HCC.out
        rw [if_pos ⟨rfl, rfl⟩] at this
        rw [this]
        by_cases h : m = m' ∧ L = L'
        · rw [if_pos h, if_pos ⟨h.1.symm, h.2.symm⟩]
        · rw [if_neg h, if_neg (fun h2 => h ⟨h2.1.symm, h2.2.symm⟩)]
      have HC := Lib.hid hcc
      clear hcc HCC
      go_enter Try.func63, Try.ntmps63
      go_wp2
      refine wp_loop_rounds 3 ?_
      rw [rounds_succ]
      go_wp2_with fail
      refine (HIP.out _ (below_one _ _)).mono ?_
      rintro e w1 ⟨rfl, hb1⟩
      have hb2 := (below_one w (.cells #[.int .i64 m, .slice A L c] 27)).trans (hb1.mono (by simp))
      obtain ⟨⟨y1, y2, _⟩, y3, y4⟩ := HX.out.keep hb2
      go_wp2
      rw [rounds_succ]
      go_wp2_with fail
      refine (HIP'.out _ (below_alloc _ hb2)).mono ?_
      rintro e w2 ⟨rfl, hb3⟩
      have hb4 := (below_alloc (.cells #[.int .i64 m', .slice A' L' c'] 27) hb2).trans (hb3.mono (by have := hb2.size; simp; omega))
      clear y1 y2 y3 y4 hb1 hb2 hb3
      obtain ⟨⟨y1, y2, _⟩, y3, y4⟩ := HX.out.keep hb4
      go_wp2
      rw [rounds_succ]
      go_wp2
      refine wp_loop_rounds 3 ?_
      rw [rounds_succ]
      go_wp2
      obtain ⟨W, hW, b1, b2, hwb⟩ := var_inT (T := 27) (m' := m) (A' := A) (n' := L) (c' := c) HX.out.1 hb4
      rw [hW]
      have B1 := Lib.hid b1
      have B2 := Lib.hid b2
      have HB := Lib.hid hwb
      clear hW b1 b2 hwb
      go_cut [31] from 23 to 30 (fun s wx => s = .bool false ∧ Below w.heap.size w wx)
      case first =>
        go_region_held3 (fun w' => (w'.cell? ⟨w2.heap.size, 0, none⟩ = some (.int .i64 m) ∧ w'.cell? ⟨w2.heap.size, 1, none⟩ = some (.slice A L c)) ∧ (w'.cell? ⟨g, 0, none⟩ = some (.int .i64 m) ∧ w'.cell? ⟨g, 1, none⟩ = some (.slice A L c)) ∧ Below W.heap.size W w') (first | exact box2_in B1.out B2.out (below_drew0 _) | exact box2_next B1.out B2.out (by assumption) (by assumption)) (first
          | (go_at_call 55; refine (HG.out _).mono ?_; rintro e1 w3 ⟨rfl, hb5⟩))
        all_goals
          go_wp2_with fail
          go_meet
          case rel => exact ⟨rfl, HB.out.trans ((box2_next B1.out B2.out (Below.refl _ _) (by assumption)).2.2.mono HB.out.size)⟩
      case rest =>
        obtain ⟨rfl, hb6⟩ := hcut
        clear B1 B2 HB y1 y2 y3 y4 hb4
        obtain ⟨w3, hw3⟩ : ∃ w3, w3 = wc := ⟨_, rfl⟩
        subst hw3
        obtain ⟨⟨y1, y2, _⟩, y3, y4⟩ := HX.out.keep hb6
        go_wp2
        rw [rounds_succ]
        go_wp2
        obtain ⟨W', hW, b1, b2, hwb⟩ := var_inT (T := 27) (m' := m') (A' := A') (n' := L') (c' := c') HX.out.1 hb6
        rw [hW]
        have B1 := Lib.hid b1
        have B2 := Lib.hid b2
        have HB := Lib.hid hwb
        clear hW b1 b2 hwb hb6 y1 y2 y3 y4
        obtain ⟨q, hq⟩ : ∃ q, (!(decide (m' = m) && decide (L' = L))) = q := ⟨_, rfl⟩
        have HC2 : Hid (C = if q then 2 else 0) := Lib.hid (by
          rw [HC.out, ← hq]
          by_cases h : m' = m ∧ L' = L
          · rw [if_pos h, decide_eq_true h.1, decide_eq_true h.2]; rfl
          · rw [if_neg h]
            by_cases h1 : m' = m
            · rw [decide_eq_true h1, decide_eq_false (fun h2 => h ⟨h1, h2⟩)]; rfl
            · rw [decide_eq_false h1]; rfl)
        clear HC
        go_cut [31] from 23 to 30 (fun s wx => s = .bool q ∧ Below w.heap.size w wx)
        case first =>
          by_cases hm : m' = m
          · subst hm
            by_cases hL : L' = L
            · subst hL
              obtain rfl : q = false := by rw [← hq]; simp
              clear hq HC2
              go_region_held3 (fun w' => (w'.cell? ⟨w3.heap.size, 0, none⟩ = some (.int .i64 m') ∧ w'.cell? ⟨w3.heap.size, 1, none⟩ = some (.slice A' L' c')) ∧ (w'.cell? ⟨g, 0, none⟩ = some (.int .i64 m') ∧ w'.cell? ⟨g, 1, none⟩ = some (.slice A L' c)) ∧ Below W'.heap.size W' w') (first | exact box2_in B1.out B2.out (below_drew0 _) | exact box2_next B1.out B2.out (by assumption) (by assumption)) (first
                | (go_at_call 55; with_reducible refine Calls.mono (HG.out _) ?_; rintro e1 w4 ⟨rfl, hb5⟩) | (go_at_call 55; with_reducible refine Calls.mono (HG'.out _) ?_; rintro e1 w4 ⟨rfl, hb5⟩))
              all_goals
                go_wp2_with fail
                go_meet
                case rel => exact ⟨rfl, HB.out.trans ((box2_next B1.out B2.out (Below.refl _ _) (by assumption)).2.2.mono HB.out.size)⟩
            · obtain rfl : q = true := by rw [← hq]; simp [hL]
              have hL2 : ¬ (L' : Int) - 1 = (L : Int) - 1 := by omega
              have hL3 : ((L' : Int) - 1 == (L : Int) - 1) = false := by simpa using hL2
              clear hq HC2 hL
              obtain ⟨D, hD⟩ : ∃ D, (L : Int) - 1 = D := ⟨_, rfl⟩
              obtain ⟨D', hD'⟩ : ∃ D, (L' : Int) - 1 = D := ⟨_, rfl⟩
              rw [hD] at HG hL2 hL3
              rw [hD'] at HG' hL2 hL3
              clear hD hD'
              go_region_held3 (fun w' => (w'.cell? ⟨w3.heap.size, 0, none⟩ = some (.int .i64 m') ∧ w'.cell? ⟨w3.heap.size, 1, none⟩ = some (.slice A' L' c')) ∧ (w'.cell? ⟨g, 0, none⟩ = some (.int .i64 m') ∧ w'.cell? ⟨g, 1, none⟩ = some (.slice A L c)) ∧ Below W'.heap.size W' w') (first | exact box2_in B1.out B2.out (below_drew0 _) | exact box2_next B1.out B2.out (by assumption) (by assumption)) (first
                | (go_at_call 55; with_reducible refine Calls.mono (HG.out _) ?_; rintro e1 w4 ⟨rfl, hb5⟩) | (go_at_call 55; with_reducible refine Calls.mono (HG'.out _) ?_; rintro e1 w4 ⟨rfl, hb5⟩))
              all_goals
                go_wp2_with fail
                go_meet
                case rel => exact ⟨rfl, HB.out.trans ((box2_next B1.out B2.out (Below.refl _ _) (by assumption)).2.2.mono HB.out.size)⟩
          · obtain rfl : q = true := by rw [← hq]; simp [hm]
            have hm3 : (m' == m) = false := by simpa using hm
            clear hq HC2
            obtain ⟨D, hD⟩ : ∃ D, (L : Int) - 1 = D := ⟨_, rfl⟩
            obtain ⟨D', hD'⟩ : ∃ D, (L' : Int) - 1 = D := ⟨_, rfl⟩
            rw [hD] at HG
            rw [hD'] at HG'
            clear hD hD'
            go_region_held3 (fun w' => (w'.cell? ⟨w3.heap.size, 0, none⟩ = some (.int .i64 m') ∧ w'.cell? ⟨w3.heap.size, 1, none⟩ = some (.slice A' L' c')) ∧ (w'.cell? ⟨g, 0, none⟩ = some (.int .i64 m) ∧ w'.cell? ⟨g, 1, none⟩ = some (.slice A L c)) ∧ Below W'.heap.size W' w') (first | exact box2_in B1.out B2.out (below_drew0 _) | exact box2_next B1.out B2.out (by assumption) (by assumption)) (first
              | (go_at_call 55; with_reducible refine Calls.mono (HG.out _) ?_; rintro e1 w4 ⟨rfl, hb5⟩) | (go_at_call 55; with_reducible refine Calls.mono (HG'.out _) ?_; rintro e1 w4 ⟨rfl, hb5⟩))
            all_goals
              go_wp2_with fail
              go_meet
              case rel => exact ⟨rfl, HB.out.trans ((box2_next B1.out B2.out (Below.refl _ _) (by assumption)).2.2.mono HB.out.size)⟩
        case rest =>
          obtain ⟨rfl, hb7⟩ := hcut
          have HB7 := Lib.hid hb7
          clear B1 B2 HB hb7 hq
          cases q
          all_goals
            go_wp2
            first
              | (go_ret; exact ⟨ret_int (by rw [HC2.out]; rfl), HB7.out⟩)
              | (rw [rounds_succ]; go_wp2; go_ret; exact ⟨ret_int (by rw [HC2.out]; rfl), HB7.out⟩)
    | false =>
      have HNO : Hid (C = 1) := Lib.hid (by rw [HCC.out, if_neg (by simp)])
      clear HCC
      go_enter Try.func63, Try.ntmps63
      go_wp2
      refine wp_loop_rounds 3 ?_
      rw [rounds_succ]
      go_wp2_with fail
      refine (HIP.out _ (below_one _ _)).mono ?_
      rintro e w1 ⟨rfl, hb1⟩
      have hb2 := (below_one w (.cells #[.int .i64 m, .slice A L c] 27)).trans (hb1.mono (by simp))
      obtain ⟨⟨y1, y2, _⟩, y3, y4⟩ := HX.out.keep hb2
      go_wp2
      rw [rounds_succ]
      go_wp2_with fail
      refine (HIP'.out _ (below_alloc _ hb2)).mono ?_
      rintro e w2 ⟨rfl, hb3⟩
      have hb4 := (below_alloc (.cells #[.int .i64 m', .slice A' L' c'] 27) hb2).trans (hb3.mono (by have := hb2.size; simp; omega))
      go_wp2
      go_ret
      exact ⟨ret_int HNO.out.symm, hb4⟩
  | false =>
    have HNO : Hid (C = 1) := Lib.hid (by rw [HCC.out, if_neg (by simp)])
    clear HCC
    go_enter Try.func63, Try.ntmps63
    go_wp2
    refine wp_loop_rounds 3 ?_
    rw [rounds_succ]
    go_wp2_with fail
    refine (HIP.out _ (below_one _ _)).mono ?_
    rintro e w1 ⟨rfl, hb1⟩
    have hb2 := (below_one w (.cells #[.int .i64 m, .slice A L c] 27)).trans (hb1.mono (by simp))
    go_wp2
    go_ret
    exact ⟨ret_int HNO.out.symm, hb2⟩

set_option maxHeartbeats 2000000 in
set_option maxRecDepth 100000 in
theorem l03Alike_any (m : Int) (A : Option Addr) (c : Nat) (t : List (List Int)) (m' : Int) (A' : Option Addr) (c' : Nat) (t' : List (List Int)) (w : World) (hz : szT t ≤ 1048576) (hz' : szT t' ≤ 1048576) (hr : RP w A t) (hr' : RP w A' t') :
    Calls Try.prog 60 #[.agg #[.int .i64 m, .slice A t.length c], .agg #[.int .i64 m', .slice A' t'.length c']] w fun e w' => e = .returned (.int .i64 (codeP2 m t m' t')) ∧ Below w.heap.size w w' := by
  obtain ⟨W, hW, b1, b2, hwb⟩ := startB2 27 27 w m A t.length c m' A' t'.length c'
  have B1 := Lib.hid b1
  have B2 := Lib.hid b2
  have HB := Lib.hid hwb
  have HW := Lib.hid hW
  have HIP := Lib.hid (fun W0 (h : Below W.heap.size W W0) => l03Is_z m A c t W0 hz ((hr.below hwb).below h))
  have HIP' := Lib.hid (fun W0 (h : Below W.heap.size W W0) => l03Is_z m' A' c' t' W0 hz' ((hr'.below hwb).below h))
  have HCC : Hid (codeP2 m t m' t' = if isP m t = true ∧ isP m' t' = true then (if m = m' ∧ t.length = t'.length then 0 else 2) else 1) := Lib.hid rfl
  have HLB := Lib.hid (lenT hz)
  have HLB' := Lib.hid (lenT hz')
  obtain ⟨C, hC⟩ : ∃ C, codeP2 m t m' t' = C := ⟨_, rfl⟩
  obtain ⟨b, hb⟩ : ∃ b, isP m t = b := ⟨_, rfl⟩
  obtain ⟨b', hb'⟩ : ∃ b, isP m' t' = b := ⟨_, rfl⟩
  obtain ⟨L, hL⟩ : ∃ L, t.length = L := ⟨_, rfl⟩
  obtain ⟨L', hL'⟩ : ∃ L, t'.length = L := ⟨_, rfl⟩
  rw [hC] at HCC ⊢
  rw [hb, hb', hL, hL'] at HCC
  rw [hL] at B1 HLB
  rw [hL'] at B2 HLB'
  rw [hL, hL'] at HW ⊢
  rw [hL, hb] at HIP
  rw [hL', hb'] at HIP'
  clear hr hr' hC hb hb' hL hL' hz hz' b1 b2 hwb hW
  cases b with
  | true =>
    cases b' with
    | true =>
      have HC : Hid (C = if m = m' ∧ L = L' then 0 else 2) := Lib.hid (by have := HCC.out; rwa [if_pos ⟨rfl, rfl⟩] at this)
      have h1 := HLB.out
      have h2 := HLB'.out
      clear HCC
      by_cases hm : m = m'
      · subst hm
        by_cases hL : L = L'
        · subst hL
          have HC2 : Hid (C = 0) := Lib.hid (by rw [HC.out, if_pos ⟨rfl, rfl⟩])
          clear HC
          go_enter Try.func60, Try.ntmps60
          go_wp2_with fail
          rw [HW.out]
          refine (HIP.out _ (Below.refl _ _)).mono ?_
          rintro e w1 ⟨rfl, hb1⟩
          obtain ⟨x1, x2, -⟩ := B1.out.keep hb1
          obtain ⟨y1, y2, -⟩ := B2.out.keep hb1
          go_wp2_with fail
          refine (HIP'.out _ hb1).mono ?_
          rintro e w2 ⟨rfl, hb2⟩
          clear x1 x2 y1 y2
          obtain ⟨x1, x2, -⟩ := B1.out.keep (below_step hb1 hb2)
          obtain ⟨y1, y2, -⟩ := B2.out.keep (below_step hb1 hb2)
          go_wp2
          go_ret
          exact ⟨ret_int HC2.out.symm, below_step HB.out (below_step hb1 hb2)⟩
        · have HC2 : Hid (C = 2) := Lib.hid (by rw [HC.out, if_neg (fun h => hL h.2)])
          have hn2 : ¬ (L : Int) = (L' : Int) := by omega
          obtain ⟨n1, n2⟩ : ((L : Int) == (L' : Int)) = false ∧ ((L : Int) != (L' : Int)) = true := ⟨by simpa using hn2, by simpa using hn2⟩
          clear HC hL
          go_enter Try.func60, Try.ntmps60
          go_wp2_with fail
          rw [HW.out]
          refine (HIP.out _ (Below.refl _ _)).mono ?_
          rintro e w1 ⟨rfl, hb1⟩
          obtain ⟨x1, x2, -⟩ := B1.out.keep hb1
          obtain ⟨y1, y2, -⟩ := B2.out.keep hb1
          go_wp2_with fail
          refine (HIP'.out _ hb1).mono ?_
          rintro e w2 ⟨rfl, hb2⟩
          clear x1 x2 y1 y2
          obtain ⟨x1, x2, -⟩ := B1.out.keep (below_step hb1 hb2)
          obtain ⟨y1, y2, -⟩ := B2.out.keep (below_step hb1 hb2)
          go_wp2
          go_ret
          exact ⟨ret_int HC2.out.symm, below_step HB.out (below_step hb1 hb2)⟩
      · have HC2 : Hid (C = 2) := Lib.hid (by rw [HC.out, if_neg (fun h => hm h.1)])
        obtain ⟨n1, n2⟩ : (m == m') = false ∧ (m != m') = true := ⟨by simpa using hm, by simpa using hm⟩
        clear HC
        go_enter Try.func60, Try.ntmps60
        go_wp2_with fail
        rw [HW.out]
        refine (HIP.out _ (Below.refl _ _)).mono ?_
        rintro e w1 ⟨rfl, hb1⟩
        obtain ⟨x1, x2, -⟩ := B1.out.keep hb1
        obtain ⟨y1, y2, -⟩ := B2.out.keep hb1
        go_wp2_with fail
        refine (HIP'.out _ hb1).mono ?_
        rintro e w2 ⟨rfl, hb2⟩
        clear x1 x2 y1 y2
        obtain ⟨x1, x2, -⟩ := B1.out.keep (below_step hb1 hb2)
        obtain ⟨y1, y2, -⟩ := B2.out.keep (below_step hb1 hb2)
        go_wp2
        go_ret
        exact ⟨ret_int HC2.out.symm, below_step HB.out (below_step hb1 hb2)⟩
    | false =>
      have HC2 : Hid (C = 1) := Lib.hid (by rw [HCC.out, if_neg (by simp)])
      clear HCC
      go_enter Try.func60, Try.ntmps60
      go_wp2_with fail
      rw [HW.out]
      refine (HIP.out _ (Below.refl _ _)).mono ?_
      rintro e w1 ⟨rfl, hb1⟩
      obtain ⟨x1, x2, -⟩ := B1.out.keep hb1
      obtain ⟨y1, y2, -⟩ := B2.out.keep hb1
      go_wp2_with fail
      refine (HIP'.out _ hb1).mono ?_
      rintro e w2 ⟨rfl, hb2⟩
      go_wp2
      go_ret
      exact ⟨ret_int HC2.out.symm, below_step HB.out (below_step hb1 hb2)⟩
  | false =>
    have HC2 : Hid (C = 1) := Lib.hid (by rw [HCC.out, if_neg (by simp)])
    clear HCC
    go_enter Try.func60, Try.ntmps60
    go_wp2_with fail
    rw [HW.out]
    refine (HIP.out _ (Below.refl _ _)).mono ?_
    rintro e w1 ⟨rfl, hb1⟩
    go_wp2
    go_ret
    exact ⟨ret_int HC2.out.symm, below_step HB.out hb1⟩
theorem codeP1_zero {m : Int} {t : List (List Int)} (h : codeP1 m t = 0) : isP m t = true := by
  unfold codeP1 at h
  by_cases h1 : isP m t = true
  · exact h1
  · rw [if_neg h1] at h; exact absurd h (by decide)
theorem codeP1_yes {m : Int} {t : List (List Int)} (h : isP m t = true) : codeP1 m t = 0 := by unfold codeP1; rw [if_pos h]
theorem codeP1_no {m : Int} {t : List (List Int)} (h : isP m t = false) : codeP1 m t = 1 := by unfold codeP1; rw [h]; rfl
theorem codeP2_ok {m : Int} {t : List (List Int)} {m' : Int} {t' : List (List Int)} (h : codeP2 m t m' t' = 0) : m = m' ∧ ∃ d, t.length = d + 1 ∧ t'.length = d + 1 ∧ Pl.Ok m d t ∧ Pl.Ok m d t' := by
  unfold codeP2 at h
  by_cases h1 : isP m t = true ∧ isP m' t' = true
  · rw [if_pos h1] at h
    by_cases h2 : m = m' ∧ t.length = t'.length
    · obtain ⟨rfl, h2⟩ := h2
      obtain ⟨d, e, s⟩ := plOk_of h1.1
      obtain ⟨d', e', s'⟩ := plOk_of h1.2
      obtain rfl : d' = d := by omega
      exact ⟨rfl, d', e, e', s, s'⟩
    · rw [if_neg h2] at h; exact absurd h (by decide)
  · rw [if_neg h1] at h; exact absurd h (by decide)
end Go.Proofs.Ytjgpdgoclianlaa
