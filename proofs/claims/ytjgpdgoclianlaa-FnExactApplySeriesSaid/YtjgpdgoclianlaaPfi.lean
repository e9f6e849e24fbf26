/- Contracts of the codes of a plane and one series, of the program and of the model. -/
import Derived.Test.YtjgpdgoclianlaaPcd
import Derived.Test.YtjgpdgoclianlaaGse
namespace Go.Proofs.Ytjgpdgoclianlaa
open Go.RowKit Go.WideShapes Go.ChangeShapes Go.ChangeAt

/-- the code of a plane and one series -/
def codePS (m : Int) (t : List (List Int)) (m' : Int) (l : List Int) : Int := if isP m t = true ∧ isS m' l = true then (if m' = m ∧ l.length = t.length then 0 else 2) else 1
theorem codePS_ok {m : Int} {t : List (List Int)} {m' : Int} {l : List Int} (h : codePS m t m' l = 0) : m' = m ∧ ∃ d, t.length = d + 1 ∧ l.length = d + 1 ∧ Pl.Ok m d t ∧ SerOk m d l := by
  unfold codePS at h
  by_cases h1 : isP m t = true ∧ isS m' l = true
  · rw [if_pos h1] at h
    by_cases h2 : m' = m ∧ l.length = t.length
    · obtain ⟨rfl, h2⟩ := h2
      obtain ⟨d, e, s⟩ := plOk_of h1.1
      obtain ⟨d', e', s'⟩ := serOk_of h1.2
      obtain rfl : d' = d := by omega
      exact ⟨rfl, d', e, e', s, s'⟩
    · rw [if_neg h2] at h; exact absurd h (by decide)
  · rw [if_neg h1] at h; exact absurd h (by decide)
set_option maxHeartbeats 8000000 in
set_option maxRecDepth 100000 in
theorem codePS_any (g : Nat) (m : Int) (A : Option Addr) (c : Nat) (t : List (List Int)) (m' : Int) (A' : Option Addr) (c' : Nat) (l : List Int) (w : World) (hz : szT t ≤ 1048576) (hl : l.length ≤ 1048576)
    (hr : RP w A t) (hr' : RI w A' l) (hx : Box w g m' A' l.length c') :
    Calls Try.prog 97 #[.agg #[.int .i64 m, .slice A t.length c], .slice (some ⟨g, 0, none⟩) 1 1] w fun e w' => e = .returned (.int .i64 (codePS m t m' l)) ∧ Below w.heap.size w w' := by
  obtain ⟨W, hW, b1, hwb⟩ := start1 27 w m A t.length c
  have HX := Lib.hid (hx.keep hwb)
  have B1 := Lib.hid b1
  have HB := Lib.hid hwb
  have HW := Lib.hid hW
  have HIP := Lib.hid (fun W0 (h : Below W.heap.size W W0) => IsPlane_any m A c t W0 hz ((hr.below hwb).below h))
  have HIS := Lib.hid (fun W0 (h : Below W.heap.size W W0) => IsSeries_any m' A' c' l W0 (by omega) ((hr'.below hwb).below h))
  have hfd := field_frame
  have HCC : Hid (codePS m t m' l = if isP m t = true ∧ isS m' l = true then (if m' = m ∧ l.length = t.length then 0 else 2) else 1) := Lib.hid rfl
  obtain ⟨C, hC⟩ : ∃ C, codePS m t m' l = C := ⟨_, rfl⟩
  rw [hC] at HCC ⊢
  clear hC hx hwb hW b1
  by_cases h1 : isP m t = true
  · by_cases h2 : isS m' l = true
    · obtain ⟨d, e1, ok⟩ := plOk_of h1
      obtain ⟨d', e2, ok'⟩ := serOk_of h2
      have HG := Lib.hid (fun W0 => gridOf_nat m A t.length c d W0 e1 (by have := ok.d2; omega))
      have HF := Lib.hid (fun W0 => frameOfSeries_any m' A' l.length c' d' W0 e2 (by have := ok'.d2; omega))
      have hcc := HCC.out
      rw [if_pos ⟨h1, h2⟩, e1, e2] at hcc
      rw [h1] at HIP
      rw [h2] at HIS
      obtain ⟨L, hL⟩ : ∃ L, t.length = L := ⟨_, rfl⟩
      obtain ⟨L', hL'⟩ : ∃ L, l.length = L := ⟨_, rfl⟩
      rw [hL] at HIP HG B1 HW ⊢
      rw [hL'] at HIS HF HX
      have HCD := Lib.hid hcc
      clear hcc HCC h1 h2 hr hr' hz hl e1 e2 ok ok' hL hL'
      go_enter Try.func97, Try.ntmps97
      go_wp2_with fail
      rw [HW.out]
      refine (HIP.out _ (Below.refl _ _)).mono ?_
      rintro e w1 ⟨rfl, hb1⟩
      obtain ⟨y1, y2, y3⟩ := HX.out.keep hb1
      go_wp2
      refine wp_loop_rounds 2 ?_
      rw [rounds_succ]
      go_wp2_with fail
      refine (HIS.out _ (below_alloc _ hb1)).mono ?_
      rintro e w2 ⟨rfl, hb2⟩
      have hb3 := (below_alloc (.cells #[.int .i64 m', .slice A' L' c'] 49) hb1).trans (hb2.mono (by have := hb1.size; simp; omega))
      clear y1 y2 y3
      obtain ⟨y1, y2, y3⟩ := HX.out.keep hb3
      go_wp2
      rw [rounds_succ]
      go_wp2
      refine wp_loop_rounds 2 ?_
      rw [rounds_succ]
      go_wp2
      obtain ⟨W', hW', b1, b2, hwb⟩ := var_inT (T := 49) (m' := m') (A' := A') (n' := L') (c' := c') B1.out hb3
      rw [hW']
      have C1 := Lib.hid b1
      have C2 := Lib.hid b2
      have HB' := Lib.hid (below_step HB.out hwb)
      clear hW' b1 b2 hwb hb1 hb2 hb3 y1 y2 y3
      by_cases hm : m' = m
      · subst hm
        by_cases hd : d' = d
        · subst hd
          have HC2 : Hid (C = 0) := Lib.hid (by rw [HCD.out, if_pos ⟨rfl, rfl⟩])
          clear HCD
          go_region_held3 (fun w' => (w'.cell? ⟨w2.heap.size, 0, none⟩ = some (.int .i64 m') ∧ w'.cell? ⟨w2.heap.size, 1, none⟩ = some (.slice A' L' c')) ∧ (w'.cell? ⟨w.heap.size, 0, none⟩ = some (.int .i64 m') ∧ w'.cell? ⟨w.heap.size, 1, none⟩ = some (.slice A L c)) ∧ Below W'.heap.size W' w') (first | exact box2_in C1.out C2.out (below_drew0 _) | exact box2_next C1.out C2.out (by assumption) (by assumption)) (first
            | (go_at_call 55; with_reducible refine Calls.mono (HG.out _) ?_; rintro e1 w4 ⟨rfl, hb5⟩) | (go_at_call 113; with_reducible refine Calls.mono (HF.out _) ?_; rintro e1 w4 ⟨rfl, hb5⟩))
          all_goals
            go_wp2
            rw [rounds_succ]
            go_wp2
            go_ret
            exact ⟨ret_int HC2.out.symm, HB'.out.trans ((box2_next C1.out C2.out (Below.refl _ _) (by assumption)).2.2.mono HB'.out.size)⟩
        · have HC2 : Hid (C = 2) := Lib.hid (by rw [HCD.out, if_neg (fun h => hd (by omega))])
          have hd2 : ¬ (d' : Int) = (d : Int) := by omega
          have hd3 : ((d' : Int) == (d : Int)) = false := by simpa using hd2
          clear HCD hd
          go_region_held3 (fun w' => (w'.cell? ⟨w2.heap.size, 0, none⟩ = some (.int .i64 m') ∧ w'.cell? ⟨w2.heap.size, 1, none⟩ = some (.slice A' L' c')) ∧ (w'.cell? ⟨w.heap.size, 0, none⟩ = some (.int .i64 m') ∧ w'.cell? ⟨w.heap.size, 1, none⟩ = some (.slice A L c)) ∧ Below W'.heap.size W' w') (first | exact box2_in C1.out C2.out (below_drew0 _) | exact box2_next C1.out C2.out (by assumption) (by assumption)) (first
            | (go_at_call 55; with_reducible refine Calls.mono (HG.out _) ?_; rintro e1 w4 ⟨rfl, hb5⟩) | (go_at_call 113; with_reducible refine Calls.mono (HF.out _) ?_; rintro e1 w4 ⟨rfl, hb5⟩))
          all_goals
            go_wp2
            go_ret
            exact ⟨ret_int HC2.out.symm, HB'.out.trans ((box2_next C1.out C2.out (Below.refl _ _) (by assumption)).2.2.mono HB'.out.size)⟩
      · have HC2 : Hid (C = 2) := Lib.hid (by rw [HCD.out, if_neg (fun h => hm h.1)])
        have hm3 : (m' == m) = false := by simpa using hm
        clear HCD
        go_region_held3 (fun w' => (w'.cell? ⟨w2.heap.size, 0, none⟩ = some (.int .i64 m') ∧ w'.cell? ⟨w2.heap.size, 1, none⟩ = some (.slice A' L' c')) ∧ (w'.cell? ⟨w.heap.size, 0, none⟩ = some (.int .i64 m) ∧ w'.cell? ⟨w.heap.size, 1, none⟩ = some (.slice A L c)) ∧ Below W'.heap.size W' w') (first | exact box2_in C1.out C2.out (below_drew0 _) | exact box2_next C1.out C2.out (by assumption) (by assumption)) (first
          | (go_at_call 55; with_reducible refine Calls.mono (HG.out _) ?_; rintro e1 w4 ⟨rfl, hb5⟩) | (go_at_call 113; with_reducible refine Calls.mono (HF.out _) ?_; rintro e1 w4 ⟨rfl, hb5⟩))
        all_goals
          go_wp2
          go_ret
          exact ⟨ret_int HC2.out.symm, HB'.out.trans ((box2_next C1.out C2.out (Below.refl _ _) (by assumption)).2.2.mono HB'.out.size)⟩
    · have h2' : isS m' l = false := by simpa using h2
      have HNO : Hid (C = 1) := Lib.hid (by rw [HCC.out, if_neg (fun h => h2 h.2)])
      rw [h1] at HIP
      rw [h2'] at HIS
      clear h1 h2 h2' HCC hr hr'
      go_enter Try.func97, Try.ntmps97
      go_wp2_with fail
      rw [HW.out]
      refine (HIP.out _ (Below.refl _ _)).mono ?_
      rintro e w1 ⟨rfl, hb1⟩
      obtain ⟨y1, y2, y3⟩ := HX.out.keep hb1
      go_wp2
      refine wp_loop_rounds 2 ?_
      rw [rounds_succ]
      go_wp2_with fail
      refine (HIS.out _ (below_alloc _ hb1)).mono ?_
      rintro e w2 ⟨rfl, hb2⟩
      have hb3 := (below_alloc (.cells #[.int .i64 m', .slice A' l.length c'] 49) hb1).trans (hb2.mono (by have := hb1.size; simp; omega))
      go_wp2
      go_ret
      exact ⟨ret_int HNO.out.symm, below_step HB.out hb3⟩
  · have h1' : isP m t = false := by simpa using h1
    have HNO : Hid (C = 1) := Lib.hid (by rw [HCC.out, if_neg (fun h => h1 h.1)])
    rw [h1'] at HIP
    clear h1 h1' HCC hr hr'
    go_enter Try.func97, Try.ntmps97
    go_wp2_with fail
    rw [HW.out]
    refine (HIP.out _ (Below.refl _ _)).mono ?_
    rintro e w1 ⟨rfl, hb1⟩
    go_wp2
    go_ret
    exact ⟨ret_int HNO.out.symm, below_step HB.out hb1⟩
set_option maxHeartbeats 8000000 in
set_option maxRecDepth 100000 in
theorem l03Fits1_any (g : Nat) (m : Int) (A : Option Addr) (c : Nat) (t : List (List Int)) (m' : Int) (A' : Option Addr) (c' : Nat) (l : List Int) (w : World) (hz : szT t ≤ 1048576) (hl : l.length ≤ 1048576)
    (hr : RP w A t) (hr' : RI w A' l) (hx : Box w g m' A' l.length c') :
    Calls Try.prog 95 #[.agg #[.int .i64 m, .slice A t.length c], .slice (some ⟨g, 0, none⟩) 1 1] w fun e w' => e = .returned (.int .i64 (codePS m t m' l)) ∧ Below w.heap.size w w' := by
  obtain ⟨W, hW, b1, hwb⟩ := start1 27 w m A t.length c
  have HX := Lib.hid (hx.keep hwb)
  have B1 := Lib.hid b1
  have HB := Lib.hid hwb
  have HW := Lib.hid hW
  have HIP := Lib.hid (fun W0 (h : Below W.heap.size W W0) => l03Is_z m A c t W0 hz ((hr.below hwb).below h))
  have HIS := Lib.hid (fun W0 (h : Below W.heap.size W W0) => l02Is_any m' A' c' l W0 (by omega) ((hr'.below hwb).below h))
  have HCC : Hid (codePS m t m' l = if isP m t = true ∧ isS m' l = true then (if m' = m ∧ l.length = t.length then 0 else 2) else 1) := Lib.hid rfl
  obtain ⟨C, hC⟩ : ∃ C, codePS m t m' l = C := ⟨_, rfl⟩
  rw [hC] at HCC ⊢
  have HLB := Lib.hid (lenT hz)
  clear hC hx hwb hW b1
  by_cases h1 : isP m t = true
  · by_cases h2 : isS m' l = true
    · have hcc := HCC.out
      rw [if_pos ⟨h1, h2⟩] at hcc
      rw [h1] at HIP
      rw [h2] at HIS
      obtain ⟨L, hL⟩ : ∃ L, t.length = L := ⟨_, rfl⟩
      obtain ⟨L', hL'⟩ : ∃ L, l.length = L := ⟨_, rfl⟩
      rw [hL] at HIP B1 HW hcc HLB ⊢
      rw [hL'] at HIS HX hcc hl
      have HCD := Lib.hid hcc
      have hlb := HLB.out
      clear hcc HCC h1 h2 hr hr' hz hL hL'
      go_enter Try.func95, Try.ntmps95
      go_wp2_with fail
      rw [HW.out]
      refine (HIP.out _ (Below.refl _ _)).mono ?_
      rintro e w1 ⟨rfl, hb1⟩
      obtain ⟨y1, y2, y3⟩ := HX.out.keep hb1
      go_wp2
      refine wp_loop_rounds 2 ?_
      rw [rounds_succ]
      go_wp2_with fail
      refine (HIS.out _ hb1).mono ?_
      rintro e w2 ⟨rfl, hb2⟩
      have hb3 := below_step hb1 hb2
      clear y1 y2 y3
      obtain ⟨y1, y2, y3⟩ := HX.out.keep hb3
      obtain ⟨x1, x2, x3⟩ := B1.out.keep hb3
      go_wp2
      rw [rounds_succ]
      go_wp2
      refine wp_loop_rounds 2 ?_
      rw [rounds_succ]
      go_wp2
      have HB' := Lib.hid (below_step HB.out hb3)
      clear hb1 hb2 hb3
      by_cases hm : m' = m
      · subst hm
        by_cases hd : L' = L
        · subst hd
          have HC2 : Hid (C = 0) := Lib.hid (by rw [HCD.out, if_pos ⟨rfl, rfl⟩])
          clear HCD
          go_quiet (fail)
          go_wp2
          rw [rounds_succ]
          go_wp2
          go_ret
          exact ⟨ret_int HC2.out.symm, below_drewN HB'.out _⟩
        · have HC2 : Hid (C = 2) := Lib.hid (by rw [HCD.out, if_neg (fun h => hd h.2)])
          have hd2 : ¬ (L' : Int) = (L : Int) := by omega
          obtain ⟨n1, n2⟩ : ((L' : Int) == (L : Int)) = false ∧ ((L' : Int) != (L : Int)) = true := ⟨by simpa using hd2, by simpa using hd2⟩
          clear HCD hd
          go_quiet (fail)
          go_wp2
          go_ret
          exact ⟨ret_int HC2.out.symm, below_drewN HB'.out _⟩
      · have HC2 : Hid (C = 2) := Lib.hid (by rw [HCD.out, if_neg (fun h => hm h.1)])
        obtain ⟨n1, n2⟩ : (m' == m) = false ∧ (m' != m) = true := ⟨by simpa using hm, by simpa using hm⟩
        clear HCD
        go_quiet (fail)
        go_wp2
        go_ret
        exact ⟨ret_int HC2.out.symm, below_drewN HB'.out _⟩
    · have h2' : isS m' l = false := by simpa using h2
      have HNO : Hid (C = 1) := Lib.hid (by rw [HCC.out, if_neg (fun h => h2 h.2)])
      rw [h1] at HIP
      rw [h2'] at HIS
      clear h1 h2 h2' HCC hr hr'
      go_enter Try.func95, Try.ntmps95
      go_wp2_with fail
      rw [HW.out]
      refine (HIP.out _ (Below.refl _ _)).mono ?_
      rintro e w1 ⟨rfl, hb1⟩
      obtain ⟨y1, y2, y3⟩ := HX.out.keep hb1
      go_wp2
      refine wp_loop_rounds 2 ?_
      rw [rounds_succ]
      go_wp2_with fail
      refine (HIS.out _ hb1).mono ?_
      rintro e w2 ⟨rfl, hb2⟩
      have hb3 := below_step hb1 hb2
      go_wp2
      go_ret
      exact ⟨ret_int HNO.out.symm, below_step HB.out hb3⟩
  · have h1' : isP m t = false := by simpa using h1
    have HNO : Hid (C = 1) := Lib.hid (by rw [HCC.out, if_neg (fun h => h1 h.1)])
    rw [h1'] at HIP
    clear h1 h1' HCC hr hr'
    go_enter Try.func95, Try.ntmps95
    go_wp2_with fail
    rw [HW.out]
    refine (HIP.out _ (Below.refl _ _)).mono ?_
    rintro e w1 ⟨rfl, hb1⟩
    go_wp2
    go_ret
    exact ⟨ret_int HNO.out.symm, below_step HB.out hb1⟩
end Go.Proofs.Ytjgpdgoclianlaa
