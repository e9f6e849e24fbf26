/- Contracts of AddSeries, of the program. -/
import Derived.Test.YtcnkpfikafaocaaSad
namespace Go.Proofs.Ytcnkpfikafaocaa
open Go.RowKit Go.WideShapes Go.ChangeShapes Go.ChangeAt

theorem code2_iff {m : Int} {l : List Int} {m' : Int} {l' : List Int} (h : code2 m l m' l' = 0) : isS m l = true ∧ isS m' l' = true ∧ m = m' ∧ l.length = l'.length := by
  unfold code2 at h
  by_cases h1 : isS m l = true ∧ isS m' l' = true
  · rw [if_pos h1] at h
    by_cases h2 : m = m' ∧ l.length = l'.length
    · exact ⟨h1.1, h1.2, h2.1, h2.2⟩
    · rw [if_neg h2] at h; exact absurd h (by decide)
  · rw [if_neg h1] at h; exact absurd h (by decide)
theorem code2_ok {m : Int} {l : List Int} {m' : Int} {l' : List Int} (h : code2 m l m' l' = 0) : m = m' ∧ ∃ d, l.length = d + 1 ∧ l'.length = d + 1 ∧ SerOk m d l ∧ SerOk m d l' := by
  obtain ⟨h1, h2, rfl, h4⟩ := code2_iff h
  obtain ⟨d, e1, s1⟩ := serOk_of h1
  obtain ⟨d', e2, s2⟩ := serOk_of h2
  obtain rfl : d = d' := by omega
  exact ⟨rfl, d, e1, e2, s1, s2⟩

/-- a function of two series that are alike -/
def twoM (f : Int → Nat → List Int → List Int → List Int) (m : Int) (l : List Int) (m' : Int) (l' : List Int) : Int × List Int × Int :=
  if code2 m l m' l' = 0 then (m, f m (l.length - 1) l l', 0) else (0, [], code2 m l m' l')
def addL (m : Int) (d : Nat) (l l' : List Int) : List Int := Ser.cut m d fun n => Ser.co l n + Ser.co l' n
def addM := twoM addL
theorem addM_len (m : Int) (l : List Int) (m' : Int) (l' : List Int) : (addM m l m' l').2.1.length ≤ 1048576 := by
  unfold addM twoM addL
  split
  · rename_i h
    obtain ⟨_, d, e, _, s, _⟩ := code2_ok h
    have := s.d2
    dsimp only
    rw [Ser.cut_length]
    omega
  · simp

/-- the world behind both boxes, the result's variable and the list of both -/
theorem box4_new (w : World) (m m' : Int) (A A' : Option Addr) (n c n' c' : Nat) (W : World) (hW : ((((w.alloc (.cells #[.int .i64 m, .slice A n c] 26)).alloc (.cells #[.int .i64 m', .slice A' n' c'] 26)).alloc (.cells #[.int .i64 0, .slice none 0 0] 26)).alloc (.cells #[.int .i64 m, .slice A n c, .int .i64 m', .slice A' n' c'] 26)) = W) :
    Box W w.heap.size m A n c ∧ Box W (w.heap.size + 1) m' A' n' c' ∧ Var2 W (w.heap.size + 1 + 1) (.int .i64 0) (.slice none 0 0) ∧ Box4 W (w.heap.size + 1 + 1 + 1) m A n c m' A' n' c' ∧ Below w.heap.size w W := by
  obtain ⟨W0, hW0⟩ : ∃ W0, (((w.alloc (.cells #[.int .i64 m, .slice A n c] 26)).alloc (.cells #[.int .i64 m', .slice A' n' c'] 26)).alloc (.cells #[.int .i64 0, .slice none 0 0] 26)) = W0 := ⟨_, rfl⟩
  obtain ⟨h1, h2, h3, h4⟩ := box3_new w m m' A A' n c n' c' W0 hW0
  have hs : W0.heap.size = w.heap.size + 1 + 1 + 1 := by rw [← hW0]; simp
  rw [hW0] at hW
  subst hW
  refine ⟨h1.keep (below_one _ _), h2.keep (below_one _ _), h3.keep (below_one _ _), ?_, below_alloc _ h4⟩
  rw [← hs]
  exact Box4.new _ _ _ _ _ _ _ _ _

theorem OwnI.nil' (w : World) (base : Nat) : OwnI w base (.slice none 0 0) [] := OwnI.nil w base

set_option maxHeartbeats 4000000 in
theorem AddSeries_any (m : Int) (A : Option Addr) (c : Nat) (l : List Int) (m' : Int) (A' : Option Addr) (c' : Nat) (l' : List Int) (w : World) (hl : l.length ≤ 1048576) (hl' : l'.length ≤ 1048576) (hr : RI w A l) (hr' : RI w A' l') :
    Calls Try.prog 19 #[.agg #[.int .i64 m, .slice A l.length c], .agg #[.int .i64 m', .slice A' l'.length c']] w fun e w' => ∃ s, e = .returned (.tuple #[.agg #[.int .i64 (addM m l m' l').1, s], .int .i64 (addM m l m' l').2.2]) ∧ OwnI w' w.heap.size s (addM m l m' l').2.1 ∧ Below w.heap.size w w' := by
  obtain ⟨W, hW⟩ : ∃ W, ((((w.alloc (.cells #[.int .i64 m, .slice A l.length c] 26)).alloc (.cells #[.int .i64 m', .slice A' l'.length c'] 26)).alloc (.cells #[.int .i64 0, .slice none 0 0] 26)).alloc (.cells #[.int .i64 m, .slice A l.length c, .int .i64 m', .slice A' l'.length c'] 26)) = W := ⟨_, rfl⟩
  obtain ⟨b1, b2, v3, b4, hwb⟩ := box4_new w m m' A A' l.length c l'.length c' W hW
  have B1 := Lib.hid b1
  have B2 := Lib.hid b2
  have V3 := Lib.hid v3
  have HB := Lib.hid hwb
  have HW := Lib.hid hW
  have R1 := Lib.hid (hr.below hwb)
  have R2 := Lib.hid (hr'.below hwb)
  have HC := Lib.hid (codeOfSeries2_any (w.heap.size + 1 + 1 + 1) m A c l m' A' c' l' W (by omega) (by omega) R1.out R2.out b4)
  clear b1 b2 v3 b4 hwb hW hr hr'
  by_cases h0 : code2 m l m' l' = 0
  · obtain ⟨rfl, d, e1, e2, s1, s2⟩ := code2_ok h0
    have HA : Hid (addM m l m l' = (m, addL m d l l', 0)) := Lib.hid (by unfold addM twoM; rw [if_pos h0, e1]; rfl)
    rw [HA.out]
    have HP := Lib.hid (fun W0 (h : Below W.heap.size W W0) => plus_any m d A c l m A' c' l' W0 s1 s2 (R1.out.below h) (R2.out.below h))
    have hc := HC.out
    rw [h0] at hc
    have HC0 := Lib.hid hc
    clear hc HC h0 s1 s2 e1 e2
    go_enter Try.func19, Try.ntmps19
    go_wp2_with fail
    rw [HW.out]
    refine HC0.out.mono ?_
    rintro e w1 ⟨rfl, hb1⟩
    obtain ⟨x1, x2, x3⟩ := B1.out.keep hb1
    obtain ⟨y1, y2, y3⟩ := B2.out.keep hb1
    go_wp2_with fail
    refine (HP.out _ hb1).mono ?_
    rintro e w2 ⟨s, rfl, ho, hb2⟩
    obtain ⟨A2, c2, rfl, _⟩ := ho.form
    have hv := V3.out.keep (below_step hb1 hb2)
    have q0 := hv.c0
    have q1 := hv.c1
    have q2 := hv.fz 0
    have q3 := hv.fz 1
    obtain ⟨f0, f1, f2, f3⟩ := fin_var (w := w) hv ho (by have := V3.out.lt; have := hb1.size; omega) (by omega) (below_step (below_step HB.out hb1) hb2) (.int .i64 m) (.slice A2 (Ser.cut m d fun n => Ser.co l n + Ser.co l' n).length c2)
    have F2 := Lib.hid f2
    have F3 := Lib.hid f3
    clear f2 f3 ho hb1 hb2 hv
    go_wp2
    exact bodyPost_ret (v := .tuple #[.agg #[.int .i64 m, .slice A2 (Ser.cut m d fun n => Ser.co l n + Ser.co l' n).length c2], .int .i64 0]) (by simp [results, Try.results19, go_sem, f0, f1]) rfl ⟨_, rfl, F2.out, F3.out⟩
  · have HA : Hid (addM m l m' l' = (0, [], code2 m l m' l')) := Lib.hid (by unfold addM twoM; rw [if_neg h0])
    rw [HA.out]
    obtain ⟨n1, n2⟩ := ne_facts h0
    obtain ⟨C, hC⟩ : ∃ C, code2 m l m' l' = C := ⟨_, rfl⟩
    have hc := HC.out
    rw [hC] at n1 n2 h0 hc ⊢
    have HC0 := Lib.hid hc
    clear hc HC hC
    go_enter Try.func19, Try.ntmps19
    go_wp2_with fail
    rw [HW.out]
    refine HC0.out.mono ?_
    rintro e w1 ⟨rfl, hb1⟩
    have hv := V3.out.keep hb1
    have q0 := hv.c0
    have q1 := hv.c1
    have q2 := hv.fz 0
    have q3 := hv.fz 1
    obtain ⟨f0, f1, f2, f3⟩ := fin_var (w := w) hv (OwnI.nil w1 (w.heap.size + 1 + 1 + 1)) (by omega) (by omega) (below_step HB.out hb1) (.int .i64 0) (.slice none 0 0)
    have F2 := Lib.hid f2
    have F3 := Lib.hid f3
    clear f2 f3 hb1 hv
    go_wp2
    exact bodyPost_ret (v := .tuple #[.agg #[.int .i64 0, .slice none 0 0], .int .i64 C]) (by simp [results, Try.results19, go_sem, f0, f1]) rfl ⟨_, rfl, F2.out, F3.out⟩
end Go.Proofs.Ytcnkpfikafaocaa
