/- What a list of a series is; the model's looks at series. -/
import Derived.Test.YtjgpdgoclianlaaSrs2
import Derived.Test.YtjgpdgoclianlaaExa
namespace Go.Proofs.Ytjgpdgoclianlaa
open Go.RowKit Go.WideShapes Go.ChangeShapes Go.ChangeAt

/-- a list of numbers of a series: what a closure reads of it -/
theorem RI.at {w : World} {A : Option Addr} {l : List Int} (h : RI w A l) (n : Nat) (hn : n < l.length) : ∃ b off, A = some ⟨b, off, none⟩ ∧ b < w.heap.size ∧ w.cell? ⟨b, off + n, none⟩ = some (.int .i64 (Ser.co l n)) := by
  obtain ⟨b, off, e, hlt, hc⟩ := h (by rintro rfl; simp at hn)
  exact ⟨b, off, e, hlt, hc n hn⟩

theorem degree_nat (m : Int) (A : Option Addr) (n c d : Nat) (w : World) (hn : n = d + 1) (hd : d ≤ 1000) :
    Calls Try.prog 124 #[.agg #[.int .i64 m, .slice A n c]] w fun e w' => e = .returned (.int .i64 (d : Int)) ∧ Below w.heap.size w w' :=
  (degree_any m A n c w (by omega)).mono fun e w' ⟨h1, h2⟩ => ⟨by rw [h1, show (n : Int) - 1 = (d : Int) by omega], h2⟩

/-- the world behind a box, a result's variable and the list of the one series -/
theorem pro0 (w : World) (m : Int) (A : Option Addr) (n c : Nat) : ∃ W, (w.alloc (.cells #[.int .i64 m, .slice A n c] 49)).alloc (.cells #[.int .i64 m, .slice A n c] 49) = W ∧ Box W w.heap.size m A n c ∧ Box W (w.heap.size + 1) m A n c ∧ Below w.heap.size w W :=
  ⟨_, rfl, box2_new w m m A A n c n c _ rfl⟩
theorem spro1 (w : World) (m : Int) (A : Option Addr) (n c : Nat) : ∃ W, (w.alloc (.cells #[.int .i64 m, .slice A n c] 49)).alloc (.cells #[.int .i64 0, .slice none 0 0] 49) = W ∧
    Box W w.heap.size m A n c ∧ Var2 W (w.heap.size + 1) (.int .i64 0) (.slice none 0 0) ∧ Below w.heap.size w W := by
  refine ⟨_, rfl, (Box.new w m A n c).keep (below_one _ _), ?_, below_alloc _ (below_one _ _)⟩
  have := Var2.new (w.alloc (.cells #[.int .i64 m, .slice A n c] 49)) (.int .i64 0) (.slice none 0 0)
  simpa using this
theorem pro1 (w : World) (m : Int) (A : Option Addr) (n c : Nat) : ∃ W, ((w.alloc (.cells #[.int .i64 m, .slice A n c] 49)).alloc (.cells #[.int .i64 0, .slice none 0 0] 49)).alloc (.cells #[.int .i64 m, .slice A n c] 49) = W ∧
    Box W w.heap.size m A n c ∧ Var2 W (w.heap.size + 1) (.int .i64 0) (.slice none 0 0) ∧ Box W (w.heap.size + 1 + 1) m A n c ∧ Below w.heap.size w W := by
  obtain ⟨W0, hW0, h1, h2, h3⟩ := spro1 w m A n c
  have hs : W0.heap.size = w.heap.size + 1 + 1 := by rw [← hW0]; simp
  rw [hW0]
  refine ⟨_, rfl, h1.keep (below_one _ _), h2.keep (below_one _ _), ?_, below_alloc _ h3⟩
  rw [← hs]
  exact Box.new _ _ _ _ _
theorem code1_zero {m : Int} {l : List Int} (h : code1 m l = 0) : isS m l = true := by
  unfold code1 at h
  by_cases h1 : isS m l = true
  · exact h1
  · rw [if_neg h1] at h; exact absurd h (by decide)
theorem code1_isS {m : Int} {l : List Int} (h : isS m l = true) : code1 m l = 0 := by unfold code1; rw [if_pos h]
theorem code1_no {m : Int} {l : List Int} (h : isS m l = false) : code1 m l = 1 := by unfold code1; rw [h]; rfl
theorem ret_i2 {a b c d : Int} (h : a = c) (k : b = d) : Ending.returned (.tuple #[.int .i64 a, .int .i64 b]) = .returned (.tuple #[.int .i64 c, .int .i64 d]) := by rw [h, k]

/-- m and l are a series of degree d -/
structure SerOk (m : Int) (d : Nat) (l : List Int) : Prop where
  m1 : 2 ≤ m
  m2 : m ≤ 10000
  d1 : 1 ≤ d
  d2 : d ≤ 10
  len : l.length = d + 1
  red : Ser.Red m l
theorem SerOk.cut {m : Int} {d : Nat} {l : List Int} (h : SerOk m d l) (f : Nat → Int) : SerOk m d (Ser.cut m d f) :=
  ⟨h.m1, h.m2, h.d1, h.d2, Ser.cut_length _ _ _, Ser.cut_red (by have := h.m1; omega) _ _⟩

theorem serOk_of {m : Int} {l : List Int} (h : isS m l = true) : ∃ d, l.length = d + 1 ∧ SerOk m d l := by
  obtain ⟨h1, h2, h3⟩ := isS_iff h
  obtain ⟨d, hd⟩ : ∃ d, l.length = d + 1 := ⟨l.length - 1, by omega⟩
  unfold codeN at h3
  by_cases hm : isM m = true
  · rw [if_pos hm] at h3
    obtain ⟨m1, m2⟩ := (isM_iff m).1 hm
    by_cases ha : allIn 0 (m - 1) l = true
    · refine ⟨d, hd, m1, m2, by omega, by omega, hd, fun i => ?_⟩
      by_cases hi : i < l.length
      · have := List.all_eq_true.1 ha _ (List.getElem_mem hi)
        have := (inB_iff _ _ _).1 this
        unfold Ser.co
        rw [List.getElem?_eq_getElem hi]
        simp only [Option.getD_some]
        omega
      · rw [Ser.co_over (by omega)]; omega
    · rw [if_neg ha] at h3; exact absurd h3 (by decide)
  · rw [if_neg hm] at h3; exact absurd h3 (by decide)
theorem isS_spec (m : Int) (l : List Int) : isS m l = (isM m && inB (l.length : Int) 2 11 && allIn 0 (m - 1) l) := by
  unfold isS codeN
  have e : inB ((l.length : Int) - 1) 1 10 = inB (l.length : Int) 2 11 := by
    rw [Bool.eq_iff_iff, inB_iff, inB_iff]; omega
  rw [e]
  by_cases hm : isM m = true
  · by_cases ha : allIn 0 (m - 1) l = true
    · rw [if_pos hm, if_pos ha, hm, ha]; simp
    · rw [if_pos hm, if_neg ha, hm, Bool.eq_false_iff.2 ha]; simp
  · rw [if_neg hm, Bool.eq_false_iff.2 hm]; simp

set_option maxHeartbeats 1000000 in
theorem l02Is_any (m : Int) (A : Option Addr) (c : Nat) (l : List Int) (w : World) (hl : l.length ≤ 9223372036854775807) (hr : RI w A l) :
    Calls Try.prog 99 #[.agg #[.int .i64 m, .slice A l.length c]] w fun e w' => e = .returned (.bool (isS m l)) ∧ Below w.heap.size w w' := by
  have HR := Lib.hid (hr.below (below_one w (.cells #[.int .i64 m, .slice A l.length c] 49)))
  clear hr
  have HE := Lib.hid (isS_spec m l)
  by_cases hm : isM m = true
  · obtain ⟨hm2, hm3⟩ := (isM_iff m).1 hm
    by_cases hi : inB (l.length : Int) 2 11 = true
    · go_enter Try.func99, Try.ntmps99
      go_wp2_with (first
        | (go_at_call 78; refine (l01Modulus_any _ _).mono ?_; rintro e w' ⟨rfl, rfl⟩)
        | (go_at_call 68; refine (l01In_any _ _ _ _).mono ?_; rintro e w' ⟨rfl, rfl⟩)
        | (go_at_call 104; refine (l01Numbers_any _ _ _ _ _ hm2 hm3 hl HR.out).mono ?_; rintro e w' ⟨rfl, rfl⟩))
      go_ret
      exact ⟨ret_bool (by rw [HE.out, hm, hi]; rfl), below_one _ _⟩
    · have hi' : inB (l.length : Int) 2 11 = false := by simpa using hi
      clear hi
      go_enter Try.func99, Try.ntmps99
      go_wp2_with (first
        | (go_at_call 78; refine (l01Modulus_any _ _).mono ?_; rintro e w' ⟨rfl, rfl⟩)
        | (go_at_call 68; refine (l01In_any _ _ _ _).mono ?_; rintro e w' ⟨rfl, rfl⟩))
      go_ret
      exact ⟨ret_bool (by rw [HE.out, hi']; simp), below_one _ _⟩
  · have hm' : isM m = false := by simpa using hm
    clear hm
    go_enter Try.func99, Try.ntmps99
    go_wp2_with (first
      | (go_at_call 78; refine (l01Modulus_any _ _).mono ?_; rintro e w' ⟨rfl, rfl⟩))
    go_ret
    exact ⟨ret_bool (by rw [HE.out, hm']; simp), below_one _ _⟩

theorem l02Make_any (m : Int) (A : Option Addr) (n c : Nat) (w : World) :
    Calls Try.prog 85 #[.int .i64 m, .slice A n c] w fun e w' => e = .returned (.agg #[.int .i64 m, .slice A n c]) ∧ Below w.heap.size w w' := by
  obtain ⟨v0, v1⟩ : (w.alloc (.cells #[.int .i64 m, .slice A n c] 49)).cell? ⟨w.heap.size, 0, none⟩ = some (.int .i64 m) ∧ (w.alloc (.cells #[.int .i64 m, .slice A n c] 49)).cell? ⟨w.heap.size, 1, none⟩ = some (.slice A n c) := ⟨(Var2.new w _ _).c0, (Var2.new w _ _).c1⟩
  go_enter Try.func85, Try.ntmps85
  go_wp2
  exact bodyPost_ret (v := .agg #[.int .i64 m, .slice A n c]) (by simp [results, Try.results85, go_sem, v0, v1]) rfl ⟨rfl, below_one _ _⟩

theorem OwnI.empty (w : World) : OwnI (w.alloc (.cells #[] 2)) w.heap.size (.slice (some ⟨w.heap.size, 0, none⟩) 0 0) [] :=
  ⟨rfl, .inr ⟨w.heap.size, 0, #[], rfl, Nat.le_refl _, heap_alloc_new w _, Nat.le_refl _, Nat.zero_le _, rfl, rfl⟩⟩
theorem take_cut_len (m : Int) (d : Nat) (f : Nat → Int) (k : Nat) : ((Ser.cut m d f).take k).length ≤ d + 1 := by
  rw [List.length_take, Ser.cut_length]; omega
end Go.Proofs.Ytjgpdgoclianlaa
