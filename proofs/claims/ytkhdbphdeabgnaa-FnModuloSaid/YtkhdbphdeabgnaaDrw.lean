/- Contracts of the model's draws, third part: of what they return nothing is said but its range. -/
import Derived.Test.YtkhdbphdeabgnaaSrc2
namespace Go.Proofs.Ytkhdbphdeabgnaa
open Go.RowKit Go.WideShapes Go.ChangeShapes Go.ChangeAt

theorem l01Next_c (w0 : World) (B g : Nat) (A : Option Addr) (n c : Nat) (m : Int) (w : World) (hs : Src w B g A n c) (hb : Below B w0 w) (hm : 1 ≤ m) (hm2 : m ≤ 1000000000000) :
    Calls Try.prog 76 #[.pointer (some ⟨g, 0, none⟩), .int .i64 m] w fun e w' => ∃ r : Int, e = .returned (.int .i64 r) ∧ 0 ≤ r ∧ r < m ∧ Src w' B g A n c ∧ Below B w0 w' := by
  have hg : g < w.heap.size := by obtain ⟨_, _, h2, _⟩ := hs; exact (Array.getElem?_eq_some_iff.1 h2).1
  have hBg : B ≤ g := by obtain ⟨_, _, _, _, _, _, h6, _⟩ := hs; exact h6
  refine (l01Next_any B g A n c m w hs hm (by omega)).mono ?_
  rintro e w' ⟨r, he, r0, r1, hs', hg'⟩
  exact ⟨r, he, r0, r1, hs', hb.grown hg' (by omega) (fun k hk => by injection hk with hk; omega)⟩
theorem l01Pick_c (w0 : World) (B g : Nat) (A : Option Addr) (n c : Nat) (l : List Int) (d : Nat) (w : World) (hl : 0 < l.length) (hl2 : l.length ≤ 1000) (hs : Src w B g A n c) (hb : Below B w0 w) :
    Calls Try.prog 75 #[.pointer (some ⟨g, 0, none⟩), .slice (some ⟨w.heap.size, 0, none⟩) l.length d] (w.alloc (.cells (l.map (Value.int .i64)).toArray 2)) fun e w' => ∃ x : Int, e = .returned (.int .i64 x) ∧ x ∈ l ∧ Src w' B g A n c ∧ Below B w0 w' := by
  have hg : g < w.heap.size := by obtain ⟨_, _, h2, _⟩ := hs; exact (Array.getElem?_eq_some_iff.1 h2).1
  have hBg : B ≤ g := by obtain ⟨_, _, _, _, _, _, h6, _⟩ := hs; exact h6
  refine (l01Pick_new B g A n c l d w hl hl2 hs (by omega)).mono ?_
  rintro e w' ⟨x, he, hx, hs', hb'⟩
  exact ⟨x, he, hx, hs', hb.trans hb'⟩

theorem mul_bd {a b : Int} (h1 : -500000 ≤ a) (h2 : a ≤ 500000) (h3 : 0 ≤ b) (h4 : b ≤ 1024) : -512000000 ≤ a * b ∧ a * b ≤ 512000000 := by
  have e1 : a * b ≤ 500000 * b := Int.mul_le_mul_of_nonneg_right h2 h3
  have e2 : -500000 * b ≤ a * b := Int.mul_le_mul_of_nonneg_right h1 h3
  omega

set_option maxHeartbeats 2000000 in
theorem l01Any_c (w0 : World) (B g : Nat) (A : Option Addr) (n c : Nat) (w : World) (hs : Src w B g A n c) (hb : Below B w0 w) :
    Calls Try.prog 79 #[.pointer (some ⟨g, 0, none⟩)] w fun e w' => ∃ x : Int, e = .returned (.int .i64 x) ∧ -4611686018427387904 ≤ x ∧ x ≤ 1000000000001 ∧ Src w' B g A n c ∧ Below B w0 w' := by
  go_enter Try.func79, Try.ntmps79
  go_wp2_with fail
  refine (l01Next_c w0 B g A n c _ _ hs hb (by omega) (by omega)).mono ?_
  rintro e w1 ⟨r, rfl, r0, r1, hs1, hb1⟩
  by_cases hr : r = 0
  · subst hr
    go_wp2_with fail
    refine (l01Pick_c w0 B g A n c [1000000000000, -1000000000000, 1000000000001, -4611686018427387904] _ w1 (by simp) (by simp) hs1 hb1).mono ?_
    rintro e w2 ⟨x, rfl, hx, hs2, hb2⟩
    have hx1 : -4611686018427387904 ≤ x ∧ x ≤ 1000000000001 := by
      simp only [List.mem_cons, List.not_mem_nil, or_false] at hx
      rcases hx with rfl | rfl | rfl | rfl <;> omega
    have HX := Lib.hid hx1
    clear hx hx1
    go_wp2
    go_ret
    exact ⟨_, rfl, HX.out.1, HX.out.2, hs2, hb2⟩
  · obtain ⟨n1, n2⟩ := ne_facts hr
    go_wp2_with fail
    refine (l01Next_c w0 B g A n c _ _ hs1 hb1 (by omega) (by omega)).mono ?_
    rintro e w2 ⟨a, rfl, a0, a1, hs2, hb2⟩
    go_wp2_with fail
    refine (l01Next_c w0 B g A n c _ _ hs2 hb2 (by omega) (by omega)).mono ?_
    rintro e w3 ⟨b, rfl, b0, b1, hs3, hb3⟩
    go_wp2_with fail
    refine (l01Next_c w0 B g A n c _ _ hs3 hb3 (by omega) (by omega)).mono ?_
    rintro e w4 ⟨d, rfl, d0, d1, hs4, hb4⟩
    go_wp2_with fail
    refine (l01Pick_c w0 B g A n c [1, 1000, 1024] _ w4 (by simp) (by simp) hs4 hb4).mono ?_
    rintro e w5 ⟨q, rfl, hq, hs5, hb5⟩
    have hq1 : 0 ≤ q ∧ q ≤ 1024 := by
      simp only [List.mem_cons, List.not_mem_nil, or_false] at hq
      rcases hq with rfl | rfl | rfl <;> omega
    obtain ⟨q1, q2⟩ := hq1
    obtain ⟨m1, m2⟩ := mul_bd (a := d - 500000) (by omega) (by omega) q1 q2
    clear hq
    go_wp2_with fail
    refine (l01Pick_c w0 B g A n c [a - 20, b - 1000, (d - 500000) * q] _ w5 (by simp) (by simp) hs5 hb5).mono ?_
    rintro e w6 ⟨x, rfl, hx, hs6, hb6⟩
    have hx1 : -4611686018427387904 ≤ x ∧ x ≤ 1000000000001 := by
      simp only [List.mem_cons, List.not_mem_nil, or_false] at hx
      rcases hx with rfl | rfl | rfl <;> omega
    have HX := Lib.hid hx1
    clear hx hx1
    go_wp2
    go_ret
    exact ⟨_, rfl, HX.out.1, HX.out.2, hs6, hb6⟩

set_option maxHeartbeats 2000000 in
theorem l01Count_c (w0 : World) (B g : Nat) (A : Option Addr) (n c : Nat) (m : Int) (w : World) (hs : Src w B g A n c) (hb : Below B w0 w) (hm : 0 ≤ m) (hm2 : m ≤ 1000000) :
    Calls Try.prog 87 #[.pointer (some ⟨g, 0, none⟩), .int .i64 m] w fun e w' => ∃ x : Int, e = .returned (.int .i64 x) ∧ Src w' B g A n c ∧ Below B w0 w' := by
  go_enter Try.func87, Try.ntmps87
  go_wp2_with fail
  refine (l01Next_c w0 B g A n c _ _ hs hb (by omega) (by omega)).mono ?_
  rintro e w1 ⟨r, rfl, r0, r1, hs1, hb1⟩
  by_cases hr : r = 0
  · subst hr
    go_wp2_with fail
    refine (l01Pick_c w0 B g A n c [-1, m + 1, 1099511627776, -4611686018427387904] _ w1 (by simp) (by simp) hs1 hb1).mono ?_
    rintro e w2 ⟨x, rfl, hx, hs2, hb2⟩
    clear hx
    go_wp2
    go_ret
    exact ⟨_, rfl, hs2, hb2⟩
  · obtain ⟨n1, n2⟩ := ne_facts hr
    go_wp2_with fail
    refine (l01Next_c w0 B g A n c _ _ hs1 hb1 (by omega) (by omega)).mono ?_
    rintro e w2 ⟨a, rfl, a0, a1, hs2, hb2⟩
    go_wp2
    go_ret
    exact ⟨_, rfl, hs2, hb2⟩

set_option maxHeartbeats 2000000 in
theorem DrawPrimeFactors_any (A : Option Addr) (n c : Nat) (w : World) (hn : n ≤ 4096) (hb : RB w w.heap.size A n) :
    Calls Try.prog 39 #[.slice A n c] w fun e w' => ∃ x : Int, e = .returned (.int .i64 x) ∧ Below w.heap.size w w' := by
  go_enter Try.func39, Try.ntmps39
  go_wp2_with fail
  refine (l01From_any A n c w hn hb).mono ?_
  rintro e w1 ⟨rfl, hs1, hb1⟩
  go_wp2_with fail
  refine (l01Any_c w _ _ A n c _ hs1 hb1).mono ?_
  rintro e w2 ⟨a, rfl, a0, a1, hs2, hb2⟩
  go_wp2_with fail
  refine (l01Next_c w _ _ A n c _ _ hs2 hb2 (by omega) (by omega)).mono ?_
  rintro e w3 ⟨b, rfl, b0, b1, hs3, hb3⟩
  go_wp2_with fail
  refine (l01Next_c w _ _ A n c _ _ hs3 hb3 (by omega) (by omega)).mono ?_
  rintro e w4 ⟨d, rfl, d0, d1, hs4, hb4⟩
  go_wp2_with fail
  refine (l01Pick_c w _ _ A n c [a, 1 + b, 999999999989, 1024 * d] _ w4 (by simp) (by simp) hs4 hb4).mono ?_
  rintro e w5 ⟨x, rfl, hx, hs5, hb5⟩
  clear hx
  go_wp2
  go_ret
  exact ⟨_, rfl, hb5⟩
set_option maxHeartbeats 2000000 in
theorem DrawBinomialNumber_any (A : Option Addr) (n c : Nat) (w : World) (hn : n ≤ 4096) (hb : RB w w.heap.size A n) :
    Calls Try.prog 45 #[.slice A n c] w fun e w' => ∃ x y : Int, e = .returned (.tuple #[.int .i64 x, .int .i64 y]) ∧ Below w.heap.size w w' := by
  go_enter Try.func45, Try.ntmps45
  go_wp2_with fail
  refine (l01From_any A n c w hn hb).mono ?_
  rintro e w1 ⟨rfl, hs1, hb1⟩
  go_wp2_with fail
  refine (l01Count_c w _ _ A n c _ _ hs1 hb1 (by omega) (by omega)).mono ?_
  rintro e w2 ⟨a, rfl, hs2, hb2⟩
  go_wp2_with fail
  refine (l01Count_c w _ _ A n c _ _ hs2 hb2 (by omega) (by omega)).mono ?_
  rintro e w3 ⟨b, rfl, hs3, hb3⟩
  go_wp2
  go_ret2
  exact ⟨_, _, rfl, hb3⟩
theorem DrawBinomialDivisor_any (A : Option Addr) (n c : Nat) (w : World) (hn : n ≤ 4096) (hb : RB w w.heap.size A n) :
    Calls Try.prog 48 #[.slice A n c] w fun e w' => ∃ x : Int, e = .returned (.int .i64 x) ∧ Below w.heap.size w w' := by
  go_enter Try.func48, Try.ntmps48
  go_wp2_with fail
  refine (l01From_any A n c w hn hb).mono ?_
  rintro e w1 ⟨rfl, hs1, hb1⟩
  go_wp2_with fail
  refine (l01Count_c w _ _ A n c _ _ hs1 hb1 (by omega) (by omega)).mono ?_
  rintro e w2 ⟨a, rfl, hs2, hb2⟩
  go_wp2
  go_ret
  exact ⟨_, rfl, hb2⟩
set_option maxHeartbeats 2000000 in
theorem DrawValuationOf_any (A : Option Addr) (n c : Nat) (w : World) (hn : n ≤ 4096) (hb : RB w w.heap.size A n) :
    Calls Try.prog 51 #[.slice A n c] w fun e w' => ∃ x y : Int, e = .returned (.tuple #[.int .i64 x, .int .i64 y]) ∧ Below w.heap.size w w' := by
  go_enter Try.func51, Try.ntmps51
  go_wp2_with fail
  refine (l01From_any A n c w hn hb).mono ?_
  rintro e w1 ⟨rfl, hs1, hb1⟩
  go_wp2_with fail
  refine (l01Pick_c w _ _ A n c [2, 3, 5, 7, 997, 1, 4, 1009] _ w1 (by simp) (by simp) hs1 hb1).mono ?_
  rintro e w2 ⟨p, rfl, hp, hs2, hb2⟩
  clear hp
  go_wp2_with fail
  refine (l01Any_c w _ _ A n c _ hs2 hb2).mono ?_
  rintro e w3 ⟨a, rfl, a0, a1, hs3, hb3⟩
  go_wp2_with fail
  refine (l01Any_c w _ _ A n c _ hs3 hb3).mono ?_
  rintro e w4 ⟨b, rfl, b0, b1, hs4, hb4⟩
  go_wp2_with fail
  refine (l01Pick_c w _ _ A n c [a, _, 0, 4096] _ w4 (by simp) (by simp) hs4 hb4).mono ?_
  rintro e w5 ⟨x, rfl, hx, hs5, hb5⟩
  clear hx
  go_wp2
  go_ret2
  exact ⟨_, _, rfl, hb5⟩

end Go.Proofs.Ytkhdbphdeabgnaa
