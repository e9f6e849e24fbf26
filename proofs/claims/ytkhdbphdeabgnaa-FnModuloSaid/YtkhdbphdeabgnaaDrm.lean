/- Contracts of the model's draws, fourth part: moduli, numbers and lists. -/
import Derived.Test.YtkhdbphdeabgnaaDrw
namespace Go.Proofs.Ytkhdbphdeabgnaa
open Go.RowKit Go.WideShapes Go.ChangeShapes Go.ChangeAt

theorem Src.lt {w : World} {B g : Nat} {A : Option Addr} {n c : Nat} (h : Src w B g A n c) : g < w.heap.size := by
  obtain ⟨_, _, h2, _⟩ := h
  exact (Array.getElem?_eq_some_iff.1 h2).1
theorem Src.ge {w : World} {B g : Nat} {A : Option Addr} {n c : Nat} (h : Src w B g A n c) : B ≤ g := by
  obtain ⟨_, _, _, _, _, _, h6, _⟩ := h
  exact h6
theorem l01Next_0 (g : Nat) (m : Int) (w : World) (hm : m < 1) :
    Calls Try.prog 76 #[.pointer (some ⟨g, 0, none⟩), .int .i64 m] w fun e w' => e = .returned (.int .i64 0) ∧ w = w' := by
  go_enter Try.func76, Try.ntmps76
  go_wp2
  go_ret
  exact ⟨rfl, rfl⟩
/-- the next number, at any bound; a slice of the call's own stays -/
theorem l01Next_o (w0 : World) (B g : Nat) (A : Option Addr) (n c : Nat) (v : Value) (l : List Int) (m : Int) (w : World) (hs : Src w B g A n c) (ho : OwnI w (g + 1) v l) (hb : Below B w0 w) (hm2 : m ≤ 4000000000000) :
    Calls Try.prog 76 #[.pointer (some ⟨g, 0, none⟩), .int .i64 m] w fun e w' => ∃ r : Int, e = .returned (.int .i64 r) ∧ Src w' B g A n c ∧ OwnI w' (g + 1) v l ∧ Below B w0 w' ∧ g < w'.heap.size := by
  by_cases hm : 1 ≤ m
  · refine (l01Next_any B g A n c m w hs hm hm2).mono ?_
    rintro e w' ⟨r, he, _, _, hs', hg⟩
    refine ⟨r, he, hs', ho.other hg ?_, hb.grown hg (by have := hs.lt; have := hs.ge; omega) (fun k hk => by injection hk with hk; have := hs.ge; omega), hs'.lt⟩
    rcases hc : v.ownBlock with _ | q
    · exact .inl rfl
    · refine .inr fun e => ?_
      injection e with e
      have := (ho.lt q hc).1
      omega
  · refine (l01Next_0 g m w (by omega)).mono ?_
    rintro e w' ⟨he, rfl⟩
    exact ⟨0, he, hs, ho, hb, hs.lt⟩
/-- picking one of some numbers that have just been built; a slice of the call's own stays -/
theorem l01Pick_o (w0 : World) (B g : Nat) (A : Option Addr) (n c : Nat) (v : Value) (ll : List Int) (l : List Int) (d : Nat) (w : World) (hl : 0 < l.length) (hl2 : l.length ≤ 1000) (hs : Src w B g A n c) (ho : OwnI w (g + 1) v ll) (hb : Below B w0 w) :
    Calls Try.prog 75 #[.pointer (some ⟨g, 0, none⟩), .slice (some ⟨w.heap.size, 0, none⟩) l.length d] (w.alloc (.cells (l.map (Value.int .i64)).toArray 2)) fun e w' => ∃ x : Int, e = .returned (.int .i64 x) ∧ x ∈ l ∧ Src w' B g A n c ∧ OwnI w' (g + 1) v ll ∧ Below B w0 w' ∧ g < w'.heap.size := by
  have hg := hs.lt
  have hBg := hs.ge
  have hs1 := hs.keep ((Below.refl w.heap.size w).alloc (Nat.le_refl _) (.cells (l.map (Value.int .i64)).toArray 2))
  have ho1 := OwnI.alloc ho (.cells (l.map (Value.int .i64)).toArray 2)
  have hbel : Below B w0 (w.alloc (.cells (l.map (Value.int .i64)).toArray 2)) := hb.trans ((Below.refl B w).alloc (by omega) _)
  have HC := Lib.hid (cellsL w l 2)
  obtain ⟨W, hW⟩ : ∃ W, w.alloc (.cells (l.map (Value.int .i64)).toArray 2) = W := ⟨_, rfl⟩
  have hWs : W.heap.size = w.heap.size + 1 := by rw [← hW]; simp
  rw [hW] at hs1 ho1 hbel HC ⊢
  have HS := Lib.hid hs1
  have HO := Lib.hid ho1
  have HB := Lib.hid hbel
  have HWS := Lib.hid hWs
  clear hW hWs hs ho ho1 hs1 hbel hb
  go_enter Try.func75, Try.ntmps75
  go_wp2_with (go_at_call 76; refine (l01Next_any B g A n c _ _ HS.out (by omega) (by omega)).mono ?_; rintro e w1 ⟨r, rfl, r0, r1, hs2, hg2⟩; obtain ⟨R, rfl⟩ := Int.eq_ofNat_of_zero_le r0; have hcell := (hg2.cell (HC.out R (by omega)) (by simp; omega)))
  go_ret
  have hR : R < l.length := by omega
  refine ⟨_, rfl, by rw [List.getElem?_eq_getElem hR]; exact List.getElem_mem hR, hs2, HO.out.other hg2 ?_, HB.out.grown hg2 (by have := HWS.out; omega) (fun k hk => by injection hk with hk; omega), hs2.lt⟩
  rcases hc : v.ownBlock with _ | q
  · exact .inl rfl
  · refine .inr fun e => ?_
    injection e with e
    have := (HO.out.lt q hc).1
    omega

set_option maxHeartbeats 2000000 in
theorem l01DrawModulus_c (w0 : World) (B g : Nat) (A : Option Addr) (n c : Nat) (w : World) (hs : Src w B g A n c) (hb : Below B w0 w) :
    Calls Try.prog 96 #[.pointer (some ⟨g, 0, none⟩)] w fun e w' => ∃ x : Int, e = .returned (.int .i64 x) ∧ 2 ≤ x ∧ x ≤ 10001 ∧ Src w' B g A n c ∧ Below B w0 w' := by
  go_enter Try.func96, Try.ntmps96
  go_wp2_with fail
  refine (l01Next_c w0 B g A n c _ _ hs hb (by omega) (by omega)).mono ?_
  rintro e w1 ⟨r, rfl, r0, r1, hs1, hb1⟩
  go_wp2_with fail
  refine (l01Next_c w0 B g A n c _ _ hs1 hb1 (by omega) (by omega)).mono ?_
  rintro e w2 ⟨q, rfl, q0, q1, hs2, hb2⟩
  go_wp2_with fail
  refine (l01Pick_c w0 B g A n c [2, 3, 4, 5, 6, 7, 8, 9, 10, 12, 16, 25, 27, 30, 49, 101, 210, 2 + r, 2 + q, 10000] _ w2 (by simp) (by simp) hs2 hb2).mono ?_
  rintro e w3 ⟨x, rfl, hx, hs3, hb3⟩
  have hx1 : 2 ≤ x ∧ x ≤ 10001 := by
    simp only [List.mem_cons, List.not_mem_nil, or_false] at hx
    omega
  have HX := Lib.hid hx1
  clear hx hx1
  go_wp2
  go_ret
  exact ⟨_, rfl, HX.out.1, HX.out.2, hs3, hb3⟩
set_option maxHeartbeats 2000000 in
theorem l01Spoil_c (w0 : World) (B g : Nat) (A : Option Addr) (n c : Nat) (w : World) (hs : Src w B g A n c) (hb : Below B w0 w) :
    Calls Try.prog 73 #[.pointer (some ⟨g, 0, none⟩)] w fun e w' => ∃ x : Int, e = .returned (.int .i64 x) ∧ -5 ≤ x ∧ x ≤ 1099511627776 ∧ Src w' B g A n c ∧ Below B w0 w' := by
  go_enter Try.func73, Try.ntmps73
  go_wp2_with fail
  refine (l01Next_c w0 B g A n c _ _ hs hb (by omega) (by omega)).mono ?_
  rintro e w1 ⟨r, rfl, r0, r1, hs1, hb1⟩
  by_cases hr : r = 0
  · subst hr
    go_wp2_with fail
    refine (l01Pick_c w0 B g A n c [0, 1, -5, 10001, 1099511627776] _ w1 (by simp) (by simp) hs1 hb1).mono ?_
    rintro e w2 ⟨x, rfl, hx, hs2, hb2⟩
    have hx1 : -5 ≤ x ∧ x ≤ 1099511627776 := by
      simp only [List.mem_cons, List.not_mem_nil, or_false] at hx
      omega
    have HX := Lib.hid hx1
    clear hx hx1
    go_wp2
    go_ret
    exact ⟨_, rfl, HX.out.1, HX.out.2, hs2, hb2⟩
  · obtain ⟨n1, n2⟩ := ne_facts hr
    go_wp2_with fail
    refine (l01DrawModulus_c w0 B g A n c _ hs1 hb1).mono ?_
    rintro e w2 ⟨x, rfl, x0, x1, hs2, hb2⟩
    go_wp2
    go_ret
    exact ⟨_, rfl, by omega, by omega, hs2, hb2⟩
theorem l01Number_o (w0 : World) (B g : Nat) (A : Option Addr) (n c : Nat) (v : Value) (l : List Int) (m : Int) (w : World) (hs : Src w B g A n c) (ho : OwnI w (g + 1) v l) (hb : Below B w0 w) (hm2 : m ≤ 4000000000000) :
    Calls Try.prog 77 #[.pointer (some ⟨g, 0, none⟩), .int .i64 m] w fun e w' => ∃ x : Int, e = .returned (.int .i64 x) ∧ Src w' B g A n c ∧ OwnI w' (g + 1) v l ∧ Below B w0 w' ∧ g < w'.heap.size := by
  go_enter Try.func77, Try.ntmps77
  go_wp2_with fail
  refine (l01Next_o w0 B g A n c v l _ _ hs ho hb (by omega)).mono ?_
  rintro e w1 ⟨r, rfl, hs1, ho1, hb1, hz1⟩
  by_cases hr : r = 0
  · subst hr
    go_wp2_with fail
    refine (l01Pick_o w0 B g A n c v l [-1, m, 1099511627776, -4611686018427387904] _ w1 (by simp) (by simp) hs1 ho1 hb1).mono ?_
    rintro e w2 ⟨x, rfl, hx, hs2, ho2, hb2, hz2⟩
    clear hx
    go_wp2
    go_ret
    exact ⟨_, rfl, hs2, ho2, hb2, hz2⟩
  · obtain ⟨n1, n2⟩ := ne_facts hr
    go_wp2_with fail
    refine (l01Next_o w0 B g A n c v l _ _ hs1 ho1 hb1 (by omega)).mono ?_
    rintro e w2 ⟨a, rfl, hs2, ho2, hb2, hz2⟩
    go_wp2
    go_ret
    exact ⟨_, rfl, hs2, ho2, hb2, hz2⟩
theorem l01Number_c (w0 : World) (B g : Nat) (A : Option Addr) (n c : Nat) (m : Int) (w : World) (hs : Src w B g A n c) (hb : Below B w0 w) (hm2 : m ≤ 4000000000000) :
    Calls Try.prog 77 #[.pointer (some ⟨g, 0, none⟩), .int .i64 m] w fun e w' => ∃ x : Int, e = .returned (.int .i64 x) ∧ Src w' B g A n c ∧ Below B w0 w' :=
  (l01Number_o w0 B g A n c (.slice none 0 0) [] m w hs (OwnI.nil _ _) hb hm2).mono fun _ _ ⟨x, h1, h2, _, h4, _⟩ => ⟨x, h1, h2, h4⟩

set_option maxHeartbeats 2000000 in
theorem l01Two_any (A : Option Addr) (n c : Nat) (w : World) (hn : n ≤ 4096) (hb : RB w w.heap.size A n) :
    Calls Try.prog 69 #[.slice A n c] w fun e w' => ∃ m x y : Int, e = .returned (.tuple #[.int .i64 m, .int .i64 x, .int .i64 y]) ∧ Below w.heap.size w w' := by
  go_enter Try.func69, Try.ntmps69
  go_wp2_with fail
  refine (l01From_any A n c w hn hb).mono ?_
  rintro e w1 ⟨rfl, hs1, hb1⟩
  go_wp2_with fail
  refine (l01Spoil_c w _ _ A n c _ hs1 hb1).mono ?_
  rintro e w2 ⟨m, rfl, m0, m1, hs2, hb2⟩
  go_wp2_with fail
  refine (l01Number_c w _ _ A n c _ _ hs2 hb2 (by omega)).mono ?_
  rintro e w3 ⟨x, rfl, hs3, hb3⟩
  go_wp2_with fail
  refine (l01Number_c w _ _ A n c _ _ hs3 hb3 (by omega)).mono ?_
  rintro e w4 ⟨y, rfl, hs4, hb4⟩
  go_wp2
  go_ret3
  exact ⟨_, _, _, rfl, hb4⟩
theorem l01One_any (A : Option Addr) (n c : Nat) (w : World) (hn : n ≤ 4096) (hb : RB w w.heap.size A n) :
    Calls Try.prog 58 #[.slice A n c] w fun e w' => ∃ m x : Int, e = .returned (.tuple #[.int .i64 m, .int .i64 x]) ∧ Below w.heap.size w w' := by
  go_enter Try.func58, Try.ntmps58
  go_wp2_with fail
  refine (l01Two_any A n c w hn hb).mono ?_
  rintro e w1 ⟨m, x, y, rfl, hb1⟩
  go_wp2
  go_ret2
  exact ⟨_, _, rfl, hb1⟩
theorem DrawInverseModulo_any (A : Option Addr) (n c : Nat) (w : World) (hn : n ≤ 4096) (hb : RB w w.heap.size A n) :
    Calls Try.prog 16 #[.slice A n c] w fun e w' => ∃ m x : Int, e = .returned (.tuple #[.int .i64 m, .int .i64 x]) ∧ Below w.heap.size w w' := by
  go_enter Try.func16, Try.ntmps16
  go_wp2_with fail
  refine (l01One_any A n c w hn hb).mono ?_
  rintro e w1 ⟨m, x, rfl, hb1⟩
  go_wp2
  go_ret2
  exact ⟨_, _, rfl, hb1⟩
theorem DrawSolveModulo_any (A : Option Addr) (n c : Nat) (w : World) (hn : n ≤ 4096) (hb : RB w w.heap.size A n) :
    Calls Try.prog 28 #[.slice A n c] w fun e w' => ∃ m x y : Int, e = .returned (.tuple #[.int .i64 m, .int .i64 x, .int .i64 y]) ∧ Below w.heap.size w w' := by
  go_enter Try.func28, Try.ntmps28
  go_wp2_with fail
  refine (l01Two_any A n c w hn hb).mono ?_
  rintro e w1 ⟨m, x, y, rfl, hb1⟩
  go_wp2
  go_ret3
  exact ⟨_, _, _, rfl, hb1⟩
theorem DrawRemainderOf_any (A : Option Addr) (n c : Nat) (w : World) (hn : n ≤ 4096) (hb : RB w w.heap.size A n) :
    Calls Try.prog 35 #[.slice A n c] w fun e w' => ∃ m x : Int, e = .returned (.tuple #[.int .i64 m, .int .i64 x]) ∧ -5 ≤ m ∧ m ≤ 1099511627776 ∧ -4611686018427387904 ≤ x ∧ x ≤ 1000000000001 ∧ Below w.heap.size w w' := by
  go_enter Try.func35, Try.ntmps35
  go_wp2_with fail
  refine (l01From_any A n c w hn hb).mono ?_
  rintro e w1 ⟨rfl, hs1, hb1⟩
  go_wp2_with fail
  refine (l01Spoil_c w _ _ A n c _ hs1 hb1).mono ?_
  rintro e w2 ⟨m, rfl, m0, m1, hs2, hb2⟩
  go_wp2_with fail
  refine (l01Any_c w _ _ A n c _ hs2 hb2).mono ?_
  rintro e w3 ⟨x, rfl, x0, x1, hs3, hb3⟩
  go_wp2
  go_ret2
  exact ⟨_, _, rfl, m0, m1, x0, x1, hb3⟩

end Go.Proofs.Ytkhdbphdeabgnaa
