/- Contracts of the exact laws' helpers on series: size, copying, comparing, marking, looking at the marks. -/
import Derived.Test.YtjgpdgoclianlaaSof
import Derived.Test.YtjgpdgoclianlaaSep
namespace Go.Proofs.Ytjgpdgoclianlaa
open Go.RowKit Go.WideShapes Go.ChangeShapes Go.ChangeAt

theorem szInt64S_any (A : Option Addr) (n c : Nat) (left : Int) (w : World) (h1 : 0 ≤ left) (h2 : left ≤ 1048576) (hn : n ≤ 9223372036854775807) :
    Calls Try.prog 83 #[.slice A n c, .int .i64 left] w fun e w' => e = .returned (.int .i64 (if (n : Int) ≤ left then left - n else -1)) ∧ w = w' := by
  by_cases h : (n : Int) ≤ left
  · rw [if_pos h]
    go_enter Try.func83, Try.ntmps83
    go_wp2
    go_ret
    exact ⟨rfl, rfl⟩
  · rw [if_neg h]
    go_enter Try.func83, Try.ntmps83
    go_wp2
    go_ret
    exact ⟨rfl, rfl⟩

theorem szSeries_any (m : Int) (A : Option Addr) (n c : Nat) (left : Int) (w : World) (h1 : 0 ≤ left) (h2 : left ≤ 1048576) (hn : n ≤ 9223372036854775807) :
    Calls Try.prog 37 #[.agg #[.int .i64 m, .slice A n c], .int .i64 left] w fun e w' => e = .returned (.int .i64 (if (n : Int) ≤ left then left - n else -1)) ∧ Below w.heap.size w w' := by
  have hsz := fun W => szInt64S_any A n c left W h1 h2 hn
  by_cases h : (n : Int) ≤ left
  · rw [if_pos h] at hsz ⊢
    have HS := Lib.hid hsz
    clear hsz
    go_enter Try.func37, Try.ntmps37
    go_wp2_with (go_at_call 83; refine (HS.out _).mono ?_; rintro e w' ⟨rfl, rfl⟩)
    go_ret
    exact ⟨rfl, below_one _ _⟩
  · rw [if_neg h] at hsz ⊢
    have HS := Lib.hid hsz
    clear hsz
    go_enter Try.func37, Try.ntmps37
    go_wp2_with (go_at_call 83; refine (HS.out _).mono ?_; rintro e w' ⟨rfl, rfl⟩)
    go_ret
    exact ⟨rfl, below_one _ _⟩

theorem Box.newT (t : TypeId) (w : World) (m : Int) (A : Option Addr) (n c : Nat) : Box (w.alloc (.cells #[.int .i64 m, .slice A n c] t)) w.heap.size m A n c := by
  refine ⟨?_, ?_, by simp⟩ <;> rw [World.cell?_alloc_at _ _ _ _ rfl] <;> rfl
theorem start1 (t : TypeId) (w : World) (m : Int) (A : Option Addr) (n c : Nat) : ∃ W, w.alloc (.cells #[.int .i64 m, .slice A n c] t) = W ∧ Box W w.heap.size m A n c ∧ Below w.heap.size w W :=
  ⟨_, rfl, Box.newT t w m A n c, below_one _ _⟩
theorem start2 (t : TypeId) (w : World) (m : Int) (A : Option Addr) (n c : Nat) (m' : Int) (A' : Option Addr) (n' c' : Nat) :
    ∃ W, (w.alloc (.cells #[.int .i64 m, .slice A n c] t)).alloc (.cells #[.int .i64 m', .slice A' n' c'] t) = W ∧ Box W w.heap.size m A n c ∧ Box W (w.heap.size + 1) m' A' n' c' ∧ Below w.heap.size w W := by
  refine ⟨_, rfl, (Box.newT t w m A n c).keep (below_one _ _), ?_, below_alloc _ (below_one _ _)⟩
  have := Box.newT t (w.alloc (.cells #[.int .i64 m, .slice A n c] t)) m' A' n' c'
  simpa using this

theorem box22_call {w w' : World} {g g' : Nat} {m m' : Int} {A A' : Option Addr} {n c n' c' : Nat} (hb : Below w.heap.size w w')
    (h : (w.cell? ⟨g, 0, none⟩ = some (.int .i64 m) ∧ w.cell? ⟨g, 1, none⟩ = some (.slice A n c) ∧ g < w.heap.size) ∧ (w.cell? ⟨g', 0, none⟩ = some (.int .i64 m') ∧ w.cell? ⟨g', 1, none⟩ = some (.slice A' n' c') ∧ g' < w.heap.size)) :
    (w'.cell? ⟨g, 0, none⟩ = some (.int .i64 m) ∧ w'.cell? ⟨g, 1, none⟩ = some (.slice A n c) ∧ g < w'.heap.size) ∧ (w'.cell? ⟨g', 0, none⟩ = some (.int .i64 m') ∧ w'.cell? ⟨g', 1, none⟩ = some (.slice A' n' c') ∧ g' < w'.heap.size) :=
  ⟨box_call hb h.1, box_call hb h.2⟩
theorem box22_store {w : World} {g g' b : Nat} {m m' : Int} {A A' : Option Addr} {n c n' c' : Nat} {x y : Value} (hne : b ≠ g) (hne' : b ≠ g')
    (h : (w.cell? ⟨g, 0, none⟩ = some (.int .i64 m) ∧ w.cell? ⟨g, 1, none⟩ = some (.slice A n c) ∧ g < w.heap.size) ∧ (w.cell? ⟨g', 0, none⟩ = some (.int .i64 m') ∧ w.cell? ⟨g', 1, none⟩ = some (.slice A' n' c') ∧ g' < w.heap.size)) :
    (((w.setCell ⟨b, 0, none⟩ x).setCell ⟨b, 1, none⟩ y).cell? ⟨g, 0, none⟩ = some (.int .i64 m) ∧ ((w.setCell ⟨b, 0, none⟩ x).setCell ⟨b, 1, none⟩ y).cell? ⟨g, 1, none⟩ = some (.slice A n c) ∧ g < ((w.setCell ⟨b, 0, none⟩ x).setCell ⟨b, 1, none⟩ y).heap.size) ∧
    (((w.setCell ⟨b, 0, none⟩ x).setCell ⟨b, 1, none⟩ y).cell? ⟨g', 0, none⟩ = some (.int .i64 m') ∧ ((w.setCell ⟨b, 0, none⟩ x).setCell ⟨b, 1, none⟩ y).cell? ⟨g', 1, none⟩ = some (.slice A' n' c') ∧ g' < ((w.setCell ⟨b, 0, none⟩ x).setCell ⟨b, 1, none⟩ y).heap.size) :=
  ⟨box_store hne h.1, box_store hne' h.2⟩

theorem Box.mark {w w' : World} {g : Nat} {m : Int} {A : Option Addr} {n c : Nat} {r : Option Nat} (hx : Box w g m A n c) (hg : w.grownBy w' r) (hne : r ≠ some g) : Box w' g m A n c := by
  obtain ⟨h1, h2, h3⟩ := hx
  have hb := hg.block g h3 (fun e => hne e.symm)
  refine ⟨?_, ?_, Nat.lt_of_lt_of_le h3 hg.size⟩
  · rw [← h1]; simp only [World.cell?, hb]
  · rw [← h2]; simp only [World.cell?, hb]

theorem szSeries_ok (m : Int) (A : Option Addr) (n c : Nat) (left : Int) (w : World) (h : (n : Int) ≤ left) (h2 : left ≤ 1048576) :
    Calls Try.prog 37 #[.agg #[.int .i64 m, .slice A n c], .int .i64 left] w fun e w' => e = .returned (.int .i64 (left - n)) ∧ Below w.heap.size w w' := by
  have := szSeries_any m A n c left w (by omega) h2 (by omega)
  rwa [if_pos h] at this
theorem szSeries_no (m : Int) (A : Option Addr) (n c : Nat) (left : Int) (w : World) (h : ¬ (n : Int) ≤ left) (h1 : 0 ≤ left) (h2 : left ≤ 1048576) (hn : n ≤ 9223372036854775807) :
    Calls Try.prog 37 #[.agg #[.int .i64 m, .slice A n c], .int .i64 left] w fun e w' => e = .returned (.int .i64 (-1)) ∧ Below w.heap.size w w' := by
  have := szSeries_any m A n c left w h1 h2 hn
  rwa [if_neg h] at this

theorem below_step {w w1 w2 : World} (h : Below w.heap.size w w1) (hb : Below w1.heap.size w1 w2) : Below w.heap.size w w2 := h.trans (hb.mono h.size)
theorem grown_alloc (w : World) (o : Obj) (r : Option Nat) : w.grownBy (w.alloc o) r := ⟨rfl, rfl, rfl, by simp, fun k hk _ => (below_one w o).block k hk⟩

set_option maxHeartbeats 1000000 in
theorem toSeries_any (m : Int) (A : Option Addr) (c : Nat) (l : List Int) (w : World) (hl : l.length ≤ 1048576) (hr : RA w A l) :
    Calls Try.prog 39 #[.agg #[.int .i64 m, .slice A l.length c]] w fun e w' => ∃ s, e = .returned (.agg #[.int .i64 m, s]) ∧ OwnI w' w.heap.size s l ∧ Below w.heap.size w w' := by
  obtain ⟨W, hW⟩ : ∃ W, (((w.alloc (.cells #[.int .i64 m, .slice A l.length c] 47)).alloc (.cells #[.int .i64 0, .slice none 0 0] 49)).alloc (.cells #[.int .i64 m, .slice none 0 0] 49)) = W := ⟨_, rfl⟩
  have hwb : Below w.heap.size w W := by rw [← hW]; exact below_alloc _ (below_alloc _ (below_one _ _))
  have v1 : Var2 W (w.heap.size + 1) (.int .i64 0) (.slice none 0 0) := by
    rw [← hW]
    have := (Var2.new (w.alloc (.cells #[.int .i64 m, .slice A l.length c] 47)) (.int .i64 0) (.slice none 0 0)).keep (below_one _ (.cells #[.int .i64 m, .slice none 0 0] 49))
    simpa using this
  have v2 : Var2 W (w.heap.size + 1 + 1) (.int .i64 m) (.slice none 0 0) := by
    rw [← hW]
    have := Var2.new ((w.alloc (.cells #[.int .i64 m, .slice A l.length c] 47)).alloc (.cells #[.int .i64 0, .slice none 0 0] 49)) (.int .i64 m) (.slice none 0 0)
    simpa using this
  have HR := Lib.hid (hr.below hwb)
  have HW := Lib.hid hW
  have HB := Lib.hid hwb
  have V1 := Lib.hid v1
  have V2 := Lib.hid v2
  clear hr hW hwb v1 v2
  go_enter Try.func39, Try.ntmps39
  go_wp2_with fail
  rw [HW.out]
  refine (toInt64S_any _ _ l _ hl HR.out).mono ?_
  rintro e w1 ⟨s, rfl, ho1, hb1⟩
  obtain ⟨A1, c1, rfl, _⟩ := ho1.form
  have hu := V2.out.keep hb1
  have q1 := hu.c1
  have q2 := hu.fz 1
  have hu2 := hu.set1 (.slice A1 l.length c1)
  have q3 := hu2.c0
  have q4 := hu2.c1
  have hr1 := (V1.out.keep hb1).far (w.heap.size + 1 + 1) 1 (.slice A1 l.length c1) (by omega)
  have q5 := hr1.c0
  have q6 := hr1.c1
  have q7 := hr1.fz 0
  have q8 := hr1.fz 1
  have hlt := V2.out.lt
  have hw2 : Below w.heap.size w (w1.setCell ⟨w.heap.size + 1 + 1, 1, none⟩ (.slice A1 l.length c1)) := (below_step HB.out hb1).setCell (by show w.heap.size ≤ w.heap.size + 1 + 1; omega) _
  have ho2 := ho1.other (grown_setCell w1 (w.heap.size + 1 + 1) 1 (.slice A1 l.length c1)) (by
    rcases hc : (Value.slice A1 l.length c1).ownBlock with _ | b
    · exact .inl rfl
    · refine .inr (fun e => ?_)
      injection e with e
      have := (ho1.lt b hc).1
      omega)
  obtain ⟨f0, f1, f2, f3⟩ := fin_var (w := w) hr1 ho2 (by omega) (by omega) hw2 (.int .i64 m) (.slice A1 l.length c1)
  have F2 := Lib.hid f2
  have F3 := Lib.hid f3
  clear f2 f3 hw2 ho2 ho1 hb1 hu hu2 hr1
  go_wp2
  refine bodyPost_ret (v := .agg #[.int .i64 m, .slice A1 l.length c1]) (by simp [results, Try.results39, go_sem, f0, f1]) rfl ⟨_, rfl, F2.out, F3.out⟩

set_option maxHeartbeats 1000000 in
theorem eqSeries_any (m : Int) (A B : Option Addr) (c d : Nat) (l : List Int) (w : World) (hl : l.length ≤ 10485760) (ha : RI w A l) (hb : RI w B l) :
    Calls Try.prog 41 #[.agg #[.int .i64 m, .slice A l.length c], .agg #[.int .i64 m, .slice B l.length d]] w fun e w' => e = .returned (.bool true) ∧ Below w.heap.size w w' := by
  have hb2 := (below_alloc (.cells #[.int .i64 m, .slice B l.length d] 49) (below_one w (.cells #[.int .i64 m, .slice A l.length c] 49)))
  have HA := Lib.hid (ha.below hb2)
  have HB := Lib.hid (hb.below hb2)
  have H2 := Lib.hid hb2
  clear ha hb hb2
  go_enter Try.func41, Try.ntmps41
  go_wp2_with (go_at_call 91; refine (eqInt64S_any _ _ _ _ l _ hl HA.out HB.out).mono ?_; rintro e w' ⟨rfl, hb3⟩)
  go_ret
  exact ⟨rfl, below_step H2.out hb3⟩

set_option maxHeartbeats 1000000 in
theorem markSeries_any (m : Int) (v : Value) (base : Nat) (l : List Int) (k : Int) (w : World) (hl : l.length ≤ 10485760) (hk : 0 ≤ k) (hk2 : k ≤ 1000000000000) (hown : OwnI w base v l) :
    Calls Try.prog 42 #[.agg #[.int .i64 m, v], .int .i64 k] w fun e w' => e = .returned (.int .i64 (k + l.length)) ∧ OwnI w' base v (marks k l.length) ∧ w.grownBy w' v.ownBlock := by
  obtain ⟨A, c, rfl, _⟩ := hown.form
  have HO := Lib.hid (hown.keep (below_one w (.cells #[.int .i64 m, .slice A l.length c] 49)))
  clear hown
  go_enter Try.func42, Try.ntmps42
  go_wp2_with (go_at_call 92; refine (markInt64S_any _ base l k _ hl hk hk2 HO.out).mono ?_; rintro e w' ⟨rfl, ho2, hg2⟩)
  go_ret
  exact ⟨rfl, ho2, grown_trans (grown_alloc _ _ _) hg2⟩

set_option maxHeartbeats 1000000 in
theorem heldSeries_any (m : Int) (A : Option Addr) (c n : Nat) (k : Int) (w : World) (hl : n ≤ 10485760) (hk : 0 ≤ k) (hk2 : k ≤ 1000000000000) (hr : RI w A (marks k n)) :
    Calls Try.prog 43 #[.agg #[.int .i64 m, .slice A n c], .int .i64 k] w fun e w' => e = .returned (.int .i64 (k + n)) ∧ Below w.heap.size w w' := by
  have HR := Lib.hid (hr.below (below_one w (.cells #[.int .i64 m, .slice A n c] 49)))
  clear hr
  go_enter Try.func43, Try.ntmps43
  go_wp2_with (go_at_call 93; refine (heldInt64S_any _ _ n k _ hl hk hk2 HR.out).mono ?_; rintro e w' ⟨rfl, rfl⟩)
  go_ret
  exact ⟨rfl, below_one _ _⟩
theorem trd {p q r : Prop} (h : p ∧ q ∧ r) : r := h.2.2
theorem box2_alloc {W w : World} {g g' : Nat} {m m' : Int} {A A' : Option Addr} {n c n' c' : Nat} {p q : Prop} {o : Obj} (h : Box W g m A n c) (h' : Box W g' m' A' n' c') (hs : p ∧ q ∧ Below W.heap.size W w) :
    ((w.alloc o).cell? ⟨g, 0, none⟩ = some (.int .i64 m) ∧ (w.alloc o).cell? ⟨g, 1, none⟩ = some (.slice A n c)) ∧ ((w.alloc o).cell? ⟨g', 0, none⟩ = some (.int .i64 m') ∧ (w.alloc o).cell? ⟨g', 1, none⟩ = some (.slice A' n' c')) ∧ Below W.heap.size W (w.alloc o) :=
  box2_in h h' (below_alloc _ hs.2.2)
theorem reg_end {wk cur wd : World} {p q : Prop} (hs : p ∧ q ∧ Below wk.heap.size wk cur) (hb : Below cur.heap.size cur wd) : Below wk.heap.size wk wd ∧ wk.heap.size ≤ cur.heap.size :=
  ⟨below_step hs.2.2 hb, hs.2.2.size⟩
theorem var_keep {cur wd : World} {g : Nat} {x y : Value} (h : Var2 cur g x y) (hb : Below cur.heap.size cur wd) : Var2 wd g x y ∧ g < cur.heap.size := ⟨h.keep hb, h.lt⟩
theorem var_at {w : World} {g k : Nat} {x y : Value} (_h : Var2 w g x y) (hk : k ≤ g) : k ≤ g := hk
/-- a result has been stored into a variable that lay there before the call -/
theorem reg_fin {wk cur wd : World} {g : Nat} {A : Option Addr} {n c : Nat} {l : List Int} {x y : Value} (hk : wk.heap.size ≤ g) (hgc : g < cur.heap.size) (hv : Var2 wd g x y) (ho : OwnI wd cur.heap.size (.slice A n c) l) (hb : Below wk.heap.size wk wd) (M : Int) :
    OwnI ((wd.setCell ⟨g, 0, none⟩ (.int .i64 M)).setCell ⟨g, 1, none⟩ (.slice A n c)) wk.heap.size (.slice A n c) l ∧ Box ((wd.setCell ⟨g, 0, none⟩ (.int .i64 M)).setCell ⟨g, 1, none⟩ (.slice A n c)) g M A n c ∧
    Below wk.heap.size wk ((wd.setCell ⟨g, 0, none⟩ (.int .i64 M)).setCell ⟨g, 1, none⟩ (.slice A n c)) := by
  obtain ⟨f0, f1, f2, f3⟩ := fin_var (w := wk) hv ho hgc hk hb (.int .i64 M) (.slice A n c)
  exact ⟨f2, ⟨f0, f1, by have := hv.lt; simpa [World.setCell] using this⟩, f3⟩
/-- a result has been stored into a new variable -/
theorem reg_new {wk cur wd : World} {A : Option Addr} {n c : Nat} {l : List Int} (hk : wk.heap.size ≤ cur.heap.size) (ho : OwnI wd cur.heap.size (.slice A n c) l) (hb : Below wk.heap.size wk wd) (M : Int) (t : TypeId) :
    OwnI (wd.alloc (.cells #[.int .i64 M, .slice A n c] t)) wk.heap.size (.slice A n c) l ∧ Box (wd.alloc (.cells #[.int .i64 M, .slice A n c] t)) wd.heap.size M A n c ∧ Below wk.heap.size wk (wd.alloc (.cells #[.int .i64 M, .slice A n c] t)) :=
  ⟨(ho.keep (below_one _ _)).more hk, Box.newT _ _ _ _ _ _, below_alloc _ hb⟩
end Go.Proofs.Ytjgpdgoclianlaa
