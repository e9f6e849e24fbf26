/- Texts of contracts, joined. -/
import Derived.Test.YtlpfifdocgljnaaMgab
import Derived.Test.YtlpfifdocgljnaaMgaa
/- What the methods of grids share: their boxes, their results; planes with one code. -/
namespace Go.Proofs.Ytlpfifdocgljnaa
open Go.RowKit Go.WideShapes Go.ChangeShapes Go.ChangeAt

/-- the block of a grid in a variable of its own -/
def GBox (w : World) (g : Nat) (m : Int) (d : Nat) (A : Option Addr) (n c : Nat) : Prop :=
  w.cell? ⟨g, 0, none⟩ = some (.int .i64 m) ∧ w.cell? ⟨g, 1, none⟩ = some (.int .i64 d) ∧ w.cell? ⟨g, 2, none⟩ = some (.slice A n c) ∧ g < w.heap.size
theorem GBox.new (T : TypeId) (w : World) (m : Int) (d : Nat) (A : Option Addr) (n c : Nat) : GBox (w.alloc (.cells #[.int .i64 m, .int .i64 d, .slice A n c] T)) w.heap.size m d A n c := by
  have h := VarC.new T w #[.int .i64 m, .int .i64 d, .slice A n c]
  exact ⟨h.cell 0 _ rfl, h.cell 1 _ rfl, h.cell 2 _ rfl, h.lt⟩
theorem GBox.keep {w w' : World} {g : Nat} {m : Int} {d : Nat} {A : Option Addr} {n c : Nat} (h : GBox w g m d A n c) (hb : Below w.heap.size w w') : GBox w' g m d A n c :=
  ⟨(hb.cell (p := ⟨g, 0, none⟩) h.2.2.2).trans h.1, (hb.cell (p := ⟨g, 1, none⟩) h.2.2.2).trans h.2.1, (hb.cell (p := ⟨g, 2, none⟩) h.2.2.2).trans h.2.2.1, Nat.lt_of_lt_of_le h.2.2.2 hb.size⟩
/-- a grid's box and its result's variable -/
theorem gpro1 (w : World) (m : Int) (d : Nat) (A : Option Addr) (n c : Nat) : ∃ W, (w.alloc (.cells #[.int .i64 m, .int .i64 d, .slice A n c] 59)).alloc (.cells #[.int .i64 0, .int .i64 0, .slice none 0 0] 59) = W ∧
    GBox W w.heap.size m d A n c ∧ VarC 59 W (w.heap.size + 1) #[.int .i64 0, .int .i64 0, .slice none 0 0] ∧ Below w.heap.size w W := by
  refine ⟨_, rfl, (GBox.new _ _ _ _ _ _ _).keep (below_one _ _), ?_, below_alloc _ (below_one _ _)⟩
  have := VarC.new 59 (w.alloc (.cells #[.int .i64 m, .int .i64 d, .slice A n c] 59)) #[.int .i64 0, .int .i64 0, .slice none 0 0]
  simpa using this
/-- two grids' boxes and the result's variable -/
theorem gpro2 (w : World) (m : Int) (d : Nat) (A : Option Addr) (n c : Nat) (m' : Int) (d' : Nat) (A' : Option Addr) (n' c' : Nat) : ∃ W, ((w.alloc (.cells #[.int .i64 m, .int .i64 d, .slice A n c] 59)).alloc (.cells #[.int .i64 m', .int .i64 d', .slice A' n' c'] 59)).alloc (.cells #[.int .i64 0, .int .i64 0, .slice none 0 0] 59) = W ∧
    GBox W w.heap.size m d A n c ∧ GBox W (w.heap.size + 1) m' d' A' n' c' ∧ VarC 59 W (w.heap.size + 1 + 1) #[.int .i64 0, .int .i64 0, .slice none 0 0] ∧ Below w.heap.size w W := by
  refine ⟨_, rfl, ((GBox.new _ _ _ _ _ _ _).keep (below_one _ _)).keep (below_one _ _), ?_, ?_, below_alloc _ (below_alloc _ (below_one _ _))⟩
  · have := (GBox.new 59 (w.alloc (.cells #[.int .i64 m, .int .i64 d, .slice A n c] 59)) m' d' A' n' c').keep (below_one _ (.cells #[.int .i64 0, .int .i64 0, .slice none 0 0] 59))
    simpa using this
  · have := VarC.new 59 ((w.alloc (.cells #[.int .i64 m, .int .i64 d, .slice A n c] 59)).alloc (.cells #[.int .i64 m', .int .i64 d', .slice A' n' c'] 59)) #[.int .i64 0, .int .i64 0, .slice none 0 0]
    simpa using this
/-- what a grid's variable tells the walk -/
theorem VarC.tells3 {T : TypeId} {w : World} {g : Nat} {a b c : Value} (h : VarC T w g #[a, b, c]) : w.cell? ⟨g, 0, none⟩ = some a ∧ w.cell? ⟨g, 1, none⟩ = some b ∧ w.cell? ⟨g, 2, none⟩ = some c ∧ w.frozen? ⟨g, 0, none⟩ = false ∧ w.frozen? ⟨g, 1, none⟩ = false ∧ w.frozen? ⟨g, 2, none⟩ = false :=
  ⟨h.cell 0 _ rfl, h.cell 1 _ rfl, h.cell 2 _ rfl, h.fz 0, h.fz 1, h.fz 2⟩
theorem VarC.tells2 {T : TypeId} {w : World} {g : Nat} {a b : Value} (h : VarC T w g #[a, b]) : w.cell? ⟨g, 0, none⟩ = some a ∧ w.cell? ⟨g, 1, none⟩ = some b ∧ w.frozen? ⟨g, 0, none⟩ = false ∧ w.frozen? ⟨g, 1, none⟩ = false :=
  ⟨h.cell 0 _ rfl, h.cell 1 _ rfl, h.fz 0, h.fz 1⟩
/-- a plane is stored into its variable: what the return reads -/
theorem fin_plane {T : TypeId} {w w2 : World} {g lo hi : Nat} {v x y : Value} {t : List (List Int)} (hv : VarC T w2 g #[x, y]) (ho : OwnR w2 lo hi v t) (hg : g < lo ∨ hi ≤ g) (hwg : w.heap.size ≤ g) (hhi : hi ≤ w2.heap.size) (hb : Below w.heap.size w w2) (p q : Value) :
    ((w2.setCell ⟨g, 0, none⟩ p).setCell ⟨g, 1, none⟩ q).cell? ⟨g, 0, none⟩ = some p ∧ ((w2.setCell ⟨g, 0, none⟩ p).setCell ⟨g, 1, none⟩ q).cell? ⟨g, 1, none⟩ = some q ∧
    OwnR ((w2.setCell ⟨g, 0, none⟩ p).setCell ⟨g, 1, none⟩ q) lo ((w2.setCell ⟨g, 0, none⟩ p).setCell ⟨g, 1, none⟩ q).heap.size v t ∧ Below w.heap.size w ((w2.setCell ⟨g, 0, none⟩ p).setCell ⟨g, 1, none⟩ q) := by
  have h := (hv.set 0 p).set 1 q
  refine ⟨h.cell 0 _ rfl, h.cell 1 _ rfl, ?_, (hb.setCell hwg _).setCell hwg _⟩
  exact (ho.far (Span.of_grown (lo := g) (hi := g + 1) (grown_set2 w2 g p q) (fun b hb => by injection hb with hb; omega)) (by omega)).more (Nat.le_trans hhi (grown_set2 w2 g p q).size)
/-- a series is -/
theorem fin_serC {T : TypeId} {w w2 : World} {g base : Nat} {v x y : Value} {l : List Int} (hv : VarC T w2 g #[x, y]) (ho : OwnI w2 base v l) (hg : g < base) (hwg : w.heap.size ≤ g) (hb : Below w.heap.size w w2) (p q : Value) :
    ((w2.setCell ⟨g, 0, none⟩ p).setCell ⟨g, 1, none⟩ q).cell? ⟨g, 0, none⟩ = some p ∧ ((w2.setCell ⟨g, 0, none⟩ p).setCell ⟨g, 1, none⟩ q).cell? ⟨g, 1, none⟩ = some q ∧
    OwnI ((w2.setCell ⟨g, 0, none⟩ p).setCell ⟨g, 1, none⟩ q) base v l ∧ Below w.heap.size w ((w2.setCell ⟨g, 0, none⟩ p).setCell ⟨g, 1, none⟩ q) := by
  have h := (hv.set 0 p).set 1 q
  refine ⟨h.cell 0 _ rfl, h.cell 1 _ rfl, ho.other (grown_set2 w2 g p q) ?_, (hb.setCell hwg _).setCell hwg _⟩
  rcases hc : v.ownBlock with _ | b
  · exact .inl rfl
  · refine .inr (fun e => ?_)
    injection e with e
    have := (ho.lt b hc).1
    omega
/-- a plane's box, its result's variable, the list of the one plane -/
theorem pro1P (w : World) (m : Int) (A : Option Addr) (n c : Nat) : ∃ W, ((w.alloc (.cells #[.int .i64 m, .slice A n c] 32)).alloc (.cells #[.int .i64 0, .slice none 0 0] 32)).alloc (.cells #[.int .i64 m, .slice A n c] 32) = W ∧
    Box W w.heap.size m A n c ∧ VarC 32 W (w.heap.size + 1) #[.int .i64 0, .slice none 0 0] ∧ Box W (w.heap.size + 1 + 1) m A n c ∧ Below w.heap.size w W := by
  refine ⟨_, rfl, ((Box.newT _ _ _ _ _ _).keep (below_one _ _)).keep (below_one _ _), ?_, ?_, below_alloc _ (below_alloc _ (below_one _ _))⟩
  · have := (VarC.new 32 (w.alloc (.cells #[.int .i64 m, .slice A n c] 32)) #[.int .i64 0, .slice none 0 0]).keep (below_one _ (.cells #[.int .i64 m, .slice A n c] 32))
    simpa using this
  · have := Box.newT 32 ((w.alloc (.cells #[.int .i64 m, .slice A n c] 32)).alloc (.cells #[.int .i64 0, .slice none 0 0] 32)) m A n c
    simpa using this
/-- .. of a series -/
theorem pro1S (w : World) (m : Int) (A : Option Addr) (n c : Nat) : ∃ W, ((w.alloc (.cells #[.int .i64 m, .slice A n c] 32)).alloc (.cells #[.int .i64 0, .slice none 0 0] 34)).alloc (.cells #[.int .i64 m, .slice A n c] 32) = W ∧
    Box W w.heap.size m A n c ∧ VarC 34 W (w.heap.size + 1) #[.int .i64 0, .slice none 0 0] ∧ Box W (w.heap.size + 1 + 1) m A n c ∧ Below w.heap.size w W := by
  refine ⟨_, rfl, ((Box.newT _ _ _ _ _ _).keep (below_one _ _)).keep (below_one _ _), ?_, ?_, below_alloc _ (below_alloc _ (below_one _ _))⟩
  · have := (VarC.new 34 (w.alloc (.cells #[.int .i64 m, .slice A n c] 32)) #[.int .i64 0, .slice none 0 0]).keep (below_one _ (.cells #[.int .i64 m, .slice A n c] 32))
    simpa using this
  · have := Box.newT 32 ((w.alloc (.cells #[.int .i64 m, .slice A n c] 32)).alloc (.cells #[.int .i64 0, .slice none 0 0] 34)) m A n c
    simpa using this
/-- the model's: a plane's box and its result's variable -/
theorem spro1P (w : World) (m : Int) (A : Option Addr) (n c : Nat) : ∃ W, (w.alloc (.cells #[.int .i64 m, .slice A n c] 32)).alloc (.cells #[.int .i64 0, .slice none 0 0] 32) = W ∧
    Box W w.heap.size m A n c ∧ VarC 32 W (w.heap.size + 1) #[.int .i64 0, .slice none 0 0] ∧ Below w.heap.size w W := by
  refine ⟨_, rfl, (Box.newT _ _ _ _ _ _).keep (below_one _ _), ?_, below_alloc _ (below_one _ _)⟩
  have := VarC.new 32 (w.alloc (.cells #[.int .i64 m, .slice A n c] 32)) #[.int .i64 0, .slice none 0 0]
  simpa using this
/-- two planes' boxes, the result's variable, the list of both -/
theorem pro2P (w : World) (m : Int) (A : Option Addr) (n c : Nat) (m' : Int) (A' : Option Addr) (n' c' : Nat) : ∃ W, (((w.alloc (.cells #[.int .i64 m, .slice A n c] 32)).alloc (.cells #[.int .i64 m', .slice A' n' c'] 32)).alloc (.cells #[.int .i64 0, .slice none 0 0] 32)).alloc (.cells #[.int .i64 m, .slice A n c, .int .i64 m', .slice A' n' c'] 32) = W ∧
    Box W w.heap.size m A n c ∧ Box W (w.heap.size + 1) m' A' n' c' ∧ VarC 32 W (w.heap.size + 1 + 1) #[.int .i64 0, .slice none 0 0] ∧ Box4 W (w.heap.size + 1 + 1 + 1) m A n c m' A' n' c' ∧ Below w.heap.size w W := by
  obtain ⟨W0, h0, h1, h2, h3⟩ := startB2 32 32 w m A n c m' A' n' c'
  have hs : W0.heap.size = w.heap.size + 1 + 1 := by rw [← h0]; simp
  rw [h0]
  refine ⟨_, rfl, (h1.keep (below_one _ _)).keep (below_one _ _), (h2.keep (below_one _ _)).keep (below_one _ _), ?_, ?_, below_alloc _ (below_alloc _ h3)⟩
  · have := (VarC.new 32 W0 #[.int .i64 0, .slice none 0 0]).keep (below_one _ (.cells #[.int .i64 m, .slice A n c, .int .i64 m', .slice A' n' c'] 32))
    rwa [hs] at this
  · have hv := VarC.new 32 (W0.alloc (.cells #[.int .i64 0, .slice none 0 0] 32)) #[.int .i64 m, .slice A n c, .int .i64 m', .slice A' n' c']
    have e : (W0.alloc (.cells #[.int .i64 0, .slice none 0 0] 32)).heap.size = w.heap.size + 1 + 1 + 1 := by simp [hs]
    rw [e] at hv
    exact ⟨⟨hv.cell 0 _ rfl, hv.cell 1 _ rfl, hv.lt⟩, hv.cell 2 _ rfl, hv.cell 3 _ rfl⟩
/-- .. of the model -/
theorem spro2P (w : World) (m : Int) (A : Option Addr) (n c : Nat) (m' : Int) (A' : Option Addr) (n' c' : Nat) : ∃ W, ((w.alloc (.cells #[.int .i64 m, .slice A n c] 32)).alloc (.cells #[.int .i64 m', .slice A' n' c'] 32)).alloc (.cells #[.int .i64 0, .slice none 0 0] 32) = W ∧
    Box W w.heap.size m A n c ∧ Box W (w.heap.size + 1) m' A' n' c' ∧ VarC 32 W (w.heap.size + 1 + 1) #[.int .i64 0, .slice none 0 0] ∧ Below w.heap.size w W := by
  obtain ⟨W0, h0, h1, h2, h3⟩ := startB2 32 32 w m A n c m' A' n' c'
  have hs : W0.heap.size = w.heap.size + 1 + 1 := by rw [← h0]; simp
  rw [h0]
  refine ⟨_, rfl, h1.keep (below_one _ _), h2.keep (below_one _ _), ?_, below_alloc _ h3⟩
  have := VarC.new 32 W0 #[.int .i64 0, .slice none 0 0]
  rwa [hs] at this
/-- a table of a function's, cut to a degree: how many elements -/
theorem szT_ok {m : Int} {d : Nat} {t : List (List Int)} (h : Pl.Ok m d t) : szT t ≤ 1048576 := by
  have key : ∀ k, k ≤ d + 1 → tot (t.take k) ≤ k * 11 := by
    intro k
    induction k with
    | zero => intro _; simp [tot]
    | succ k ih =>
      intro hk
      have h1 := take_tot t k (by rw [h.len]; omega)
      have h2 := h.row k (by omega)
      have h3 := ih (by omega)
      have h4 := h.d2
      omega
  have h1 := key (d + 1) (Nat.le_refl _)
  rw [List.take_of_length_le (by rw [h.len]; omega)] at h1
  have := h.d2
  have := h.len
  unfold szT
  omega
/-- the model of a function of one plane -/
def oneP (f : Int → Nat → List (List Int) → List (List Int)) (m : Int) (t : List (List Int)) : Int × List (List Int) × Int := if codeP1 m t = 0 then (m, f m (t.length - 1) t, 0) else (0, [], codeP1 m t)
theorem oneP_len (f : Int → Nat → List (List Int) → List (List Int)) (m : Int) (t : List (List Int)) (h : ∀ d, Pl.Ok m d t → szT (f m d t) ≤ 1048576) : szT (oneP f m t).2.1 ≤ 1048576 := by
  unfold oneP
  by_cases hc : codeP1 m t = 0
  · rw [if_pos hc]
    obtain ⟨d, e, ho⟩ := plOk_of (codeP1_zero hc)
    rw [e]
    exact h d ho
  · rw [if_neg hc]; exact Nat.zero_le _
/-- .. of two planes -/
def twoP (f : Int → Nat → List (List Int) → List (List Int) → List (List Int)) (m : Int) (t : List (List Int)) (m' : Int) (t' : List (List Int)) : Int × List (List Int) × Int := if codeP2 m t m' t' = 0 then (m, f m (t.length - 1) t t', 0) else (0, [], codeP2 m t m' t')
theorem twoP_len (f : Int → Nat → List (List Int) → List (List Int) → List (List Int)) (m : Int) (t : List (List Int)) (m' : Int) (t' : List (List Int)) (h : ∀ d, Pl.Ok m d t → Pl.Ok m d t' → szT (f m d t t') ≤ 1048576) : szT (twoP f m t m' t').2.1 ≤ 1048576 := by
  unfold twoP
  by_cases hc : codeP2 m t m' t' = 0
  · rw [if_pos hc]
    obtain ⟨rfl, d, e, _, ho, ho'⟩ := codeP2_ok hc
    rw [e]
    exact h d ho ho'
  · rw [if_neg hc]; exact Nat.zero_le _
end Go.Proofs.Ytlpfifdocgljnaa

/- Contracts of sums and multiples of series, of the program. -/
namespace Go.Proofs.Ytlpfifdocgljnaa
open Go.RowKit Go.WideShapes Go.ChangeShapes Go.ChangeAt

set_option maxHeartbeats 1000000 in
theorem plusC_any (n : Nat) (g g' : Nat) (m : Int) (A : Option Addr) (c : Nat) (l : List Int) (m' : Int) (A' : Option Addr) (c' : Nat) (l' : List Int) (W : World)
    (hb : Box W g m A l.length c) (hb' : Box W g' m' A' l'.length c') (hr : RI W A l) (hr' : RI W A' l') (h1 : n < l.length) (h2 : n < l'.length)
    (h3 : 0 ≤ Ser.co l n) (h4 : Ser.co l n ≤ 10000) (h5 : 0 ≤ Ser.co l' n) (h6 : Ser.co l' n ≤ 10000) :
    Calls Try.prog 127 #[.int .i64 n, .pointer (some ⟨g, 0, none⟩), .pointer (some ⟨g', 0, none⟩)] W fun e w' => e = .returned (.int .i64 (Ser.co l n + Ser.co l' n)) ∧ Below W.heap.size W w' := by
  obtain ⟨b, off, rfl, hlt, hc⟩ := hr.at n h1
  obtain ⟨b', off', rfl, hlt', hc'⟩ := hr'.at n h2
  obtain ⟨x1, x2, _⟩ := hb
  obtain ⟨y1, y2, _⟩ := hb'
  obtain ⟨X, hX⟩ : ∃ X, Ser.co l n = X := ⟨_, rfl⟩
  obtain ⟨Y, hY⟩ : ∃ Y, Ser.co l' n = Y := ⟨_, rfl⟩
  rw [hX] at hc h3 h4 ⊢
  rw [hY] at hc' h5 h6 ⊢
  have j1 : (0 : Int) ≤ (n : Int) := by omega
  have j2 : (n : Int) < (l.length : Int) := by omega
  have j3 : (n : Int) < (l'.length : Int) := by omega
  clear hr hr' hX hY
  go_enter Try.func127, Try.ntmps127
  go_wp2
  go_quiet (fail)
  go_wp2
  go_ret
  exact ⟨rfl, below_drewN (Below.refl _ _) _⟩

/-- the world behind the boxes and the result's variable -/
theorem box3_new (w : World) (m m' : Int) (A A' : Option Addr) (n c n' c' : Nat) (W : World) (hW : (((w.alloc (.cells #[.int .i64 m, .slice A n c] 34)).alloc (.cells #[.int .i64 m', .slice A' n' c'] 34)).alloc (.cells #[.int .i64 0, .slice none 0 0] 34)) = W) :
    Box W w.heap.size m A n c ∧ Box W (w.heap.size + 1) m' A' n' c' ∧ Var2 W (w.heap.size + 1 + 1) (.int .i64 0) (.slice none 0 0) ∧ Below w.heap.size w W := by
  subst hW
  obtain ⟨h1, h2, h3⟩ := box2_new w m m' A A' n c n' c' _ rfl
  refine ⟨h1.keep (below_one _ _), h2.keep (below_one _ _), ?_, below_alloc _ h3⟩
  have := Var2.new ((w.alloc (.cells #[.int .i64 m, .slice A n c] 34)).alloc (.cells #[.int .i64 m', .slice A' n' c'] 34)) (.int .i64 0) (.slice none 0 0)
  simpa using this

set_option maxHeartbeats 2000000 in
set_option maxRecDepth 100000 in
theorem plus_any (m : Int) (d : Nat) (A : Option Addr) (c : Nat) (l : List Int) (m' : Int) (A' : Option Addr) (c' : Nat) (l' : List Int) (w : World) (hs : SerOk m d l) (hs' : SerOk m d l') (hr : RI w A l) (hr' : RI w A' l') :
    Calls Try.prog 121 #[.agg #[.int .i64 m, .slice A l.length c], .agg #[.int .i64 m', .slice A' l'.length c']] w fun e w' => ∃ v, e = .returned (.agg #[.int .i64 m, v]) ∧ OwnI w' w.heap.size v (Ser.cut m d fun n => Ser.co l n + Ser.co l' n) ∧ Below w.heap.size w w' := by
  obtain ⟨W, hW⟩ : ∃ W, (((w.alloc (.cells #[.int .i64 m, .slice A l.length c] 34)).alloc (.cells #[.int .i64 m', .slice A' l'.length c'] 34)).alloc (.cells #[.int .i64 0, .slice none 0 0] 34)) = W := ⟨_, rfl⟩
  obtain ⟨b1, b2, v3, hwb⟩ := box3_new w m m' A A' l.length c l'.length c' W hW
  have B1 := Lib.hid b1
  have B2 := Lib.hid b2
  have V3 := Lib.hid v3
  have HB := Lib.hid hwb
  have HW := Lib.hid hW
  have R1 := Lib.hid (hr.below hwb)
  have R2 := Lib.hid (hr'.below hwb)
  have HS := Lib.hid (fun W0 (h0 : Below W.heap.size W W0) => seriesOf_any m d 127 #[.pointer (some ⟨w.heap.size, 0, none⟩), .pointer (some ⟨w.heap.size + 1, 0, none⟩)] (fun n => Ser.co l n + Ser.co l' n) W0 (by have := hs.m1; omega) hs.m2 (by have := hs.d2; omega)
    (fun n _ => by have h1 := hs.red n; have h2 := hs'.red n; have h3 := hs.m2; omega)
    (enters_fn Try.func127 (of_decide_eq_true (by kernel_rfl)) rfl)
    (fun n W1 hn hb => by
      have h1 := hs.red n
      have h2 := hs'.red n
      have h3 := hs.m2
      have hb2 := h0.trans (hb.mono h0.size)
      exact plusC_any n _ _ m A c l m' A' c' l' W1 (B1.out.keep hb2) (B2.out.keep hb2) (R1.out.below hb2) (R2.out.below hb2) (by rw [hs.len]; omega) (by rw [hs'.len]; omega) (by omega) (by omega) (by omega) (by omega)))
  have HL := Lib.hid hs.len
  have HD := Lib.hid hs.d2
  clear b1 b2 v3 hwb hW hr hr' hs hs'
  go_enter Try.func121, Try.ntmps121
  go_wp2
  rw [HW.out]
  obtain ⟨x1, x2, x3⟩ := B1.out
  go_region_held3 (fun w' => w'.cell? ⟨w.heap.size, 0, none⟩ = some (.int .i64 m) ∧ w'.cell? ⟨w.heap.size, 1, none⟩ = some (.slice A l.length c) ∧ w.heap.size < w'.heap.size) (first | exact ⟨x1, x2, x3⟩ | exact box_store (by omega) (by assumption) | exact box_call (by assumption) (by assumption)) (first
    | (go_at_call 69; refine (degree_nat _ _ _ _ d _ HL.out (by have := HD.out; omega)).mono ?_; rintro e1 w1 ⟨rfl, hb1⟩)
    | (go_at_call 78; refine (HS.out _ ((below_drew0 W).trans hb1)).mono ?_; rintro e2 w2 ⟨v, rfl, ho2, hb2⟩; obtain ⟨A2, c2, rfl, _⟩ := ho2.form; have hv := V3.out.keep (((below_drew0 W).trans hb1).trans (hb2.mono ((below_drew0 W).trans hb1).size)); have q0 := hv.c0; have q1 := hv.c1; have q2 := hv.fz 0; have q3 := hv.fz 1))
  all_goals
    have hz := ((below_drew0 W).trans hb1).size
    have hg := x3
    have hw2 : Below w.heap.size w w2 := (HB.out.trans (((below_drew0 W).trans hb1).mono HB.out.size)).trans (hb2.mono (by have := HB.out.size; omega))
    obtain ⟨f0, f1, f2, f3⟩ := fin_var (w := w) hv ho2 (by have := V3.out.lt; omega) (by omega) hw2 (.int .i64 m) (.slice A2 (Ser.cut m d fun n => Ser.co l n + Ser.co l' n).length c2)
    have F2 := Lib.hid f2
    have F3 := Lib.hid f3
    clear f2 f3 hw2 ho2 hb2 hb1
    go_wp2
    refine bodyPost_ret (v := .agg #[.int .i64 m, .slice A2 (Ser.cut m d fun n => Ser.co l n + Ser.co l' n).length c2]) (by simp [results, Try.results121, go_sem, f0, f1]) rfl ⟨_, rfl, F2.out, F3.out⟩
end Go.Proofs.Ytlpfifdocgljnaa

/- Powers, compositions by Horner's rule and reversions as lists of coefficients. Plain: no program in sight. -/
namespace Go.Proofs.Ytlpfifdocgljnaa
namespace Ser

def mulL (m : Int) (d : Nat) (a b : List Int) : List Int := cut m d (mul (co a) (co b))
theorem mulL_length (m : Int) (d : Nat) (a b : List Int) : (mulL m d a b).length = d + 1 := cut_length _ _ _
theorem mulL_red {m : Int} (hm : 0 < m) (d : Nat) (a b : List Int) : Red m (mulL m d a b) := cut_red hm _ _

/-- the steps of squaring: exponent left, product, square -/
def powS (m : Int) (d : Nat) (k : Nat) (p s : List Int) : List Int :=
  if _h : k = 0 then p else powS m d (k / 2) (if k % 2 = 1 then mulL m d p s else p) (mulL m d s s)
termination_by k
decreasing_by omega
theorem powS_zero (m : Int) (d : Nat) (p s : List Int) : powS m d 0 p s = p := by rw [powS]; simp
theorem powS_odd (m : Int) (d : Nat) {k : Nat} (p s : List Int) (h : k % 2 = 1) : powS m d k p s = powS m d (k / 2) (mulL m d p s) (mulL m d s s) := by rw [powS, dif_neg (by omega), if_pos h]
theorem powS_even (m : Int) (d : Nat) {k : Nat} (p s : List Int) (h0 : k ≠ 0) (h : ¬ k % 2 = 1) : powS m d k p s = powS m d (k / 2) p (mulL m d s s) := by rw [powS, dif_neg h0, if_neg h]
def one (m : Int) (d : Nat) : List Int := cut m d (mon 0 1)
def powL (m : Int) (d : Nat) (a : List Int) (k : Nat) : List Int := powS m d k (one m d) a
theorem powS_length (m : Int) (d : Nat) : ∀ (k : Nat) (p s : List Int), p.length = d + 1 → (powS m d k p s).length = d + 1 := by
  intro k
  induction k using Nat.strongRecOn with
  | ind k ih =>
    intro p s hp
    by_cases h0 : k = 0
    · subst h0; rw [powS_zero, hp]
    · by_cases h : k % 2 = 1
      · rw [powS_odd _ _ _ _ h]; exact ih _ (by omega) _ _ (mulL_length _ _ _ _)
      · rw [powS_even _ _ _ _ h0 h]; exact ih _ (by omega) _ _ hp
theorem powL_length (m : Int) (d : Nat) (a : List Int) (k : Nat) : (powL m d a k).length = d + 1 := powS_length _ _ _ _ _ (cut_length _ _ _)
theorem powS_red {m : Int} (hm : 0 < m) (d : Nat) : ∀ (k : Nat) (p s : List Int), Red m p → Red m (powS m d k p s) := by
  intro k
  induction k using Nat.strongRecOn with
  | ind k ih =>
    intro p s hp
    by_cases h0 : k = 0
    · subst h0; rw [powS_zero]; exact hp
    · by_cases h : k % 2 = 1
      · rw [powS_odd _ _ _ _ h]; exact ih _ (by omega) _ _ (mulL_red hm _ _ _)
      · rw [powS_even _ _ _ _ h0 h]; exact ih _ (by omega) _ _ hp
theorem powL_red {m : Int} (hm : 0 < m) (d : Nat) (a : List Int) (k : Nat) : Red m (powL m d a k) := powS_red hm _ _ _ _ (cut_red hm _ _)

/-- Horner's rule over lists: after j steps -/
def horC (m : Int) (d : Nat) (a f : Nat → Int) : Nat → List Int
  | 0 => List.replicate (d + 1) 0
  | j + 1 => (cut m d (mul (co (horC m d a f j)) f)).set 0 (a (d - j))
theorem horC_length (m : Int) (d : Nat) (a f : Nat → Int) : ∀ j, (horC m d a f j).length = d + 1 := by
  intro j
  cases j with
  | zero => simp [horC]
  | succ j => simp [horC, cut_length]
theorem horC_red {m : Int} (hm : 0 < m) (d : Nat) (a f : Nat → Int) (ha : ∀ i, 0 ≤ a i ∧ a i < m) : ∀ j, Red m (horC m d a f j) := by
  intro j i
  cases j with
  | zero => rw [horC, co_zeros]; omega
  | succ j =>
    rw [horC, co_set (by rw [cut_length]; omega)]
    split
    · exact ha _
    · exact cut_red hm _ _ i
theorem horC_hor {m : Int} {d : Nat} {a f : Nat → Int} (hf : f 0 = 0) : ∀ j, j ≤ d → Eq m d (co (horC m d a f (j + 1))) (hor j (fun i => a (d - j + i)) f) := by
  intro j
  induction j with
  | zero =>
    intro _ i hi
    rw [horC, co_set (by rw [cut_length]; omega), hor_zero]
    unfold mon
    by_cases h : i = 0
    · rw [if_pos h, if_pos h]; rfl
    · have z : co (horC m d a f 0) = fun _ => 0 := by funext i; rw [horC, co_zeros]
      rw [if_neg h, if_neg h, co_cut hi, mul_at, z, cv_zero_left]; simp
  | succ j ih =>
    intro hj i hi
    rw [horC, co_set (by rw [cut_length]; omega), hor_succ]
    dsimp only
    have e : (sh fun i => a (d - (j + 1) + i)) = fun i => a (d - j + i) := by
      funext i
      simp only [sh]
      congr 1
      omega
    rw [e, mul_at]
    by_cases h : i = 0
    · subst h
      rw [if_pos rfl, cv_zero, hf]
      simp [mon]
    · rw [if_neg h, co_cut hi, mul_at, Int.emod_emod, cv_comm]
      unfold mon
      rw [if_neg h, Int.zero_add]
      exact cv_congr i (Eq.refl _ _ _) ((ih (by omega)).less hi)
theorem horC_comp {m : Int} {d : Nat} {a f : Nat → Int} (hf : f 0 = 0) : Eq m d (co (horC m d a f (d + 1))) (comp a f) := by
  intro i hi
  rw [horC_hor hf d (Nat.le_refl _) i hi]
  have e : (fun i => a (d - d + i)) = a := by funext i; rw [Nat.sub_self, Nat.zero_add]
  rw [e, hor_comp hf a d i hi]
/-- composition of lists -/
def cmpL (m : Int) (d : Nat) (a f : List Int) : List Int := horC m d (co a) (co f) (d + 1)
theorem cmpL_length (m : Int) (d : Nat) (a f : List Int) : (cmpL m d a f).length = d + 1 := horC_length _ _ _ _ _
theorem cmpL_eq {m : Int} {d : Nat} {a f : List Int} (hf : co f 0 = 0) : Eq m d (co (cmpL m d a f)) (comp (co a) (co f)) := horC_comp hf
theorem cmpL_red {m : Int} (hm : 0 < m) (d : Nat) {a : List Int} (ha : Red m a) (f : List Int) : Red m (cmpL m d a f) := horC_red hm _ _ _ ha _
theorem comp_ext {a a' f : Nat → Int} (hf : f 0 = 0) : ∀ n, (∀ i, i ≤ n → a i = a' i) → comp a f n = comp a' f n := by
  intro n
  induction n using Nat.strongRecOn generalizing a a' with
  | ind n ih =>
    intro h
    rw [comp_eq hf a, comp_eq hf a', h 0 (Nat.zero_le _)]
    dsimp only
    rw [mul_at, mul_at]
    congr 1
    exact cv_ext_curve hf (fun j hj => ih j hj (fun i hi => h (i + 1) (by omega)))
theorem comp_ext_right {a f f' : Nat → Int} (hf : f 0 = 0) (hf' : f' 0 = 0) : ∀ n, (∀ i, i ≤ n → f i = f' i) → comp a f n = comp a f' n := by
  intro n
  induction n using Nat.strongRecOn generalizing a with
  | ind n ih =>
    intro h
    rw [comp_eq hf a, comp_eq hf' a]
    dsimp only
    rw [mul_at, mul_at]
    congr 1
    rw [cv_ext_curve (f := f) hf (fun j hj => ih j hj (fun i hi => h i (by omega)))]
    exact cv_ext n h (fun _ _ => rfl)

/-! the model's reversion: number by number -/
def revC (m u : Int) (f : Nat → Int) : Nat → List Int
  | 0 => [0, u]
  | n + 1 => revC m u f n ++ [((m - comp f (co (revC m u f n)) (n + 2) % m) * u) % m]
theorem revC_length (m u : Int) (f : Nat → Int) : ∀ n, (revC m u f n).length = n + 2 := by
  intro n
  induction n with
  | zero => rfl
  | succ n ih => simp [revC, ih]
theorem revC_pre (m u : Int) (f : Nat → Int) (n k i : Nat) (h : i ≤ n + 1) : co (revC m u f (n + k)) i = co (revC m u f n) i := by
  induction k with
  | zero => rfl
  | succ k ih => rw [Nat.add_succ, revC, co_app, if_pos (by rw [revC_length]; omega), ih]
theorem revC_curve (m u : Int) (f : Nat → Int) (n : Nat) : co (revC m u f n) 0 = 0 := by
  have := revC_pre m u f 0 n 0 (by omega)
  rw [Nat.zero_add] at this
  rw [this]; rfl
theorem revC_last (m u : Int) (f : Nat → Int) (n : Nat) : co (revC m u f (n + 1)) (n + 2) = ((m - comp f (co (revC m u f n)) (n + 2) % m) * u) % m := by
  rw [revC, co_app, if_neg (by rw [revC_length]; omega), revC_length, Nat.sub_self]; rfl
theorem revC_red {m u : Int} (hm : 0 < m) (hu : 0 ≤ u) (hu2 : u < m) (f : Nat → Int) : ∀ n, Red m (revC m u f n) := by
  intro n
  induction n with
  | zero =>
    intro i
    match i with
    | 0 => exact ⟨by simp [revC, co], by simp [revC, co]; exact hm⟩
    | 1 => exact ⟨by simpa [revC, co] using hu, by simpa [revC, co] using hu2⟩
    | i + 2 => rw [co_over (by simp [revC])]; omega
  | succ n ih =>
    intro i
    rw [revC, co_app]
    split
    · exact ih i
    · rename_i h
      rw [revC_length] at h ⊢
      rcases hi : i - (n + 2) with _ | j
      · exact ⟨Int.emod_nonneg _ (by omega), Int.emod_lt_of_pos _ hm⟩
      · rw [co_over (by simp)]; omega
/-- the highest coefficient of the inner curve enters by f(1) alone -/
theorem comp_last {f h h' : Nat → Int} (hh : h 0 = 0) (hh' : h' 0 = 0) (n : Nat) (e : ∀ i, i ≤ n → h i = h' i) :
    comp f h (n + 1) = comp f h' (n + 1) + f 1 * (h (n + 1) - h' (n + 1)) := by
  rw [comp_eq hh f, comp_eq hh' f]
  dsimp only
  rw [mul_at, mul_at, cv_succ' h, cv_succ' h', Int.mul_sub]
  have c0 : comp (sh f) h 0 = f 1 := comp_zero _ _
  have c1 : comp (sh f) h' 0 = f 1 := comp_zero _ _
  rw [c0, c1, Int.mul_comm (f 1), Int.mul_comm (f 1)]
  have c2 : cv n h (sh (comp (sh f) h)) = cv n h' (sh (comp (sh f) h')) := by
    cases n with
    | zero => rw [cv_zero, cv_zero, hh, hh']; simp
    | succ n =>
      rw [cv_succ, cv_succ, hh, hh']
      simp only [Int.zero_mul, Int.zero_add]
      refine cv_ext n (fun i hi => e (i + 1) (by omega)) (fun i hi => ?_)
      exact comp_ext_right hh hh' _ (fun j hj => e j (by omega))
  rw [c2]
  omega
theorem revC_right {m u : Int} {f : Nat → Int} (hf : f 0 = 0) (h : (f 1 * u) % m = 1 % m) (n : Nat) : Eq m (n + 1) (comp f (co (revC m u f n))) (mon 1 1) := by
  induction n with
  | zero =>
    intro i hi
    match i, hi with
    | 0, _ => rw [comp_zero, hf]; simp [mon]
    | 1, _ =>
      rw [comp_eq (revC_curve m u f 0)]
      dsimp only
      rw [mul_at, cv_succ, cv_zero]
      have c1 : comp (sh f) (co (revC m u f 0)) 0 = f 1 := comp_zero _ _
      rw [c1, revC_curve]
      have : sh (co (revC m u f 0)) 0 = u := rfl
      rw [this, Int.mul_comm u]
      simpa [mon] using h
  | succ n ih =>
    intro i hi
    by_cases hi' : i ≤ n + 1
    · rw [comp_ext_right (revC_curve m u f (n + 1)) (revC_curve m u f n) i (fun j hj => revC_pre m u f n 1 j (by omega))]
      exact ih i hi'
    · obtain rfl : i = n + 2 := by omega
      rw [comp_last (revC_curve m u f (n + 1)) (revC_curve m u f n) (n + 1) (fun j hj => revC_pre m u f n 1 j hj), revC_last, co_over (l := revC m u f n) (by rw [revC_length]; omega)]
      generalize comp f (co (revC m u f n)) (n + 2) = S
      have e : (S + f 1 * ((m - S % m) * u % m - 0)) % m = (S + f 1 * ((0 - S) * u)) % m := by
        rw [Int.sub_zero]
        refine add_cong rfl (mul_cong rfl ?_)
        rw [Int.emod_emod]
        refine mul_cong (sub_cong (by simp) (Int.emod_emod _ _)) rfl
      rw [e, Int.zero_sub, show f 1 * (-S * u) = -((f 1 * u) * S) by rw [Int.neg_mul, Int.mul_neg, Int.mul_assoc, Int.mul_comm S u], ← Int.sub_eq_add_neg]
      have e2 : (S - f 1 * u * S) % m = (S - 1 * S) % m := sub_cong rfl (mul_cong h rfl)
      rw [e2, Int.one_mul, Int.sub_self]
      simp [mon]

/-! the program's reversion: the powers of f take t apart -/
def pw (f : Nat → Int) : Nat → Nat → Int
  | 0 => mon 0 1
  | n + 1 => mul (pw f n) f
theorem pw_low {f : Nat → Int} (hf : f 0 = 0) : ∀ n i, i < n → pw f n i = 0 := by
  intro n
  induction n with
  | zero => intro i h; omega
  | succ n ih =>
    intro i hi
    have e : cv i (pw f n) f = cv i f (fun _ => 0) := by
      rw [cv_comm]
      exact cv_ext_curve hf (fun j hj => ih j (by omega))
    rw [pw, mul_at, e, cv_comm, cv_zero_left]
def ipow (x : Int) : Nat → Int
  | 0 => 1
  | n + 1 => ipow x n * x
theorem cv_low {p f : Nat → Int} : ∀ n, (∀ i, i < n → p i = 0) → f 0 = 0 → cv (n + 1) p f = p n * f 1 := by
  intro n
  induction n generalizing p with
  | zero => intro _ hf; rw [cv_succ, cv_zero, hf]; simp
  | succ n ih =>
    intro hp hf
    rw [cv_succ, hp 0 (by omega), ih (p := sh p) (fun i hi => hp (i + 1) (by omega)) hf]
    simp [sh]
theorem pw_lead {f : Nat → Int} (hf : f 0 = 0) : ∀ n, pw f n n = ipow (f 1) n := by
  intro n
  induction n with
  | zero => simp [pw, mon, ipow]
  | succ n ih => rw [pw, mul_at, cv_low n (fun i hi => pw_low hf n i hi) hf, ih]; rfl
theorem ipow_unit {m x u : Int} (h : (x * u) % m = 1 % m) : ∀ n, (ipow x n * ipow u n) % m = 1 % m := by
  intro n
  induction n with
  | zero => rfl
  | succ n ih =>
    rw [ipow, ipow, show ipow x n * x * (ipow u n * u) = (ipow x n * ipow u n) * (x * u) by
      rw [Int.mul_assoc, Int.mul_left_comm x, ← Int.mul_assoc]]
    have := mul_cong ih h
    rw [this]; rfl
theorem comp_mon {f : Nat → Int} (hf : f 0 = 0) : ∀ n, comp (mon n 1) f = pw f n := by
  intro n
  induction n with
  | zero => rw [comp_const hf]; rfl
  | succ n ih =>
    have e : mon (n + 1) 1 = mul (mon n 1) (mon 1 1) := by
      funext i
      rw [mul_comm, mul_at, cv_t]
      unfold mon
      cases i with
      | zero => simp
      | succ i => simp
    funext i
    rw [e, comp_mul hf, ih, t_comp hf]; rfl

/-- the state after n rounds: the reversion so far and what is left over -/
def lagG (m u : Int) (f : Nat → Int) (d : Nat) : Nat → List Int × List Int
  | 0 => (cut m d (mon 0 0), cut m d (mon 1 1))
  | n + 1 =>
    let s := lagG m u f d n
    let g := co s.2 (n + 1) * (ipow u (n + 1) % m) % m
    (s.1.set (n + 1) g, cut m d fun i => co s.2 i + (co (cut m d fun i => pw f (n + 1) i * -g) i))
theorem lagG_len1 (m u : Int) (f : Nat → Int) (d : Nat) : ∀ n, (lagG m u f d n).1.length = d + 1 := by
  intro n
  induction n with
  | zero => exact cut_length _ _ _
  | succ n ih => simp [lagG, ih]
theorem lagG_len2 (m u : Int) (f : Nat → Int) (d : Nat) : ∀ n, (lagG m u f d n).2.length = d + 1 := by
  intro n
  cases n with
  | zero => exact cut_length _ _ _
  | succ n => exact cut_length _ _ _
theorem lagG_red1 {m : Int} (hm : 0 < m) (u : Int) (f : Nat → Int) (d : Nat) : ∀ n, n ≤ d → Red m (lagG m u f d n).1 := by
  intro n
  induction n with
  | zero => intro _; exact cut_red hm _ _
  | succ n ih =>
    intro hn i
    simp only [lagG]
    rw [co_set (by rw [lagG_len1]; omega)]
    split
    · exact ⟨Int.emod_nonneg _ (by omega), Int.emod_lt_of_pos _ hm⟩
    · exact ih (by omega) i
theorem lagG_red2 {m : Int} (hm : 0 < m) (u : Int) (f : Nat → Int) (d : Nat) : ∀ n, Red m (lagG m u f d n).2 := by
  intro n
  cases n with
  | zero => exact cut_red hm _ _
  | succ n => exact cut_red hm _ _
theorem lagG_over {m u : Int} {f : Nat → Int} {d : Nat} : ∀ n i, n ≤ d → n < i → co (lagG m u f d n).1 i = 0 := by
  intro n
  induction n with
  | zero =>
    intro i _ hi
    by_cases h : i ≤ d
    · simp only [lagG]; rw [co_cut h]; simp [mon]
    · exact co_over (by simp only [lagG]; rw [cut_length]; omega)
  | succ n ih =>
    intro i hn hi
    simp only [lagG]
    rw [co_set (by rw [lagG_len1]; omega), if_neg (by omega), ih i (by omega) (by omega)]
theorem lagG_inv {m u : Int} {f : Nat → Int} (hf : f 0 = 0) (hu : (f 1 * u) % m = 1 % m) (d : Nat) : ∀ n, n ≤ d →
    co (lagG m u f d n).1 0 = 0 ∧ Eq m d (fun i => co (lagG m u f d n).2 i + comp (co (lagG m u f d n).1) f i) (mon 1 1) ∧ (∀ i, i ≤ n → co (lagG m u f d n).2 i % m = 0) := by
  intro n
  induction n with
  | zero =>
    intro _
    have z : co (lagG m u f d 0).1 = fun _ => 0 := by
      funext i
      by_cases h : i ≤ d
      · simp only [lagG]; rw [co_cut h]; simp [mon]
      · exact co_over (by simp only [lagG]; rw [cut_length]; omega)
    have c0 : ∀ i, comp (fun _ => 0) f i = 0 := by
      intro i
      have := comp_smul hf 0 i (fun _ => 0)
      simpa using this
    refine ⟨by rw [z], ?_, ?_⟩
    · intro i hi
      dsimp only
      rw [z, c0, Int.add_zero]
      exact co_cut_eq m d (mon 1 1) i hi
    · intro i hi
      obtain rfl : i = 0 := by omega
      simp only [lagG]
      rw [co_cut (by omega)]; simp [mon]
  | succ n ih =>
    intro hn
    obtain ⟨h1, h2, h3⟩ := ih (by omega)
    have l1 := lagG_len1 m u f d n
    have ov : co (lagG m u f d n).1 (n + 1) = 0 := lagG_over n (n + 1) (by omega) (by omega)
    simp only [lagG]
    generalize hR : (lagG m u f d n).2 = R at *
    generalize hG : (lagG m u f d n).1 = G at *
    obtain ⟨g, hg⟩ : ∃ g, co R (n + 1) * (ipow u (n + 1) % m) % m = g := ⟨_, rfl⟩
    rw [hg]
    have hgm : g % m = (co R (n + 1) * ipow u (n + 1)) % m := by
      rw [← hg, Int.emod_emod]; exact mul_cong rfl (Int.emod_emod _ _)
    have hset : co (G.set (n + 1) g) = fun i => co G i + g * mon (n + 1) 1 i := by
      funext i
      rw [co_set (by omega)]
      unfold mon
      by_cases h : i = n + 1
      · subst h; rw [if_pos rfl, if_pos rfl, ov]; omega
      · rw [if_neg h, if_neg h]; omega
    have hcomp : ∀ i, comp (co (G.set (n + 1) g)) f i = comp (co G) f i + g * pw f (n + 1) i := by
      intro i
      rw [hset, comp_add hf, comp_smul hf, comp_mon hf]
    have hrest : ∀ i, i ≤ d → co (cut m d fun i => co R i + co (cut m d fun i => pw f (n + 1) i * -g) i) i % m = (co R i - g * pw f (n + 1) i) % m := by
      intro i hi
      rw [co_cut hi, Int.emod_emod, co_cut hi, Int.sub_eq_add_neg]
      refine add_cong rfl ?_
      rw [Int.emod_emod, Int.mul_comm, Int.neg_mul]
    refine ⟨?_, ?_, ?_⟩
    · rw [hset]
      dsimp only
      rw [h1]
      simp [mon]
    · intro i hi
      have a := h2 i hi
      dsimp only at a ⊢
      rw [hcomp, ← a]
      have b : (co (cut m d fun i => co R i + co (cut m d fun i => pw f (n + 1) i * -g) i) i + (comp (co G) f i + g * pw f (n + 1) i)) % m = ((co R i - g * pw f (n + 1) i) + (comp (co G) f i + g * pw f (n + 1) i)) % m :=
        add_cong (hrest i hi) rfl
      rw [b]
      congr 1
      omega
    · intro i hi
      rw [hrest i (by omega)]
      by_cases hi' : i ≤ n
      · rw [pw_low hf (n + 1) i (by omega), Int.mul_zero, Int.sub_zero]
        exact h3 i hi'
      · obtain rfl : i = n + 1 := by omega
        rw [pw_lead hf]
        have k1 : (g * ipow (f 1) (n + 1)) % m = (co R (n + 1) * 1) % m := by
          have : (g * ipow (f 1) (n + 1)) % m = (co R (n + 1) * ipow u (n + 1) * ipow (f 1) (n + 1)) % m := mul_cong hgm rfl
          rw [this, Int.mul_assoc, Int.mul_comm (ipow u _)]
          exact mul_cong rfl (ipow_unit hu (n + 1))
        have k2 := sub_cong (m := m) (x := co R (n + 1)) (y := co R (n + 1)) rfl k1
        rw [k2, Int.mul_one, Int.sub_self]
        simp
/-- the program's list is the reversion from the left -/
theorem lagG_left {m u : Int} {f : Nat → Int} (hf : f 0 = 0) (hu : (f 1 * u) % m = 1 % m) (d : Nat) : co (lagG m u f d d).1 0 = 0 ∧ Eq m d (comp (co (lagG m u f d d).1) f) (mon 1 1) := by
  obtain ⟨h1, h2, h3⟩ := lagG_inv hf hu d d (Nat.le_refl _)
  refine ⟨h1, fun i hi => ?_⟩
  rw [← h2 i hi]
  dsimp only
  have := add_cong (m := m) (x := co (lagG m u f d d).2 i) (y := 0) (z := comp (co (lagG m u f d d).1) f i) (by rw [h3 i hi]; simp) rfl
  rw [this, Int.zero_add]
/-- both lists are the same -/
theorem lagG_revC {m u : Int} (hm : 0 < m) (hu1 : 0 ≤ u) (hu2 : u < m) {f : Nat → Int} (hf : f 0 = 0) (hu : (f 1 * u) % m = 1 % m) (n : Nat) : (lagG m u f (n + 1) (n + 1)).1 = revC m u f n := by
  obtain ⟨h1, h2⟩ := lagG_left hf hu (n + 1)
  exact red_unique (d := n + 1) (lagG_len1 _ _ _ _ _) (revC_length _ _ _ _) (lagG_red1 hm _ _ _ _ (Nat.le_refl _)) (revC_red hm hu1 hu2 _ _)
    (left_right hf (revC_curve m u f n) h2 (revC_right hf hu n))
end Ser
end Go.Proofs.Ytlpfifdocgljnaa

/- Contracts of monomials, multiples and products of series, of the program. -/
namespace Go.Proofs.Ytlpfifdocgljnaa
open Go.RowKit Go.WideShapes Go.ChangeShapes Go.ChangeAt

/-- a block of one number -/
def Cel (w : World) (g : Nat) (x : Int) : Prop := w.cell? ⟨g, 0, none⟩ = some (.int .i64 x) ∧ g < w.heap.size
theorem Cel.new (w : World) (x : Int) : Cel (w.alloc (.cells #[.int .i64 x] 2)) w.heap.size x := by
  refine ⟨?_, by simp⟩
  rw [World.cell?_alloc_at _ _ _ _ rfl]; rfl
theorem Cel.keep {w w' : World} {g : Nat} {x : Int} (h : Cel w g x) (hb : Below w.heap.size w w') : Cel w' g x :=
  ⟨(hb.cell (p := ⟨g, 0, none⟩) h.2).trans h.1, Nat.lt_of_lt_of_le h.2 hb.size⟩

theorem monoC_any (n k : Nat) (g g' : Nat) (c : Int) (W : World) (h1 : Cel W g k) (h2 : Cel W g' c) :
    Calls Try.prog 94 #[.int .i64 n, .pointer (some ⟨g, 0, none⟩), .pointer (some ⟨g', 0, none⟩)] W fun e w' => e = .returned (.int .i64 (Ser.mon k c n)) ∧ Below W.heap.size W w' := by
  obtain ⟨x1, _⟩ := h1
  obtain ⟨x2, _⟩ := h2
  by_cases h : n = k
  · subst h
    have HE := Lib.hid (show Ser.mon n c n = c by unfold Ser.mon; rw [if_pos rfl])
    go_enter Try.func94, Try.ntmps94
    go_wp2
    go_ret
    exact ⟨ret_int HE.out.symm, Below.refl _ _⟩
  · have HE := Lib.hid (show Ser.mon k c n = 0 by unfold Ser.mon; rw [if_neg h])
    have hn : ¬ (n : Int) = (k : Int) := by omega
    obtain ⟨n1, n2⟩ : ((n : Int) == (k : Int)) = false ∧ ((n : Int) != (k : Int)) = true := ⟨by simpa using hn, by simpa using hn⟩
    clear h
    go_enter Try.func94, Try.ntmps94
    go_wp2
    go_ret
    exact ⟨ret_int HE.out.symm, Below.refl _ _⟩

theorem mon_bd (k : Nat) (c lo hi : Int) (h1 : lo ≤ 0) (h2 : 0 ≤ hi) (h3 : lo ≤ c) (h4 : c ≤ hi) (n : Nat) : lo ≤ Ser.mon k c n ∧ Ser.mon k c n ≤ hi := by
  unfold Ser.mon; split <;> omega

set_option maxHeartbeats 2000000 in
theorem monomial_any (m : Int) (d k : Nat) (c : Int) (w : World) (h1 : 1 ≤ m) (h2 : m ≤ 10000) (hd : d ≤ 1000) (h3 : -1000000 ≤ c) (h4 : c ≤ 1000000) :
    Calls Try.prog 65 #[.int .i64 m, .int .i64 d, .int .i64 k, .int .i64 c] w fun e w' => ∃ v, e = .returned (.agg #[.int .i64 m, v]) ∧ OwnI w' w.heap.size v (Ser.cut m d (Ser.mon k c)) ∧ Below w.heap.size w w' := by
  obtain ⟨W, hW⟩ : ∃ W, ((w.alloc (.cells #[.int .i64 k] 2)).alloc (.cells #[.int .i64 c] 2)).alloc (.cells #[.int .i64 0, .slice none 0 0] 34) = W := ⟨_, rfl⟩
  have hwb : Below w.heap.size w W := by rw [← hW]; exact below_alloc _ (below_alloc _ (below_one _ _))
  have b1 : Cel W w.heap.size k := by rw [← hW]; exact ((Cel.new w k).keep (below_one _ _)).keep (below_one _ _)
  have b2 : Cel W (w.heap.size + 1) c := by
    rw [← hW]
    have := (Cel.new (w.alloc (.cells #[.int .i64 k] 2)) c).keep (below_one _ (.cells #[.int .i64 0, .slice none 0 0] 34))
    simpa using this
  have v3 : Var2 W (w.heap.size + 1 + 1) (.int .i64 0) (.slice none 0 0) := by
    rw [← hW]
    have := Var2.new ((w.alloc (.cells #[.int .i64 k] 2)).alloc (.cells #[.int .i64 c] 2)) (.int .i64 0) (.slice none 0 0)
    simpa using this
  have V3 := Lib.hid v3
  have HB := Lib.hid hwb
  have HW := Lib.hid hW
  have HS := Lib.hid (seriesOf_any m d 94 #[.pointer (some ⟨w.heap.size, 0, none⟩), .pointer (some ⟨w.heap.size + 1, 0, none⟩)] (Ser.mon k c) W h1 h2 hd
    (fun n _ => mon_bd k c _ _ (by omega) (by omega) (by omega) (by omega) n)
    (enters_fn Try.func94 (of_decide_eq_true (by kernel_rfl)) rfl)
    (fun n W1 hn hb => monoC_any n k _ _ c W1 (b1.keep hb) (b2.keep hb)))
  obtain ⟨L, hL⟩ : ∃ L, Ser.cut m d (Ser.mon k c) = L := ⟨_, rfl⟩
  rw [hL] at HS ⊢
  clear b1 b2 v3 hwb hW hL
  go_enter Try.func65, Try.ntmps65
  go_wp2_with fail
  rw [HW.out]
  refine HS.out.mono ?_
  rintro e w2 ⟨v, rfl, ho, hb⟩
  obtain ⟨A2, c2, rfl, _⟩ := ho.form
  have hv := V3.out.keep hb
  have q0 := hv.c0
  have q1 := hv.c1
  have q2 := hv.fz 0
  have q3 := hv.fz 1
  obtain ⟨f0, f1, f2, f3⟩ := fin_var (w := w) hv ho (by have := V3.out.lt; omega) (by omega) (below_step HB.out hb) (.int .i64 m) (.slice A2 L.length c2)
  have F2 := Lib.hid f2
  have F3 := Lib.hid f3
  clear f2 f3 hv ho hb
  go_wp2
  exact bodyPost_ret (v := .agg #[.int .i64 m, .slice A2 L.length c2]) (by simp [results, Try.results65, go_sem, f0, f1]) rfl ⟨_, rfl, F2.out, F3.out⟩

theorem mul_bd {x y : Int} (h1 : 0 ≤ x) (h2 : x ≤ 10000) (h3 : -10000 ≤ y) (h4 : y ≤ 10000) : -100000000 ≤ x * y ∧ x * y ≤ 100000000 := by
  constructor
  · have := Int.mul_le_mul_of_nonneg_left (c := x) h3 h1
    have e : x * -10000 = -(x * 10000) := Int.mul_neg _ _
    omega
  · have := Int.mul_le_mul_of_nonneg_left (c := x) h4 h1
    omega
set_option maxHeartbeats 1000000 in
theorem scaledC_any (n : Nat) (g g' : Nat) (m : Int) (A : Option Addr) (c : Nat) (l : List Int) (k : Int) (W : World)
    (hb : Box W g m A l.length c) (hb' : Cel W g' k) (hr : RI W A l) (h1 : n < l.length) (h3 : 0 ≤ Ser.co l n) (h4 : Ser.co l n ≤ 10000) (h5 : -10000 ≤ k) (h6 : k ≤ 10000) :
    Calls Try.prog 128 #[.int .i64 n, .pointer (some ⟨g, 0, none⟩), .pointer (some ⟨g', 0, none⟩)] W fun e w' => e = .returned (.int .i64 (Ser.co l n * k)) ∧ Below W.heap.size W w' := by
  obtain ⟨b, off, rfl, hlt, hc⟩ := hr.at n h1
  obtain ⟨x1, x2, _⟩ := hb
  obtain ⟨y1, _⟩ := hb'
  obtain ⟨X, hX⟩ : ∃ X, Ser.co l n = X := ⟨_, rfl⟩
  rw [hX] at hc h3 h4 ⊢
  obtain ⟨p1, p2⟩ := mul_bd h3 h4 h5 h6
  have j1 : (0 : Int) ≤ (n : Int) := by omega
  have j2 : (n : Int) < (l.length : Int) := by omega
  clear hr hX
  go_enter Try.func128, Try.ntmps128
  go_wp2
  go_quiet (fail)
  go_wp2
  go_ret
  exact ⟨rfl, below_drewN (Below.refl _ _) _⟩

def scaL (m : Int) (d : Nat) (l : List Int) (k : Int) : List Int := Ser.cut m d fun n => Ser.co l n * k
set_option maxHeartbeats 2000000 in
set_option maxRecDepth 100000 in
theorem scaled_any (m : Int) (d : Nat) (A : Option Addr) (c : Nat) (l : List Int) (k : Int) (w : World) (hs : SerOk m d l) (hr : RI w A l) (h5 : -10000 ≤ k) (h6 : k ≤ 10000) :
    Calls Try.prog 122 #[.agg #[.int .i64 m, .slice A l.length c], .int .i64 k] w fun e w' => ∃ v, e = .returned (.agg #[.int .i64 m, v]) ∧ OwnI w' w.heap.size v (scaL m d l k) ∧ Below w.heap.size w w' := by
  obtain ⟨W, hW⟩ : ∃ W, (((w.alloc (.cells #[.int .i64 m, .slice A l.length c] 34)).alloc (.cells #[.int .i64 k] 2)).alloc (.cells #[.int .i64 0, .slice none 0 0] 34)) = W := ⟨_, rfl⟩
  have hwb : Below w.heap.size w W := by rw [← hW]; exact below_alloc _ (below_alloc _ (below_one _ _))
  have b1 : Box W w.heap.size m A l.length c := by rw [← hW]; exact ((Box.new w m A l.length c).keep (below_one _ _)).keep (below_one _ _)
  have b2 : Cel W (w.heap.size + 1) k := by
    rw [← hW]
    have := (Cel.new (w.alloc (.cells #[.int .i64 m, .slice A l.length c] 34)) k).keep (below_one _ (.cells #[.int .i64 0, .slice none 0 0] 34))
    simpa using this
  have v3 : Var2 W (w.heap.size + 1 + 1) (.int .i64 0) (.slice none 0 0) := by
    rw [← hW]
    have := Var2.new ((w.alloc (.cells #[.int .i64 m, .slice A l.length c] 34)).alloc (.cells #[.int .i64 k] 2)) (.int .i64 0) (.slice none 0 0)
    simpa using this
  have B1 := Lib.hid b1
  have B2 := Lib.hid b2
  have V3 := Lib.hid v3
  have HB := Lib.hid hwb
  have HW := Lib.hid hW
  have R1 := Lib.hid (hr.below hwb)
  have HS := Lib.hid (fun W0 (h0 : Below W.heap.size W W0) => seriesOf_any m d 128 #[.pointer (some ⟨w.heap.size, 0, none⟩), .pointer (some ⟨w.heap.size + 1, 0, none⟩)] (fun n => Ser.co l n * k) W0 (by have := hs.m1; omega) hs.m2 (by have := hs.d2; omega)
    (fun n _ => by have h1 := hs.red n; have h3 := hs.m2; have := mul_bd h1.1 (by omega) h5 h6; omega)
    (enters_fn Try.func128 (of_decide_eq_true (by kernel_rfl)) rfl)
    (fun n W1 hn hb => by
      have h1 := hs.red n
      have h3 := hs.m2
      have hb2 := h0.trans (hb.mono h0.size)
      exact scaledC_any n _ _ m A c l k W1 (B1.out.keep hb2) (B2.out.keep hb2) (R1.out.below hb2) (by rw [hs.len]; omega) (by omega) (by omega) h5 h6))
  have HL := Lib.hid hs.len
  have HD := Lib.hid hs.d2
  obtain ⟨L, hLL⟩ : ∃ L, scaL m d l k = L := ⟨_, rfl⟩
  unfold scaL at hLL ⊢
  rw [hLL] at HS ⊢
  clear b1 b2 v3 hwb hW hr hs hLL
  go_enter Try.func122, Try.ntmps122
  go_wp2
  rw [HW.out]
  obtain ⟨x1, x2, x3⟩ := B1.out
  go_region_held3 (fun w' => w'.cell? ⟨w.heap.size, 0, none⟩ = some (.int .i64 m) ∧ w'.cell? ⟨w.heap.size, 1, none⟩ = some (.slice A l.length c) ∧ w.heap.size < w'.heap.size) (first | exact ⟨x1, x2, x3⟩ | exact box_store (by omega) (by assumption) | exact box_call (by assumption) (by assumption)) (first
    | (go_at_call 69; refine (degree_nat _ _ _ _ d _ HL.out (by have := HD.out; omega)).mono ?_; rintro e1 w1 ⟨rfl, hb1⟩)
    | (go_at_call 78; refine (HS.out _ ((below_drew0 W).trans hb1)).mono ?_; rintro e2 w2 ⟨v, rfl, ho2, hb2⟩; obtain ⟨A2, c2, rfl, _⟩ := ho2.form; have hv := V3.out.keep (((below_drew0 W).trans hb1).trans (hb2.mono ((below_drew0 W).trans hb1).size)); have q0 := hv.c0; have q1 := hv.c1; have q2 := hv.fz 0; have q3 := hv.fz 1))
  all_goals
    have hz := ((below_drew0 W).trans hb1).size
    have hg := x3
    have hw2 : Below w.heap.size w w2 := (HB.out.trans (((below_drew0 W).trans hb1).mono HB.out.size)).trans (hb2.mono (by have := HB.out.size; omega))
    obtain ⟨f0, f1, f2, f3⟩ := fin_var (w := w) hv ho2 (by have := V3.out.lt; omega) (by omega) hw2 (.int .i64 m) (.slice A2 L.length c2)
    have F2 := Lib.hid f2
    have F3 := Lib.hid f3
    clear f2 f3 hw2 ho2 hb2 hb1
    go_wp2
    refine bodyPost_ret (v := .agg #[.int .i64 m, .slice A2 L.length c2]) (by simp [results, Try.results122, go_sem, f0, f1]) rfl ⟨_, rfl, F2.out, F3.out⟩

/-! products -/
set_option maxHeartbeats 4000000 in
theorem productAt_any (m : Int) (d n : Nat) (A : Option Addr) (c : Nat) (l : List Int) (m' : Int) (A' : Option Addr) (c' : Nat) (l' : List Int) (w : World) (hs : SerOk m d l) (hs' : SerOk m d l') (hr : RI w A l) (hr' : RI w A' l') (hn : n ≤ d) :
    Calls Try.prog 126 #[.agg #[.int .i64 m, .slice A l.length c], .agg #[.int .i64 m', .slice A' l'.length c'], .int .i64 n] w fun e w' => e = .returned (.int .i64 (Ser.cv n (Ser.co l) (Ser.co l'))) ∧ Below w.heap.size w w' := by
  obtain ⟨W, hW⟩ : ∃ W, (w.alloc (.cells #[.int .i64 m, .slice A l.length c] 34)).alloc (.cells #[.int .i64 m', .slice A' l'.length c'] 34) = W := ⟨_, rfl⟩
  obtain ⟨b1, b2, hwb⟩ := box2_new w m m' A A' l.length c l'.length c' W hW
  obtain ⟨x1, x2, _⟩ := b1
  obtain ⟨y1, y2, _⟩ := b2
  have HB := Lib.hid hwb
  have HW := Lib.hid hW
  have R1 := Lib.hid (hr.below hwb)
  have R2 := Lib.hid (hr'.below hwb)
  have HS := Lib.hid hs
  have HS' := Lib.hid hs'
  have HD := hs.d2
  obtain ⟨f, hf⟩ : ∃ f, f = fun i => Ser.co l i * Ser.co l' (n - i) := ⟨_, rfl⟩
  have HE := Lib.hid (show Ser.cv n (Ser.co l) (Ser.co l') = Ser.psum f (n + 1) by rw [hf]; exact Ser.cv_psum _ _ _)
  have HF := Lib.hid hf
  clear hwb hW hr hr' hs hs' hf
  go_enter Try.func126, Try.ntmps126
  go_wp2
  rw [HW.out]
  go_loopw [7, 8, 11] (fun s _ i wr => ∃ k : Nat, k ≤ n + 1 ∧ i = .int .i64 k ∧ s = .int .i64 (Ser.psum f k) ∧ 0 ≤ Ser.psum f k ∧ Ser.psum f k ≤ k * 100000000 ∧ ∃ q, wr = W.drewN q) (fun _ _ i _ => n + 1 - (intOf i).toNat)
  case atStart => exact ⟨0, Nat.zero_le _, rfl, rfl, Int.le_refl _, Int.le_refl _, 0, rfl⟩
  case round =>
    obtain ⟨k, hk, rfl, rfl, z1, z2, q, rfl⟩ := hrel
    by_cases hlt : k < n + 1
    · obtain ⟨b, off, rfl, hb, hc⟩ := R1.out.at k (by have := HS.out.len; omega)
      obtain ⟨b', off', rfl, hb', hc'⟩ := R2.out.at (n - k) (by have := HS'.out.len; omega)
      have r1 := HS.out.red k
      have r2 := HS'.out.red (n - k)
      have m2 := HS.out.m2
      have hst : Ser.psum f (k + 1) = Ser.psum f k + Ser.co l k * Ser.co l' (n - k) := by rw [Ser.psum, HF.out]
      obtain ⟨X, hX⟩ : ∃ X, Ser.co l k = X := ⟨_, rfl⟩
      obtain ⟨Y, hY⟩ : ∃ Y, Ser.co l' (n - k) = Y := ⟨_, rfl⟩
      obtain ⟨P, hP⟩ : ∃ P, Ser.psum f k = P := ⟨_, rfl⟩
      rw [hX] at hc r1 hst
      rw [hY] at hc' r2 hst
      rw [hP] at z1 z2 hst
      obtain ⟨p1, p2⟩ := mul_bd (x := X) (y := Y) r1.1 (by omega) (by omega) (by omega)
      have p3 : 0 ≤ X * Y := Int.mul_nonneg r1.1 r2.1
      have l1 := HS.out.len
      have l2 := HS'.out.len
      have j0 : (0 : Int) ≤ (k : Int) := by omega
      have j1 : (k : Int) < (l.length : Int) := by omega
      have j3 : (0 : Int) ≤ (n : Int) - (k : Int) := by omega
      have j4 : (n : Int) - (k : Int) < (l'.length : Int) := by omega
      have j5 : ((n : Int) - (k : Int)).toNat = n - k := by omega
      have HST := Lib.hid hst
      have HP := Lib.hid hP
      clear hX hY hP hst l1 l2
      rw [HP.out]
      go_wp2
      go_quiet (fail)
      go_wp2
      go_roundw
      case rel => exact ⟨k + 1, by omega, by go_num, by rw [HST.out], by rw [HST.out]; omega, by rw [HST.out]; omega, _, rfl⟩
      case measure => simp only [intOf]; omega
    · obtain rfl : k = n + 1 := by omega
      go_wp2
      go_ret
      exact ⟨ret_int HE.out.symm, below_drewN HB.out _⟩
end Go.Proofs.Ytlpfifdocgljnaa

/- Contracts of sums and multiples of grids. -/
namespace Go.Proofs.Ytlpfifdocgljnaa
open Go.RowKit Go.WideShapes Go.ChangeShapes Go.ChangeAt

theorem RP.some {w : World} {A : Option Addr} {t : List (List Int)} (h : RP w A t) (ht : 0 < t.length) : ∃ b off, A = some ⟨b, off, none⟩ := by
  obtain ⟨b, off, _, _, e, _⟩ := h.at 0 ht
  exact ⟨b, off, e⟩
/-- one number of a grid: what the walk reads -/
theorem GBox.num {W : World} {g : Nat} {m : Int} {d b off c : Nat} {t : List (List Int)} (hb : GBox W g m d (some ⟨b, off, none⟩) t.length c) (hs : Pl.Ok m d t) (hr : RP W (some ⟨b, off, none⟩) t) (i j : Nat) (hij : i + j ≤ d) :
    ∃ b' off' c' L N, L = d + 1 ∧ N = d - i + 1 ∧ W.cell? ⟨g, 2, none⟩ = some (.slice (some ⟨b, off, none⟩) L c) ∧ W.cell? ⟨b, off + i, none⟩ = some (.slice (some ⟨b', off', none⟩) N c') ∧ W.cell? ⟨b', off' + j, none⟩ = some (.int .i64 (Pl.pc t i j)) := by
  obtain ⟨_, _, x2, _⟩ := hb
  obtain ⟨b0, off0, b', off', c', e, -, k1, -, k2⟩ := hr.num i j (by rw [hs.len]; omega) (by rw [hs.row i (by omega)]; omega)
  injection e with e
  injection e with e1 e2
  subst e1 e2
  exact ⟨b', off', c', t.length, _, hs.len, hs.row i (by omega), x2, k1, k2⟩
set_option maxHeartbeats 1000000 in
theorem gplusC_any (i j g g' : Nat) (m : Int) (d : Nat) (A : Option Addr) (c : Nat) (t : List (List Int)) (A' : Option Addr) (c' : Nat) (t' : List (List Int)) (W : World) (hb : GBox W g m d A t.length c) (hb' : GBox W g' m d A' t'.length c') (hs : Pl.Ok m d t) (hs' : Pl.Ok m d t') (hr : RP W A t) (hr' : RP W A' t') (hij : i + j ≤ d) :
    Calls Try.prog 97 #[.int .i64 i, .int .i64 j, .pointer (some ⟨g, 0, none⟩), .pointer (some ⟨g', 0, none⟩)] W fun e w' => e = .returned (.int .i64 (Pl.pc t i j + Pl.pc t' i j)) ∧ Below W.heap.size W w' := by
  obtain ⟨b, off, rfl⟩ := hr.some (by rw [hs.len]; omega)
  obtain ⟨b', off', rfl⟩ := hr'.some (by rw [hs'.len]; omega)
  obtain ⟨p1, p2, p3, L, N, hL, hN, x1, x2, x3⟩ := hb.num hs hr i j hij
  obtain ⟨q1, q2, q3, L', N', hL', hN', y1, y2, y3⟩ := hb'.num hs' hr' i j hij
  have r1 := hs.pc i j
  have r2 := hs'.pc i j
  have hm := hs.m2
  obtain ⟨X, hX⟩ : ∃ X, Pl.pc t i j = X := ⟨_, rfl⟩
  obtain ⟨Y, hY⟩ : ∃ Y, Pl.pc t' i j = Y := ⟨_, rfl⟩
  rw [hX] at x3 r1 ⊢
  rw [hY] at y3 r2 ⊢
  obtain ⟨r1, r3⟩ := r1
  obtain ⟨r2, r4⟩ := r2
  have j1 : (0 : Int) ≤ (i : Int) := by omega
  have j2 : (i : Int) < (L : Int) := by omega
  have j3 : (0 : Int) ≤ (j : Int) := by omega
  have j4 : (j : Int) < (N : Int) := by omega
  have j5 : (i : Int) < (L' : Int) := by omega
  have j6 : (j : Int) < (N' : Int) := by omega
  clear hb hb' hr hr' hs hs' hX hY hL hN hL' hN'
  go_enter Try.func97, Try.ntmps97
  go_wp2
  go_quiet (fail)
  go_wp2
  go_ret
  exact ⟨rfl, below_drewN (Below.refl _ _) _⟩
set_option maxHeartbeats 2000000 in
set_option maxRecDepth 100000 in
theorem gplus_any (m : Int) (d : Nat) (A : Option Addr) (c : Nat) (t : List (List Int)) (A' : Option Addr) (c' : Nat) (t' : List (List Int)) (w : World) (hs : Pl.Ok m d t) (hs' : Pl.Ok m d t') (hr : RP w A t) (hr' : RP w A' t') :
    Calls Try.prog 67 #[.agg #[.int .i64 m, .int .i64 d, .slice A t.length c], .agg #[.int .i64 m, .int .i64 d, .slice A' t'.length c']] w fun e w' => ∃ v, e = .returned (.agg #[.int .i64 m, .int .i64 d, v]) ∧ OwnR w' w.heap.size w'.heap.size v (Pl.tab m d (fun i j => Pl.pc t i j + Pl.pc t' i j)) ∧ Below w.heap.size w w' := by
  obtain ⟨W, hW, b1, b2, v3, hwb⟩ := gpro2 w m d A t.length c m d A' t'.length c'
  have HS := Lib.hid (filled_any m d 97 #[.pointer (some ⟨w.heap.size, 0, none⟩), .pointer (some ⟨w.heap.size + 1, 0, none⟩)] (fun i j => Pl.pc t i j + Pl.pc t' i j) W (by have := hs.m1; omega) hs.m2 (by have := hs.d2; omega)
    (fun i j hij => by have := hs.pc i j; have := hs'.pc i j; have := hs.m2; omega) (enters_fn Try.func97 (of_decide_eq_true (by kernel_rfl)) rfl)
    (fun i j W1 hij hb => gplusC_any i j _ _ m d A c t A' c' t' W1 (b1.keep hb) (b2.keep hb) hs hs' ((hr.below hwb).below hb) ((hr'.below hwb).below hb) hij))
  have HB := Lib.hid hwb
  have HW := Lib.hid hW
  have V3 := Lib.hid v3
  obtain ⟨T, hT⟩ : ∃ T, Pl.tab m d (fun i j => Pl.pc t i j + Pl.pc t' i j) = T := ⟨_, rfl⟩
  rw [hT] at HS ⊢
  clear b1 b2 v3 hwb hW hr hr' hs hs' hT
  go_enter Try.func67, Try.ntmps67
  go_wp2_with fail
  rw [HW.out]
  refine HS.out.mono ?_
  rintro e w2 ⟨v, rfl, ho, hb⟩
  obtain ⟨A2, c2, rfl, -⟩ := ho.len
  have hv := V3.out.keep hb
  obtain ⟨q0, q1, q2, q3, q4, q5⟩ := hv.tells3
  obtain ⟨f0, f1, f2, f3, f4⟩ := fin_grid (w := w) hv ho (by have := V3.out.lt; omega) (by omega) (Nat.le_refl _) (below_step HB.out hb) (.int .i64 m) (.int .i64 d) (.slice A2 T.length c2)
  have F3 := Lib.hid (f3.low (show w.heap.size ≤ W.heap.size from HB.out.size))
  have F4 := Lib.hid f4
  unfold set3 at f0 f1 f2
  clear f3 f4 ho hv hb
  go_wp2
  exact bodyPost_ret (v := .agg #[.int .i64 m, .int .i64 d, .slice A2 T.length c2]) (by simp [results, Try.results67, go_sem, f0, f1, f2]) rfl ⟨_, rfl, F3.out, F4.out⟩
end Go.Proofs.Ytlpfifdocgljnaa

/- Contracts of layers: those of Lazard's cocycles, and grids with a layer. -/
namespace Go.Proofs.Ytlpfifdocgljnaa
open Go.RowKit Go.WideShapes Go.ChangeShapes Go.ChangeAt

set_option maxHeartbeats 2000000 in
theorem lazardLayer_any (n : Nat) (w : World) (h1 : 2 ≤ n) (h2 : n ≤ 10) :
    Calls Try.prog 56 #[.int .i64 n] w fun e w' => ∃ v, e = .returned v ∧ OwnI w' w.heap.size v (layL n) ∧ Below w.heap.size w w' := by
  have hmk : ∀ W : World, (Instr.makeSlice 25 (.int .i64 ((n : Int) + 1)) (.int .i64 ((n : Int) + 1))).run Try.prog W = .ok (.slice (some ⟨W.heap.size, 0, none⟩) (n + 1) (n + 1)) (W.alloc (.cells (madeCells #[.int .i64 0] (n + 1)) 2)) := by
    intro W
    have := run_make_row' (P := Try.prog) 25 2 (.int .i64 0) 8 Try.underlying25 info64 rfl .i64 .i64 (n + 1) (by omega) (by omega) W
    rwa [show ((n + 1 : Nat) : Int) = (n : Int) + 1 by omega] at this
  have HO := Lib.hid (OwnI.made w (n + 1) (by unfold maxLen; omega))
  have hin : inB (n : Int) 2 60 = true := inB_yes (by omega) (by omega)
  have hbd := BinomialDivisor_any (n : Int) (w.alloc (.cells (madeCells #[.int .i64 0] (n + 1)) 2))
  rw [if_pos hin, if_pos hin, show ((n : Int).toNat - 1) = n - 1 by omega] at hbd
  obtain ⟨D, hD⟩ : ∃ D, lz (n : Int) (n - 1) = D := ⟨_, rfl⟩
  have hDp : 0 < D := by rw [← hD]; exact lz_pos _ (by omega) (by omega)
  have hDb := (lz_bd (n := (n : Int)) (by omega) (n - 1) (by omega)).2
  rw [hD] at hbd hDb
  have HBD := Lib.hid hbd
  have HF := Lib.hid (fun k (h0 : 0 < k) (h : k < n) => by have := layF_mid h0 h; rw [hD] at this; exact this)
  have hD0 : ¬ D = 0 := by omega
  have hD1 : ¬ D = -1 := by omega
  clear hin hbd hD
  go_enter Try.func56, Try.ntmps56
  go_wp2_with fail
  refine HBD.out.mono ?_
  rintro e w1 ⟨rfl, hb1⟩
  have ho1 := HO.out.keep hb1
  rw [← layP_one] at ho1
  have HO1 := Lib.hid ho1
  have HB1 := Lib.hid (below_step (below_one w (.cells (madeCells #[.int .i64 0] (n + 1)) 2)) hb1)
  clear ho1 hb1 HO HBD hmk
  go_wp2
  go_loopw [6] (fun i wr => ∃ k : Nat, 1 ≤ k ∧ k ≤ n ∧ i = .int .i64 k ∧ OwnI wr w.heap.size (.slice (some ⟨w.heap.size, 0, none⟩) (n + 1) (n + 1)) (layP n k) ∧ Below w.heap.size w wr) (fun i _ => n + 2 - (intOf i).toNat)
  case atStart => exact ⟨1, Nat.le_refl _, by omega, rfl, HO1.out, HB1.out⟩
  case round =>
    clear HO1 HB1
    obtain ⟨k, k1, k2, rfl, own, hbl⟩ := hrel
    have OW := Lib.hid own
    have HB := Lib.hid hbl
    have hsz : w.heap.size < wr.heap.size := (own.lt w.heap.size rfl).2
    clear own hbl
    by_cases hlt : k < n
    · have hlt2 : (k : Int) < (n : Int) := by omega
      have hf := HF.out k (by omega) hlt
      have hst := layP_step (n := n) (k := k) (by omega)
      rw [hf] at hst
      obtain ⟨q1, q2⟩ := binI_bd (n := (n : Int)) (k := (k : Int)) (by omega)
      have HC := Lib.hid (fun W0 => choices_any (n : Int) (k : Int) W0 (by omega) (by omega) (by omega) (by omega))
      obtain ⟨X, hX⟩ : ∃ X, binI (n : Int) (k : Int) = X := ⟨_, rfl⟩
      rw [hX] at HC q1 q2 hst
      have hq : 0 ≤ X.tdiv D ∧ X.tdiv D ≤ X := by
        rw [Int.tdiv_eq_ediv_of_nonneg q1]
        exact ⟨Int.ediv_nonneg q1 (by omega), Int.ediv_le_self _ q1⟩
      obtain ⟨Y, hY⟩ : ∃ Y, X.tdiv D = Y := ⟨_, rfl⟩
      rw [hY] at hq hst
      obtain ⟨-, -, o3, o4⟩ := OW.out.cells
      have d1 := o3 k (by rw [layP_length]; omega)
      have f1 := o4 k
      have hset := OW.out.set k Y
      rw [hst] at hset
      have HSE := Lib.hid hset
      have HB3 := Lib.hid (HB.out.setCell (p := ⟨w.heap.size, k, none⟩) (Nat.le_refl _) (.int .i64 Y))
      have j0 : (0 : Int) ≤ (k : Int) := by omega
      have j2 : (k : Int) < (n : Int) + 1 := by omega
      have HY := Lib.hid hY
      clear hf hst hX o3 o4 hset
      go_wp2_with fail
      refine (HC.out _).mono ?_
      rintro e w3 ⟨rfl, rfl⟩
      go_wp2
      go_roundw
      case rel => exact ⟨k + 1, by omega, hlt, by go_num, HSE.out, HB3.out⟩
      case measure => simp only [intOf]; omega
    · have hlt2 : ¬ (k : Int) < (n : Int) := by omega
      obtain rfl : k = n := by omega
      have HE := Lib.hid (layP_end k)
      go_wp2
      go_ret
      exact ⟨_, rfl, by rw [← HE.out]; exact OW.out, HB.out⟩
theorem withLayerC_any (i j g g' : Nat) (m : Int) (d : Nat) (A : Option Addr) (c : Nat) (l : List Int) (W : World) (hv : VarC 57 W g #[.int .i64 m, .int .i64 d]) (hc : W.cell? ⟨g', 0, none⟩ = some (.slice A l.length c)) (hl : l.length = d + 1) (hr : RI W A l) (hij : i + j ≤ d) (hd : d ≤ 100) :
    Calls Try.prog 86 #[.int .i64 i, .int .i64 j, .pointer (some ⟨g, 0, none⟩), .pointer (some ⟨g', 0, none⟩)] W fun e w' => e = .returned (.int .i64 (ofLay d (Ser.co l) i j)) ∧ Below W.heap.size W w' := by
  obtain ⟨-, x2, -⟩ := hv.tells2
  unfold ofLay
  by_cases h : i + j < d
  · rw [if_pos h]
    have h2 : (i : Int) + (j : Int) < (d : Int) := by omega
    clear hr
    go_enter Try.func86, Try.ntmps86
    go_wp2
    go_ret
    exact ⟨rfl, Below.refl _ _⟩
  · rw [if_neg h]
    have h2 : ¬ (i : Int) + (j : Int) < (d : Int) := by omega
    obtain ⟨b, off, rfl, hb, hcl⟩ := hr.at i (by omega)
    obtain ⟨X, hX⟩ : ∃ X, Ser.co l i = X := ⟨_, rfl⟩
    rw [hX] at hcl ⊢
    have j0 : (0 : Int) ≤ (i : Int) := by omega
    have j1 : (i : Int) < (l.length : Int) := by omega
    obtain ⟨L, hL⟩ : ∃ L, l.length = L := ⟨_, rfl⟩
    rw [hL] at hc j1
    clear hX hr hl hL
    go_enter Try.func86, Try.ntmps86
    go_wp2
    go_ret
    exact ⟨rfl, Below.refl _ _⟩
set_option maxHeartbeats 2000000 in
set_option maxRecDepth 100000 in
theorem withLayer_any (m : Int) (d : Nat) (A : Option Addr) (c : Nat) (l : List Int) (w : World) (m1 : 2 ≤ m) (m2 : m ≤ 10000) (hd : d ≤ 100) (hl : l.length = d + 1) (hr : RI w A l) (hb : ∀ i, -1000000000000 ≤ Ser.co l i ∧ Ser.co l i ≤ 1000000000000) :
    Calls Try.prog 55 #[.agg #[.int .i64 m, .int .i64 d], .slice A l.length c] w fun e w' => ∃ v, e = .returned (.agg #[.int .i64 m, .int .i64 d, v]) ∧ OwnR w' w.heap.size w'.heap.size v (Pl.tab m d (ofLay d (Ser.co l))) ∧ Below w.heap.size w w' := by
  obtain ⟨W, hW⟩ : ∃ W, ((w.alloc (.cells #[.int .i64 m, .int .i64 d] 57)).alloc (.cells #[.slice A l.length c] 25)).alloc (.cells #[.int .i64 0, .int .i64 0, .slice none 0 0] 59) = W := ⟨_, rfl⟩
  have hwb : Below w.heap.size w W := by rw [← hW]; exact below_alloc _ (below_alloc _ (below_one _ _))
  have b1 : VarC 57 W w.heap.size #[.int .i64 m, .int .i64 d] := by rw [← hW]; exact ((VarC.new _ _ _).keep (below_one _ _)).keep (below_one _ _)
  have b2 : VarC 25 W (w.heap.size + 1) #[.slice A l.length c] := by
    rw [← hW]
    have := (VarC.new 25 (w.alloc (.cells #[.int .i64 m, .int .i64 d] 57)) #[.slice A l.length c]).keep (below_one _ (.cells #[.int .i64 0, .int .i64 0, .slice none 0 0] 59))
    simpa using this
  have v3 : VarC 59 W (w.heap.size + 1 + 1) #[.int .i64 0, .int .i64 0, .slice none 0 0] := by
    rw [← hW]
    have := VarC.new 59 ((w.alloc (.cells #[.int .i64 m, .int .i64 d] 57)).alloc (.cells #[.slice A l.length c] 25)) #[.int .i64 0, .int .i64 0, .slice none 0 0]
    simpa using this
  have HS := Lib.hid (filled_any m d 86 #[.pointer (some ⟨w.heap.size, 0, none⟩), .pointer (some ⟨w.heap.size + 1, 0, none⟩)] (ofLay d (Ser.co l)) W (by omega) m2 (by omega)
    (fun i j hij => by unfold ofLay; have := hb i; split <;> omega) (enters_fn Try.func86 (of_decide_eq_true (by kernel_rfl)) rfl)
    (fun i j W1 hij hb1 => withLayerC_any i j _ _ m d A c l W1 (b1.keep hb1) ((b2.keep hb1).cell 0 _ rfl) hl ((hr.below hwb).below hb1) hij hd))
  have HB := Lib.hid hwb
  have HW := Lib.hid hW
  have V3 := Lib.hid v3
  obtain ⟨x1, x2, -⟩ := b1.tells2
  obtain ⟨T, hT⟩ : ∃ T, Pl.tab m d (ofLay d (Ser.co l)) = T := ⟨_, rfl⟩
  rw [hT] at HS ⊢
  obtain ⟨L, hL⟩ : ∃ L, l.length = L := ⟨_, rfl⟩
  rw [hL] at HW ⊢
  clear b1 b2 v3 hwb hW hr hT hL hb hl
  go_enter Try.func55, Try.ntmps55
  go_wp2_with fail
  rw [HW.out]
  refine HS.out.mono ?_
  rintro e w2 ⟨v, rfl, ho, hb⟩
  obtain ⟨A2, c2, rfl, -⟩ := ho.len
  have hv := V3.out.keep hb
  obtain ⟨q0, q1, q2, q3, q4, q5⟩ := hv.tells3
  obtain ⟨f0, f1, f2, f3, f4⟩ := fin_grid (w := w) hv ho (by have := V3.out.lt; omega) (by omega) (Nat.le_refl _) (below_step HB.out hb) (.int .i64 m) (.int .i64 d) (.slice A2 T.length c2)
  have F3 := Lib.hid (f3.low (show w.heap.size ≤ W.heap.size from HB.out.size))
  have F4 := Lib.hid f4
  unfold set3 at f0 f1 f2
  clear f3 f4 ho hv hb
  go_wp2
  exact bodyPost_ret (v := .agg #[.int .i64 m, .int .i64 d, .slice A2 T.length c2]) (by simp [results, Try.results55, go_sem, f0, f1, f2]) rfl ⟨_, rfl, F3.out, F4.out⟩
end Go.Proofs.Ytlpfifdocgljnaa

/- Contract of a grid with its variables exchanged. -/
namespace Go.Proofs.Ytlpfifdocgljnaa
open Go.RowKit Go.WideShapes Go.ChangeShapes Go.ChangeAt

set_option maxHeartbeats 1000000 in
theorem turnedC_any (i j g : Nat) (m : Int) (d : Nat) (A : Option Addr) (c : Nat) (t : List (List Int)) (W : World) (hb : GBox W g m d A t.length c) (hs : Pl.Ok m d t) (hr : RP W A t) (hij : i + j ≤ d) :
    Calls Try.prog 116 #[.int .i64 i, .int .i64 j, .pointer (some ⟨g, 0, none⟩)] W fun e w' => e = .returned (.int .i64 (Pl.pc t j i)) ∧ Below W.heap.size W w' := by
  obtain ⟨_, _, x2, _⟩ := hb
  obtain ⟨b, off, b', off', c', rfl, -, k1, -, k2⟩ := hr.num j i (by rw [hs.len]; omega) (by rw [hs.row j (by omega)]; omega)
  have hl := hs.len
  have hrw := hs.row j (by omega)
  obtain ⟨N, hN⟩ : ∃ N, d - j + 1 = N := ⟨_, rfl⟩
  obtain ⟨L, hL⟩ : ∃ L, t.length = L := ⟨_, rfl⟩
  obtain ⟨X, hX⟩ : ∃ X, Pl.pc t j i = X := ⟨_, rfl⟩
  rw [hrw, hN] at k1
  rw [hX] at k2 ⊢
  rw [hL] at x2
  have j1 : (0 : Int) ≤ (j : Int) := by omega
  have j2 : (j : Int) < (L : Int) := by omega
  have j3 : (0 : Int) ≤ (i : Int) := by omega
  have j4 : (i : Int) < (N : Int) := by omega
  clear hl hrw hN hL hX hr hs
  go_enter Try.func116, Try.ntmps116
  go_wp2
  go_ret
  exact ⟨rfl, Below.refl _ _⟩
set_option maxHeartbeats 2000000 in
set_option maxRecDepth 100000 in
theorem turned_any (m : Int) (d : Nat) (A : Option Addr) (c : Nat) (t : List (List Int)) (w : World) (hs : Pl.Ok m d t) (hr : RP w A t) :
    Calls Try.prog 96 #[.agg #[.int .i64 m, .int .i64 d, .slice A t.length c]] w fun e w' => ∃ v, e = .returned (.agg #[.int .i64 m, .int .i64 d, v]) ∧ OwnR w' w.heap.size w'.heap.size v (Pl.tab m d (fun i j => Pl.pc t j i)) ∧ Below w.heap.size w w' := by
  obtain ⟨W, hW, b1, v3, hwb⟩ := gpro1 w m d A t.length c
  have HS := Lib.hid (filled_any m d 116 #[.pointer (some ⟨w.heap.size, 0, none⟩)] (fun i j => Pl.pc t j i) W (by have := hs.m1; omega) hs.m2 (by have := hs.d2; omega)
    (fun i j hij => by have := hs.pc j i; have := hs.m2; omega) (enters_fn Try.func116 (of_decide_eq_true (by kernel_rfl)) rfl)
    (fun i j W1 hij hb => turnedC_any i j _ m d A c t W1 (b1.keep hb) hs ((hr.below hwb).below hb) hij))
  have HB := Lib.hid hwb
  have HW := Lib.hid hW
  have V3 := Lib.hid v3
  obtain ⟨T, hT⟩ : ∃ T, Pl.tab m d (fun i j => Pl.pc t j i) = T := ⟨_, rfl⟩
  rw [hT] at HS ⊢
  obtain ⟨L, hL⟩ : ∃ L, t.length = L := ⟨_, rfl⟩
  rw [hL] at HW ⊢
  clear b1 v3 hwb hW hr hs hT hL
  go_enter Try.func96, Try.ntmps96
  go_wp2_with fail
  rw [HW.out]
  refine HS.out.mono ?_
  rintro e w2 ⟨v, rfl, ho, hb⟩
  obtain ⟨A2, c2, rfl, -⟩ := ho.len
  have hv := V3.out.keep hb
  obtain ⟨q0, q1, q2, q3, q4, q5⟩ := hv.tells3
  obtain ⟨f0, f1, f2, f3, f4⟩ := fin_grid (w := w) hv ho (by have := V3.out.lt; omega) (by omega) (Nat.le_refl _) (below_step HB.out hb) (.int .i64 m) (.int .i64 d) (.slice A2 T.length c2)
  have F3 := Lib.hid (f3.low (show w.heap.size ≤ W.heap.size from HB.out.size))
  have F4 := Lib.hid f4
  unfold set3 at f0 f1 f2
  clear f3 f4 ho hv hb
  go_wp2
  exact bodyPost_ret (v := .agg #[.int .i64 m, .int .i64 d, .slice A2 T.length c2]) (by simp [results, Try.results96, go_sem, f0, f1, f2]) rfl ⟨_, rfl, F3.out, F4.out⟩
end Go.Proofs.Ytlpfifdocgljnaa

/- Contracts of the grids of series. -/
namespace Go.Proofs.Ytlpfifdocgljnaa
open Go.RowKit Go.WideShapes Go.ChangeShapes Go.ChangeAt

set_option maxHeartbeats 2000000 in
set_option maxRecDepth 100000 in
theorem frameOfSeries_any (m : Int) (A : Option Addr) (n c d : Nat) (w : World) (hn : n = d + 1) (hd : d ≤ 1000) :
    Calls Try.prog 81 #[.agg #[.int .i64 m, .slice A n c]] w fun e w' => e = .returned (.agg #[.int .i64 m, .int .i64 d]) ∧ Below w.heap.size w w' := by
  obtain ⟨W, hW⟩ : ∃ W, (w.alloc (.cells #[.int .i64 m, .slice A n c] 34)).alloc (.cells #[.int .i64 0, .int .i64 0] 57) = W := ⟨_, rfl⟩
  have hwb : Below w.heap.size w W := by rw [← hW]; exact below_alloc _ (below_one _ _)
  have b1 : Box W w.heap.size m A n c := by rw [← hW]; exact (Box.newT _ _ _ _ _ _).keep (below_one _ _)
  have v2 : VarC 57 W (w.heap.size + 1) #[.int .i64 0, .int .i64 0] := by
    rw [← hW]
    have := VarC.new 57 (w.alloc (.cells #[.int .i64 m, .slice A n c] 34)) #[.int .i64 0, .int .i64 0]
    simpa using this
  have HG := Lib.hid (fun W0 => degree_nat m A n c d W0 hn hd)
  have HB := Lib.hid hwb
  have HW := Lib.hid hW
  have V2 := Lib.hid v2
  obtain ⟨x1, x2, x3⟩ := b1
  clear hwb hW v2 hn
  go_enter Try.func81, Try.ntmps81
  go_wp2
  rw [HW.out]
  go_region_held3 (fun w' => w'.cell? ⟨w.heap.size, 0, none⟩ = some (.int .i64 m) ∧ w'.cell? ⟨w.heap.size, 1, none⟩ = some (.slice A n c) ∧ w.heap.size < w'.heap.size) (first | exact ⟨x1, x2, x3⟩ | exact box_store (by omega) (by assumption) | exact box_call (by assumption) (by assumption)) (first
    | (go_at_call 69; refine (HG.out _).mono ?_; rintro e1 w1 ⟨rfl, hb1⟩; have hv := V2.out.keep (below_step (below_drew0 _) hb1); obtain ⟨q0, q1, q2, q3⟩ := hv.tells2))
  all_goals
    have h2 := (hv.set 0 (.int .i64 m)).set 1 (.int .i64 d)
    obtain ⟨f0, f1, _⟩ := h2.tells2
    have HF := Lib.hid (((below_step HB.out (below_step (below_drew0 _) hb1)).setCell (p := ⟨w.heap.size + 1, 0, none⟩) (by show w.heap.size ≤ w.heap.size + 1; omega) (.int .i64 m)).setCell (p := ⟨w.heap.size + 1, 1, none⟩) (by show w.heap.size ≤ w.heap.size + 1; omega) (.int .i64 d))
    clear h2 hb1 hv
    go_wp2
    exact bodyPost_ret (v := .agg #[.int .i64 m, .int .i64 d]) (by simp [results, Try.results81, go_sem, f0, f1]) rfl ⟨rfl, HF.out⟩

theorem gosC_any (i j g : Nat) (m : Int) (d : Nat) (A : Option Addr) (c : Nat) (l : List Int) (W : World) (hb : Box W g m A l.length c) (hs : SerOk m d l) (hr : RI W A l) (hij : i + j ≤ d) :
    Calls Try.prog 95 #[.int .i64 i, .int .i64 j, .pointer (some ⟨g, 0, none⟩)] W fun e w' => e = .returned (.int .i64 (if i = 0 then Ser.co l j else 0)) ∧ Below W.heap.size W w' := by
  obtain ⟨_, x2, _⟩ := hb
  by_cases hi : i = 0
  · rw [if_pos hi]
    subst hi
    obtain ⟨b, off, rfl, hlt, hc⟩ := hr.at j (by rw [hs.len]; omega)
    obtain ⟨X, hX⟩ : ∃ X, Ser.co l j = X := ⟨_, rfl⟩
    rw [hX] at hc ⊢
    have j0 : (0 : Int) ≤ (j : Int) := by omega
    have j1 : (j : Int) < (l.length : Int) := by have := hs.len; omega
    clear hX hr hs
    go_enter Try.func95, Try.ntmps95
    go_wp2
    go_ret
    exact ⟨rfl, Below.refl _ _⟩
  · rw [if_neg hi]
    have hi2 : ¬ (i : Int) = 0 := by omega
    obtain ⟨n1, n2⟩ := ne_facts hi2
    clear hi hr hs
    go_enter Try.func95, Try.ntmps95
    go_wp2
    go_ret
    exact ⟨rfl, Below.refl _ _⟩
/-- the table of a(x) for k = 0, of a(y) else -/
def gosF (l : List Int) (k : Int) : Nat → Nat → Int := fun i j => if k = 0 then (if j = 0 then Ser.co l i else 0) else (if i = 0 then Ser.co l j else 0)
theorem gosF_turned (m : Int) (d : Nat) (l : List Int) : (Pl.tab m d fun i j => Pl.pc (Pl.tab m d fun i j => if i = 0 then Ser.co l j else 0) j i) = Pl.tab m d (gosF l 0) :=
  Pl.tab_congr (fun i j h => by
    rw [Pl.pc_tab (by omega), Int.emod_emod]
    unfold gosF
    rw [if_pos rfl])
theorem gosF_plain (m : Int) (d : Nat) (l : List Int) (k : Int) (hk : ¬ k = 0) : (Pl.tab m d fun i j => if i = 0 then Ser.co l j else 0) = Pl.tab m d (gosF l k) :=
  Pl.tab_congr (fun i j h => by unfold gosF; rw [if_neg hk])
set_option maxHeartbeats 2000000 in
set_option maxRecDepth 100000 in
theorem gridOfSeries_any (m : Int) (d : Nat) (A : Option Addr) (c : Nat) (l : List Int) (k : Int) (w : World) (hs : SerOk m d l) (hr : RI w A l) :
    Calls Try.prog 66 #[.agg #[.int .i64 m, .slice A l.length c], .int .i64 k] w fun e w' => ∃ v, e = .returned (.agg #[.int .i64 m, .int .i64 d, v]) ∧ OwnR w' w.heap.size w'.heap.size v (Pl.tab m d (gosF l k)) ∧ Below w.heap.size w w' := by
  obtain ⟨W, hW⟩ : ∃ W, (w.alloc (.cells #[.int .i64 m, .slice A l.length c] 34)).alloc (.cells #[.int .i64 0, .int .i64 0, .slice none 0 0] 59) = W := ⟨_, rfl⟩
  have hwb : Below w.heap.size w W := by rw [← hW]; exact below_alloc _ (below_one _ _)
  have b1 : Box W w.heap.size m A l.length c := by rw [← hW]; exact (Box.newT _ _ _ _ _ _).keep (below_one _ _)
  have v2 : VarC 59 W (w.heap.size + 1) #[.int .i64 0, .int .i64 0, .slice none 0 0] := by
    rw [← hW]
    have := VarC.new 59 (w.alloc (.cells #[.int .i64 m, .slice A l.length c] 34)) #[.int .i64 0, .int .i64 0, .slice none 0 0]
    simpa using this
  have HG := Lib.hid (fun W0 => frameOfSeries_any m A l.length c d W0 hs.len (by have := hs.d2; omega))
  have hm1 := hs.m1
  have HS := Lib.hid (fun W0 (h : Below W.heap.size W W0) => filled_any m d 95 #[.pointer (some ⟨w.heap.size, 0, none⟩)] (fun i j => if i = 0 then Ser.co l j else 0) W0 (by omega) hs.m2 (by have := hs.d2; omega)
    (fun i j hij => by have := hs.red j; have := hs.m2; split <;> omega) (enters_fn Try.func95 (of_decide_eq_true (by kernel_rfl)) rfl)
    (fun i j W1 hij hb => gosC_any i j _ m d A c l W1 ((b1.keep h).keep hb) hs (((hr.below hwb).below h).below hb) hij))
  have HT := Lib.hid (fun (W0 : World) (A0 : Option Addr) (c0 : Nat) (h : RP W0 A0 (Pl.tab m d fun i j => if i = 0 then Ser.co l j else 0)) => turned_any m d A0 c0 _ W0 (Pl.Ok.of_tab hs.m1 hs.m2 hs.d1 hs.d2 _) h)
  have HB := Lib.hid hwb
  have HW := Lib.hid hW
  have V3 := Lib.hid v2
  obtain ⟨x1, x2, x3⟩ := b1
  by_cases hk : k = 0
  · subst hk
    rw [gosF_turned] at HT
    obtain ⟨T0, hT0⟩ : ∃ T0, (Pl.tab m d fun i j => if i = 0 then Ser.co l j else 0) = T0 := ⟨_, rfl⟩
    obtain ⟨T, hT⟩ : ∃ T, Pl.tab m d (gosF l 0) = T := ⟨_, rfl⟩
    rw [hT0] at HS HT
    rw [hT] at HT ⊢
    clear hwb hW v2 hr hs hT hT0
    go_enter Try.func66, Try.ntmps66
    go_wp2_with fail
    rw [HW.out]
    refine (HG.out _).mono ?_
    rintro e w1 ⟨rfl, hb1⟩
    go_wp2_with fail
    refine (HS.out _ hb1).mono ?_
    rintro e w2 ⟨v, rfl, ho2, hb2⟩
    obtain ⟨A1, c1, rfl, hp⟩ := ho2.len
    have HP := Lib.hid (hp.below (below_one w2 (.cells #[.int .i64 m, .int .i64 d, .slice A1 T0.length c1] 59)))
    have hb12 := below_alloc (.cells #[.int .i64 m, .int .i64 d, .slice A1 T0.length c1] 59) (below_step hb1 hb2)
    clear ho2 hp
    go_wp2_with fail
    refine (HT.out _ _ _ HP.out).mono ?_
    rintro e w3 ⟨v, rfl, ho, hb3⟩
    obtain ⟨A2, c2, rfl, -⟩ := ho.len
    have hb := below_step hb12 hb3
    have hv := V3.out.keep hb
    obtain ⟨q0, q1, q2, q3, q4, q5⟩ := hv.tells3
    obtain ⟨f0, f1, f2, f3, f4⟩ := fin_grid (w := w) hv ho (by have := V3.out.lt; have := hb12.size; omega) (by omega) (Nat.le_refl _) (below_step HB.out hb) (.int .i64 m) (.int .i64 d) (.slice A2 T.length c2)
    have F3 := Lib.hid (f3.low (lo' := w.heap.size) (by have := V3.out.lt; have := hb12.size; omega))
    have F4 := Lib.hid f4
    unfold set3 at f0 f1 f2
    clear f3 f4 ho hv hb hb12
    go_wp2
    exact bodyPost_ret (v := .agg #[.int .i64 m, .int .i64 d, .slice A2 T.length c2]) (by simp [results, Try.results66, go_sem, f0, f1, f2]) rfl ⟨_, rfl, F3.out, F4.out⟩
  · obtain ⟨n1, n2⟩ := ne_facts hk
    rw [← gosF_plain m d l k hk]
    obtain ⟨T, hT⟩ : ∃ T0, (Pl.tab m d fun i j => if i = 0 then Ser.co l j else 0) = T0 := ⟨_, rfl⟩
    rw [hT] at HS ⊢
    clear hwb hW v2 hr hs hT HT
    go_enter Try.func66, Try.ntmps66
    go_wp2_with fail
    rw [HW.out]
    refine (HG.out _).mono ?_
    rintro e w1 ⟨rfl, hb1⟩
    go_wp2_with fail
    refine (HS.out _ hb1).mono ?_
    rintro e w2 ⟨v, rfl, ho2, hb2⟩
    obtain ⟨A2, c2, rfl, hp⟩ := ho2.len
    have hb := below_alloc (.cells #[.int .i64 m, .int .i64 d, .slice A2 T.length c2] 59) (below_step hb1 hb2)
    have ho := ho2.keep (below_one w2 (.cells #[.int .i64 m, .int .i64 d, .slice A2 T.length c2] 59))
    have hv := V3.out.keep hb
    obtain ⟨q0, q1, q2, q3, q4, q5⟩ := hv.tells3
    obtain ⟨f0, f1, f2, f3, f4⟩ := fin_grid (w := w) hv ho (by have := V3.out.lt; have := hb1.size; omega) (by omega) (below_one w2 _).size (below_step HB.out hb) (.int .i64 m) (.int .i64 d) (.slice A2 T.length c2)
    have F3 := Lib.hid (f3.low (lo' := w.heap.size) (by have := V3.out.lt; have := hb1.size; omega))
    have F4 := Lib.hid f4
    unfold set3 at f0 f1 f2
    clear f3 f4 ho hv hb ho2 hp
    go_wp2
    exact bodyPost_ret (v := .agg #[.int .i64 m, .int .i64 d, .slice A2 T.length c2]) (by simp [results, Try.results66, go_sem, f0, f1, f2]) rfl ⟨_, rfl, F3.out, F4.out⟩
end Go.Proofs.Ytlpfifdocgljnaa

/- Appending a row that the call has made to a slice of slices of its own. -/
namespace Go.Proofs.Ytlpfifdocgljnaa
open Go.RowKit Go.WideShapes Go.ChangeShapes Go.ChangeAt

theorem made_from {b n c g : Nat} (h : (Value.slice (some ⟨b, 0, none⟩) n c).ownBlock = some g) : b ≤ g := by
  have : g = b := by simpa [Value.ownBlock] using h.symm
  omega
/-- what an append of one row leaves -/
theorem OwnR.pushed {w w' : World} {lo hi : Nat} {v v' u : Value} {rows : List (List Int)} {r : List Int} {vs : List Value} {o : Obj}
    (h1 : w.ownsRow lo 25 1 v rows.length vs)
    (h3 : ∀ (i : Nat) (r : List Int), rows[i]? = some r → ∃ u : Value, vs[i]? = some u ∧ OwnI w lo u r ∧ ∀ g, u.ownBlock = some g → g < hi)
    (h4 : ∀ (i j : Nat) (u u' : Value), i < j → vs[i]? = some u → vs[j]? = some u' → u.ownBlock = none ∨ u.ownBlock ≠ u'.ownBlock)
    (hhi : hi ≤ w.heap.size) (hu : OwnI w lo u r) (hub : ∀ g, u.ownBlock = some g → hi ≤ g)
    (g1 : w'.ownsRow lo 25 1 v' (rows.length + 1) (vs ++ [u])) (g2 : (w.alloc o).grownBy w' v.ownBlock) : OwnR w' lo w'.heap.size v' (rows ++ [r]) := by
  have hsz : w.heap.size + 1 ≤ w'.heap.size := by have := g2.size; simpa using this
  have hvsl : vs.length = rows.length := by have := h1.1; omega
  refine ⟨vs ++ [u], by rw [List.length_append]; exact g1, fun g hg => (World.ownsRow.lt g1 g hg).2, ?_, ?_⟩
  · intro i r' hr
    by_cases hi' : i < rows.length
    · rw [List.getElem?_append_left hi'] at hr
      obtain ⟨u', a1, a2, a3⟩ := h3 i r' hr
      have hk := a2.alloc o
      exact ⟨u', by rw [List.getElem?_append_left (by omega)]; exact a1, hk.other g2 (ne_types (h1.alloc o) hk), fun g hg => by have := a3 g hg; omega⟩
    · rw [List.getElem?_append_right (by omega)] at hr
      have hi2 : i = rows.length := by
        rcases Nat.eq_or_lt_of_le (Nat.le_of_not_lt hi') with e | e
        · exact e.symm
        · rw [show i - rows.length = (i - rows.length - 1) + 1 by omega] at hr; simp at hr
      subst hi2
      rw [Nat.sub_self] at hr
      simp at hr
      subst hr
      have hk := hu.alloc o
      exact ⟨u, by rw [← hvsl, List.getElem?_append_right (Nat.le_refl _), Nat.sub_self]; rfl, hk.other g2 (ne_types (h1.alloc o) hk), fun g hg => by have := (hu.lt g hg).2; omega⟩
  · intro i j x y hij hx hy
    by_cases hj : j < vs.length
    · rw [List.getElem?_append_left hj] at hy
      rw [List.getElem?_append_left (by omega)] at hx
      exact h4 i j x y hij hx hy
    · have hju : j = vs.length := by
        rw [List.getElem?_append_right (by omega)] at hy
        rcases Nat.eq_or_lt_of_le (Nat.le_of_not_lt hj) with e | e
        · exact e.symm
        · rw [show j - vs.length = (j - vs.length - 1) + 1 by omega] at hy; simp at hy
      subst hju
      rw [List.getElem?_append_right (Nat.le_refl _), Nat.sub_self] at hy
      simp at hy
      subst hy
      rw [List.getElem?_append_left hij] at hx
      obtain ⟨r', hr'⟩ : ∃ r', rows[i]? = some r' := ⟨_, List.getElem?_eq_getElem (by omega)⟩
      obtain ⟨u2, a1, _, a3⟩ := h3 i r' hr'
      rw [hx] at a1
      injection a1 with a1
      subst a1
      rcases hc : x.ownBlock with _ | g
      · exact .inl rfl
      · refine .inr fun e => ?_
        have p1 := a3 g hc
        have p2 := hub g e.symm
        omega

theorem wp_pushU {ops : Array Oper} {rest : List Oper} {o : Oper} {a : Act} {Q : Exit → Act → World → Prop} {w : World} (s x : Operand) (t : TypeId)
    (hgd : o.guard = none) (ho : o.op = .call { callee := .builtin .append, args := #[s, x], argTypes := #[t, t] })
    (ht : Try.prog.underlying t = some (.slice 25)) (lo hi : Nat) (v : Value) (rows : List (List Int)) (hs : a.eval s = v) (hown : OwnR w lo hi v rows) (hhi : hi ≤ w.heap.size)
    (u : Value) (r : List Int) (hu : OwnI w lo u r) (hub : ∀ g, u.ownBlock = some g → hi ≤ g) (G : Nat) (hG : w.heap.size = G) (hx : a.eval x = .slice (some ⟨G, 0, none⟩) 1 1) (hlen : rows.length ≤ 1000000000000) (hlo : lo ≤ w.heap.size)
    (h : ∀ v' w', OwnR w' lo w'.heap.size v' (rows ++ [r]) → Below lo w w' → wpList Try.prog ops Q rest (a.put o.dst v') w') :
    wpList Try.prog ops Q (o :: rest) a (w.alloc (.cells #[u] 25)) := by
  subst hG
  obtain ⟨i0, hi0, hz0, hz1, hz2⟩ := info_parts infoRow
  obtain ⟨vs, h1, h2, h3, h4⟩ := hown
  obtain ⟨Au, cu, hue, -⟩ := hu.form
  refine wpList_append_own _ hgd s x t ho lo 25 i0 (.slice none 0 0) 1 24 ht hi0 hz0 hz1 hz2 rfl (by decide) v rows.length vs hs (h1.alloc _)
    ⟨w.heap.size, 0, none⟩ 1 1 [u] hx rfl ?_ ?_ ?_ ?_ ?_ ?_
  · intro j u' hj
    match j, hj with
    | 0, hj => simp at hj; subst hj; simp [Addr.add]
  · intro u' hu'; simp at hu'; subst hu'; rw [hue]; rfl
  · unfold maxLen; omega
  · omega
  · simp; omega
  · intro v' w' g1 g2 _
    exact h v' w' (OwnR.pushed h1 h3 h4 hhi hu hub g1 g2) (((Below.refl lo w).alloc hlo _).grown g2 (by simp; omega) (fun k hk => (World.ownsRow.lt h1 k hk).1))

/-- the same at a step of a region that draws its order: the row's header lies in block g -/
theorem step_pushU {ops : Array Oper} {o : Oper} {a : Act} {K : Act → World → Prop} {Q : Exit → Act → World → Prop} {E : Prop} {w : World} (s x : Operand) (t : TypeId)
    (hgd : o.guard = none) (ho : o.op = .call { callee := .builtin .append, args := #[s, x], argTypes := #[t, t] })
    (ht : Try.prog.underlying t = some (.slice 25)) (lo hi : Nat) (v : Value) (rows : List (List Int)) (hs : a.eval s = v) (hown : OwnR w lo hi v rows) (hhi : hi ≤ w.heap.size)
    (u : Value) (r : List Int) (hu : OwnI w lo u r) (hub : ∀ g, u.ownBlock = some g → hi ≤ g) (g : Nat) (hx : a.eval x = .slice (some ⟨g, 0, none⟩) 1 1) (hy : w.cell? ⟨g, 0, none⟩ = some u) (hlen : rows.length ≤ 1000000000000) (hlo : lo ≤ w.heap.size)
    (h : ∀ v' w', OwnR w' lo w'.heap.size v' (rows ++ [r]) → Below lo w w' → K (a.put o.dst v') w') :
    if Region.wanted o (yielded ops a.tmps) = true then Oper.wp Try.prog o a w K Q else E := by
  have hw : Region.wanted o (yielded ops a.tmps) = true := by simp [Region.wanted, hgd]
  rw [if_pos hw]
  obtain ⟨i0, hi0, hz0, hz1, hz2⟩ := info_parts infoRow
  obtain ⟨vs, h1, h2, h3, h4⟩ := hown
  obtain ⟨Au, cu, hue, -⟩ := hu.form
  refine wp_append_own _ s x t ho lo 25 i0 (.slice none 0 0) 1 24 ht hi0 hz0 hz1 hz2 rfl (by decide) v rows.length vs hs h1
    ⟨g, 0, none⟩ 1 1 [u] hx rfl ?_ ?_ ?_ ?_ hlo ?_
  · intro j u' hj
    match j, hj with
    | 0, hj => simp at hj; subst hj; simp [Addr.add]; exact hy
  · intro u' hu'; simp at hu'; subst hu'; rw [hue]; rfl
  · unfold maxLen; omega
  · omega
  · intro v' w' g1 g2 _
    refine h v' w' ?_ ((Below.refl lo w).grown g2 hlo (fun k hk => (World.ownsRow.lt h1 k hk).1))
    have hsz := g2.size
    have hvsl : vs.length = rows.length := by have := h1.1; omega
    refine ⟨vs ++ [u], by rw [List.length_append]; exact g1, fun g hg => (World.ownsRow.lt g1 g hg).2, ?_, ?_⟩
    · intro i r' hr
      by_cases hi' : i < rows.length
      · rw [List.getElem?_append_left hi'] at hr
        obtain ⟨u', a1, a2, a3⟩ := h3 i r' hr
        exact ⟨u', by rw [List.getElem?_append_left (by omega)]; exact a1, a2.other g2 (ne_types h1 a2), fun g hg => by have := a3 g hg; omega⟩
      · rw [List.getElem?_append_right (by omega)] at hr
        have hi2 : i = rows.length := by
          rcases Nat.eq_or_lt_of_le (Nat.le_of_not_lt hi') with e | e
          · exact e.symm
          · rw [show i - rows.length = (i - rows.length - 1) + 1 by omega] at hr; simp at hr
        subst hi2
        rw [Nat.sub_self] at hr
        simp at hr
        subst hr
        exact ⟨u, by rw [← hvsl, List.getElem?_append_right (Nat.le_refl _), Nat.sub_self]; rfl, hu.other g2 (ne_types h1 hu), fun g hg => by have := (hu.lt g hg).2; omega⟩
    · intro i j x y hij hx hy
      by_cases hj : j < vs.length
      · rw [List.getElem?_append_left hj] at hy
        rw [List.getElem?_append_left (by omega)] at hx
        exact h4 i j x y hij hx hy
      · have hju : j = vs.length := by
          rw [List.getElem?_append_right (by omega)] at hy
          rcases Nat.eq_or_lt_of_le (Nat.le_of_not_lt hj) with e | e
          · exact e.symm
          · rw [show j - vs.length = (j - vs.length - 1) + 1 by omega] at hy; simp at hy
        subst hju
        rw [List.getElem?_append_right (Nat.le_refl _), Nat.sub_self] at hy
        simp at hy
        subst hy
        rw [List.getElem?_append_left hij] at hx
        obtain ⟨r', hr'⟩ : ∃ r', rows[i]? = some r' := ⟨_, List.getElem?_eq_getElem (by omega)⟩
        obtain ⟨u2, a1, _, a3⟩ := h3 i r' hr'
        rw [hx] at a1
        injection a1 with a1
        subst a1
        rcases hc : x.ownBlock with _ | g
        · exact .inl rfl
        · refine .inr fun e => ?_
          have p1 := a3 g hc
          have p2 := hub g e.symm
          omega
end Go.Proofs.Ytlpfifdocgljnaa

/- Contracts of TurnPlane, of the program and of the model. -/
namespace Go.Proofs.Ytlpfifdocgljnaa
open Go.RowKit Go.WideShapes Go.ChangeShapes Go.ChangeAt

set_option maxHeartbeats 1000000 in
set_option maxRecDepth 100000 in
theorem l03Zero_any (m : Int) (d : Nat) (w : World) (hd : d ≤ 1000) :
    Calls Try.prog 61 #[.int .i64 d] w fun e w' => ∃ v, e = .returned v ∧ OwnR w' w.heap.size w'.heap.size v (Pl.tab m d fun _ _ => 0) ∧ Below w.heap.size w w' := by
  have HM2 := Lib.hid (fun (n : Nat) (W : World) (hn : n ≤ 1001) => run_make_row' (P := Try.prog) 25 2 (.int .i64 0) 8 Try.underlying25 info64 rfl .i64 .i64 n (by omega) (by omega) W)
  go_enter Try.func61, Try.ntmps61
  go_wp2
  go_loopw [3, 4] (fun r i wr => ∃ k : Nat, k ≤ d + 1 ∧ i = .int .i64 k ∧ OwnR wr w.heap.size wr.heap.size r ((Pl.tab m d fun _ _ => 0).take k) ∧ Below w.heap.size w wr) (fun _ i _ => d + 1 - (intOf i).toNat)
  case atStart => exact ⟨0, Nat.zero_le _, rfl, by simpa using OwnR.none0 w, below_one _ _⟩
  case round =>
    obtain ⟨k, hk, rfl, hown, hbel⟩ := hrel
    have HB := Lib.hid hbel
    have HO := Lib.hid hown
    have hsz := hbel.size
    clear hbel
    by_cases hlt : k < d + 1
    · obtain ⟨N, hN⟩ : ∃ N, d - k + 1 = N := ⟨_, rfl⟩
      have hmk := fun W => HM2.out N W (by omega)
      have HN := Lib.hid hN
      have hlen : ((Pl.tab m d fun _ _ => 0).take k).length ≤ 1000000000000 := by rw [List.length_take, Pl.tab_length]; omega
      have hrow : Ser.cut m (d - k) (fun _ => 0) = List.replicate N 0 := by rw [Ser.cut_zero, hN]
      have hst : (Pl.tab m d fun _ _ => 0).take (k + 1) = (Pl.tab m d fun _ _ => 0).take k ++ [List.replicate N 0] := by rw [Pl.tab_take_succ m d _ k (by omega), hrow]
      have HST := Lib.hid hst
      have hd1 : (d : Int) - (k : Int) + 1 = (N : Int) := by omega
      have hkd : (k : Int) ≤ (d : Int) := by omega
      have hNm : N ≤ maxLen := by unfold maxLen; omega
      clear hst hrow hN hown
      go_wp2_with (at_builtin; refine wp_pushU _ _ _ (by rfl) (by rfl) Try.underlying22 w.heap.size wr.heap.size _ _ (by rfl) (HO.out.keep (below_one _ _)) (below_one wr _).size (.slice (some ⟨wr.heap.size, 0, none⟩) N N) (List.replicate N 0) ((OwnI.made wr N hNm).more hsz) (fun g hg => made_from hg) (wr.heap.size + 1) (by simp) (by rfl) hlen (Nat.le_trans hsz (below_one wr _).size) ?_; intro v' w1 ho1 hpb)
      have HO1 := Lib.hid ho1
      have HB1 := Lib.hid ((HB.out.trans ((below_one wr (.cells (madeCells #[.int .i64 0] N) 2)).mono hsz)).trans hpb)
      clear ho1 hpb
      go_wp2
      go_roundw
      case rel => exact ⟨k + 1, by omega, by go_num, by rw [HST.out]; exact HO1.out, HB1.out⟩
      case measure => simp only [intOf]; omega
    · obtain rfl : k = d + 1 := by omega
      have ho := HO.out
      rw [Pl.tab_take_all] at ho
      have HF := Lib.hid ho
      clear ho hown
      go_wp2
      go_ret
      exact ⟨_, rfl, HF.out, HB.out⟩
def turP := oneP fun m d t => Pl.tab m d fun i j => Pl.pc t j i
theorem turP_len (m : Int) (t : List (List Int)) : szT (turP m t).2.1 ≤ 1048576 := oneP_len _ m t (fun _ h => szT_ok (h.tab _))
end Go.Proofs.Ytlpfifdocgljnaa

/- Contracts of CoordinatePlane, of the program and of the model. -/
namespace Go.Proofs.Ytlpfifdocgljnaa
open Go.RowKit Go.WideShapes Go.ChangeShapes Go.ChangeAt

/-- the table of a coordinate -/
def corT (m : Int) (d : Nat) (k : Int) : List (List Int) := Pl.tab m d (gosF (Ser.cut m d (Ser.mon 1 1)) k)
/-- the model of CoordinatePlane -/
def corP (m d k : Int) : Int × List (List Int) × Int :=
  if isM m = true then (if inB d 1 10 = true ∧ inB k 0 1 = true then (m, corT m d.toNat k, 0) else (0, [], 2)) else (0, [], 1)
theorem corP_len (m d k : Int) : szT (corP m d k).2.1 ≤ 1048576 := by
  unfold corP
  by_cases hm : isM m = true
  · rw [if_pos hm]
    obtain ⟨m1, m2⟩ := (isM_iff m).1 hm
    by_cases h : inB d 1 10 = true ∧ inB k 0 1 = true
    · rw [if_pos h]
      obtain ⟨d1, d2⟩ := (inB_iff _ _ _).1 h.1
      exact szT_ok (Pl.Ok.of_tab m1 m2 (by omega) (by omega) _)
    · rw [if_neg h]; exact Nat.zero_le _
  · rw [if_neg hm]; exact Nat.zero_le _
theorem var0 (w : World) : ∃ W, w.alloc (.cells #[.int .i64 0, .slice none 0 0] 32) = W ∧ VarC 32 W w.heap.size #[.int .i64 0, .slice none 0 0] ∧ Below w.heap.size w W :=
  ⟨_, rfl, VarC.new _ _ _, below_one _ _⟩
end Go.Proofs.Ytlpfifdocgljnaa

/- Contracts of LazardCocycle, of the program and of the model. -/
namespace Go.Proofs.Ytlpfifdocgljnaa
open Go.RowKit Go.WideShapes Go.ChangeShapes Go.ChangeAt

theorem lazP_len (m n : Int) : szT (lazP m n).2.1 ≤ 1048576 := by
  unfold lazP
  by_cases hm : isM m = true
  · rw [if_pos hm]
    by_cases hn : inB n 2 10 = true
    · rw [if_pos hn]
      obtain ⟨m1, m2⟩ := (isM_iff m).1 hm
      obtain ⟨n1, n2⟩ := (inB_iff _ _ _).1 hn
      exact szT_ok (Pl.Ok.of_tab m1 m2 (show 1 ≤ n.toNat by omega) (by omega) _)
    · rw [if_neg hn]; exact Nat.zero_le _
  · rw [if_neg hm]; exact Nat.zero_le _
set_option maxHeartbeats 8000000 in
set_option maxRecDepth 100000 in
theorem l07Cocycle_any (m : Int) (n : Nat) (w : World) (m1 : 2 ≤ m) (m2 : m ≤ 10000) (n1 : 2 ≤ n) (n2 : n ≤ 10) :
    Calls Try.prog 54 #[.int .i64 m, .int .i64 n] w fun e w' => ∃ v, e = .returned v ∧ OwnR w' w.heap.size w'.heap.size v (lazT m n) ∧ Below w.heap.size w w' := by
  have HZ := Lib.hid (fun W0 => l03Zero_any m n W0 (by omega))
  have hlz := fun W0 => l01Lazard_any (n : Int) W0 (by omega) (by omega)
  rw [show ((n : Int).toNat - 1) = n - 1 by omega] at hlz
  obtain ⟨D, hD⟩ : ∃ D, lz (n : Int) (n - 1) = D := ⟨_, rfl⟩
  have hDp : 0 < D := by rw [← hD]; exact lz_pos _ (by omega) (by omega)
  have hDb := (lz_bd (n := (n : Int)) (by omega) (n - 1) (by omega)).2
  rw [hD] at hlz hDb
  have HLZ := Lib.hid hlz
  have HF := Lib.hid (fun k (h0 : 0 < k) (h : k < n) => by have := layF_mid h0 h; rw [hD] at this; exact this)
  have hD0 : ¬ D = 0 := by omega
  have hD1 : ¬ D = -1 := by omega
  have hm0 : ¬ m = 0 := by omega
  have hm1 : ¬ m = -1 := by omega
  clear hlz hD
  go_enter Try.func54, Try.ntmps54
  go_wp2_with fail
  refine (HZ.out _).mono ?_
  rintro e w1 ⟨v, rfl, ho, hb1⟩
  rw [← lazQ_one m n] at ho
  obtain ⟨g, cv, rfl⟩ := ho.openv (by rw [Pl.tab_length]; omega)
  rw [Pl.tab_length] at ho ⊢
  go_wp2_with fail
  refine (HLZ.out _).mono ?_
  rintro e w2 ⟨rfl, hb2⟩
  have HO1 := Lib.hid ((ho.keep hb2).more hb2.size)
  have HB1 := Lib.hid (below_step hb1 hb2)
  clear ho hb1 hb2
  go_wp2
  go_loopw [7] (fun i wr => ∃ q : Nat, 1 ≤ q ∧ q ≤ n ∧ i = .int .i64 q ∧ OwnR wr w.heap.size wr.heap.size (.slice (some ⟨g, 0, none⟩) (n + 1) cv) (Pl.tab m n (lazQ n q)) ∧ Below w.heap.size w wr) (fun i _ => n + 2 - (intOf i).toNat)
  case atStart => exact ⟨1, Nat.le_refl _, by omega, rfl, HO1.out, HB1.out⟩
  case round =>
    clear HO1 HB1
    obtain ⟨q, hq1, hq, rfl, hown, hbel⟩ := hrel
    have HO := Lib.hid hown
    have HB := Lib.hid hbel
    clear hown hbel
    by_cases hlt : q < n
    · have hst := lazQ_step (m := m) (n := n) (k := q) hlt
      have hf := HF.out q (by omega) hlt
      rw [hf] at hst
      obtain ⟨q1, q2⟩ := binI_bd (n := (n : Int)) (k := (q : Int)) (by omega)
      have HC := Lib.hid (fun W0 => l01Binomial_any (n : Int) (q : Int) W0 (by omega) (by omega) (by omega) (by omega))
      obtain ⟨X, hX⟩ : ∃ X, binI (n : Int) (q : Int) = X := ⟨_, rfl⟩
      rw [hX] at HC q1 q2 hst
      have hq : 0 ≤ X.tdiv D ∧ X.tdiv D ≤ X := by
        rw [Int.tdiv_eq_ediv_of_nonneg q1]
        exact ⟨Int.ediv_nonneg q1 (by omega), Int.ediv_le_self _ q1⟩
      obtain ⟨Y, hY⟩ : ∃ Y, X.tdiv D = Y := ⟨_, rfl⟩
      rw [hY] at hq hst
      obtain ⟨Z, hZ⟩ : ∃ Z, Y % m = Z := ⟨_, rfl⟩
      have hZ2 : Y.tmod m = Z := by rw [Int.tmod_eq_emod_of_nonneg hq.1]; exact hZ
      rw [hZ] at hst
      obtain ⟨r, hr⟩ : ∃ r, n - q = r := ⟨_, rfl⟩
      have hr2 : (n : Int) - (q : Int) = (r : Int) := by omega
      obtain ⟨b2, c2, g1, g2, g3, g4, hcel⟩ := HO.out.numB q r (n - q + 1) (by rw [Pl.tab_length]; omega) (by rw [Pl.tab_row m n _ q (by omega), Ser.cut_length]) (by omega)
      rw [hr] at hst hcel
      obtain ⟨M, hM⟩ : ∃ M, r + 1 = M := ⟨_, rfl⟩
      obtain ⟨c4, -, -, -⟩ := hcel wr (Below.refl _ _)
      rw [hM] at c4
      have i0 : (0 : Int) ≤ (q : Int) := by omega
      have i1 : (q : Int) < (n : Int) := by omega
      have i2 : (q : Int) < (n : Int) + 1 := by omega
      have i3 : (r : Int) < (M : Int) := by omega
      have i4 : (0 : Int) ≤ (r : Int) := by omega
      have HCEL := Lib.hid hcel
      have HST := Lib.hid hst
      clear hst hcel hf hX hZ hr hM g1 g3 g4
      go_wp2_with fail
      refine (HC.out _).mono ?_
      rintro e w3 ⟨rfl, hb3⟩
      obtain ⟨c5, c6, c7, c8⟩ := HCEL.out w3 (hb3.mono (Nat.le_refl _))
      have h8 := c8 Z
      rw [HST.out] at h8
      have HO3 := Lib.hid (h8.more (show wr.heap.size ≤ (w3.setCell ⟨b2, r, none⟩ (.int .i64 Z)).heap.size by have := hb3.size; simp [World.setCell]; omega))
      have HB3 := Lib.hid ((below_step HB.out hb3).setCell (p := ⟨b2, r, none⟩) (by show w.heap.size ≤ b2; omega) (.int .i64 Z))
      clear h8 c8 c5 hb3
      go_wp2
      go_roundw
      case rel => exact ⟨q + 1, by omega, hlt, by go_num, HO3.out, HB3.out⟩
      case measure => simp only [intOf]; omega
    · obtain rfl : q = n := by omega
      have i1 : ¬ ((q : Int) < (q : Int)) := by omega
      have HSE := Lib.hid (lazQ_end m q)
      go_wp2
      go_ret
      exact ⟨_, rfl, by unfold lazT; rw [← HSE.out]; exact HO.out, HB.out⟩
set_option maxHeartbeats 4000000 in
set_option maxRecDepth 100000 in
theorem LazardCocycle_any (m n : Int) (w : World) :
    Calls Try.prog 23 #[.int .i64 m, .int .i64 n] w fun e w' => ∃ s, e = .returned (.tuple #[.agg #[.int .i64 (lazP m n).1, s], .int .i64 (lazP m n).2.2]) ∧ OwnR w' w.heap.size w'.heap.size s (lazP m n).2.1 ∧ Below w.heap.size w w' := by
  obtain ⟨W, hW, v3, hwb⟩ := var0 w
  have V3 := Lib.hid v3
  have HB := Lib.hid hwb
  have HW := Lib.hid hW
  have HM := Lib.hid (fun W0 => IsModulus_any m W0)
  have HI := Lib.hid (fun W0 => isWithin_any n 2 10 W0)
  clear v3 hwb hW
  by_cases hm : isM m = true
  · obtain ⟨m1, m2⟩ := (isM_iff m).1 hm
    rw [hm] at HM
    by_cases hn : inB n 2 10 = true
    · rw [hn] at HI
      obtain ⟨n1, n2⟩ := (inB_iff _ _ _).1 hn
      obtain ⟨e, he⟩ : ∃ e : Nat, (e : Int) = n := ⟨n.toNat, by omega⟩
      subst he
      have HA : Hid (lazP m (e : Int) = (m, lazT m e, 0)) := Lib.hid (by unfold lazP; rw [if_pos hm, if_pos hn, show (e : Int).toNat = e by omega])
      rw [HA.out]
      have HL := Lib.hid (fun W0 => lazardLayer_any e W0 (by omega) (by omega))
      have HT := Lib.hid (fun W0 A c (hr : RI W0 A (layL e)) => by
        have := withLayer_any m e A c (layL e) W0 m1 m2 (by omega) (layL_length e) hr (fun i => by
          by_cases hi : i ≤ e
          · rw [layL_co hi]; have := layF_bd (n := e) (i := i) (by omega); omega
          · unfold Ser.co; rw [List.getElem?_eq_none (by rw [layL_length]; omega)]; decide)
        rw [layL_length, show Pl.tab m e (ofLay e (Ser.co (layL e))) = lazT m e from Pl.tab_congr (Pl.Eq.of m e (fun i j hij => by unfold ofLay; rw [layL_co (show i ≤ e by omega)]))] at this
        exact this)
      have hLl := layL_length e
      have hTl : (lazT m e).length = e + 1 := Pl.tab_length _ _ _
      obtain ⟨L, hL⟩ : ∃ L, layL e = L := ⟨_, rfl⟩
      obtain ⟨T, hT⟩ : ∃ T, lazT m e = T := ⟨_, rfl⟩
      rw [hL] at HL HT hLl
      rw [hT] at HT hTl ⊢
      have HLL := Lib.hid hLl
      have HTL := Lib.hid hTl
      clear hm hn hL hT HA hLl hTl
      go_enter Try.func23, Try.ntmps23
      go_wp2_with fail
      rw [HW.out]
      refine (HM.out _).mono ?_
      rintro e w' ⟨rfl, rfl⟩
      go_wp2_with fail
      refine (HI.out _).mono ?_
      rintro e w' ⟨rfl, rfl⟩
      go_wp2_with fail
      refine (HL.out _).mono ?_
      rintro e1 w1 ⟨v, rfl, ho1, hb1⟩
      obtain ⟨A1, c1, rfl, -⟩ := ho1.form
      rw [HLL.out]
      go_wp2_with fail
      refine (HT.out _ _ _ ho1.ri).mono ?_
      rintro e2 w2 ⟨v, rfl, ho2, hb2⟩
      obtain ⟨A2, c2, rfl, -⟩ := ho2.len
      rw [HTL.out] at ho2 ⊢
      go_wp2_with fail
      refine (plane_any _ _ _ _ _ _).mono ?_
      rintro e w4 ⟨rfl, hb4⟩
      have hb := below_step (below_step hb1 hb2) hb4
      have hv := V3.out.keep hb
      obtain ⟨q0, q1, q2, q3⟩ := hv.tells2
      obtain ⟨f0, f1, f2, f3⟩ := fin_plane (w := w) hv (ho2.keep hb4) (.inl (by have := V3.out.lt; have := hb1.size; omega)) (by omega) hb4.size (below_step HB.out hb) (.int .i64 m) (.slice A2 (e + 1) c2)
      have F2 := Lib.hid (f2.low (show w.heap.size ≤ w1.heap.size by have := V3.out.lt; have := hb1.size; omega))
      have F3 := Lib.hid f3
      clear f2 f3 hv hb ho1 ho2 hb1 hb2 hb4
      go_wp2
      exact bodyPost_ret (v := .tuple #[.agg #[.int .i64 m, .slice A2 (e + 1) c2], .int .i64 0]) (by simp [results, Try.results23, go_sem, f0, f1]) rfl ⟨_, rfl, F2.out, F3.out⟩
    · have hn' : inB n 2 10 = false := by simpa using hn
      rw [hn'] at HI
      have HA : Hid (lazP m n = (0, [], 2)) := Lib.hid (by unfold lazP; rw [if_pos hm, if_neg hn])
      rw [HA.out]
      clear hm hn hn'
      go_enter Try.func23, Try.ntmps23
      go_wp2_with fail
      rw [HW.out]
      refine (HM.out _).mono ?_
      rintro e w' ⟨rfl, rfl⟩
      go_wp2_with fail
      refine (HI.out _).mono ?_
      rintro e w' ⟨rfl, rfl⟩
      have hv := V3.out.keep (Below.refl _ _)
      obtain ⟨q0, q1, q2, q3⟩ := hv.tells2
      obtain ⟨f0, f1, f2, f3⟩ := fin_plane (w := w) hv (OwnR.nil _ w.heap.size 0) (.inr (Nat.zero_le _)) (by omega) (Nat.zero_le _) (below_step HB.out (Below.refl _ _)) (.int .i64 0) (.slice none 0 0)
      have F2 := Lib.hid f2
      have F3 := Lib.hid f3
      clear f2 f3 hv
      go_wp2
      exact bodyPost_ret (v := .tuple #[.agg #[.int .i64 0, .slice none 0 0], .int .i64 (2)]) (by simp [results, Try.results23, go_sem, f0, f1]) rfl ⟨_, rfl, F2.out, F3.out⟩
  · have hm' : isM m = false := by simpa using hm
    rw [hm'] at HM
    have HA : Hid (lazP m n = (0, [], 1)) := Lib.hid (by unfold lazP; rw [if_neg hm])
    rw [HA.out]
    clear hm hm'
    go_enter Try.func23, Try.ntmps23
    go_wp2_with fail
    rw [HW.out]
    refine (HM.out _).mono ?_
    rintro e w' ⟨rfl, rfl⟩
    have hv := V3.out.keep (Below.refl _ _)
    obtain ⟨q0, q1, q2, q3⟩ := hv.tells2
    obtain ⟨f0, f1, f2, f3⟩ := fin_plane (w := w) hv (OwnR.nil _ w.heap.size 0) (.inr (Nat.zero_le _)) (by omega) (Nat.zero_le _) (below_step HB.out (Below.refl _ _)) (.int .i64 0) (.slice none 0 0)
    have F2 := Lib.hid f2
    have F3 := Lib.hid f3
    clear f2 f3 hv
    go_wp2
    exact bodyPost_ret (v := .tuple #[.agg #[.int .i64 0, .slice none 0 0], .int .i64 (1)]) (by simp [results, Try.results23, go_sem, f0, f1]) rfl ⟨_, rfl, F2.out, F3.out⟩
set_option maxHeartbeats 4000000 in
set_option maxRecDepth 100000 in
theorem sLazardCocycle_any (m n : Int) (w : World) :
    Calls Try.prog 22 #[.int .i64 m, .int .i64 n] w fun e w' => ∃ s, e = .returned (.tuple #[.agg #[.int .i64 (lazP m n).1, s], .int .i64 (lazP m n).2.2]) ∧ OwnR w' w.heap.size w'.heap.size s (lazP m n).2.1 ∧ Below w.heap.size w w' := by
  obtain ⟨W, hW, v3, hwb⟩ := var0 w
  have V3 := Lib.hid v3
  have HB := Lib.hid hwb
  have HW := Lib.hid hW
  have HM := Lib.hid (fun W0 => l01Modulus_any m W0)
  have HI := Lib.hid (fun W0 => l01In_any n 2 10 W0)
  clear v3 hwb hW
  by_cases hm : isM m = true
  · obtain ⟨m1, m2⟩ := (isM_iff m).1 hm
    rw [hm] at HM
    by_cases hn : inB n 2 10 = true
    · rw [hn] at HI
      obtain ⟨n1, n2⟩ := (inB_iff _ _ _).1 hn
      obtain ⟨e, he⟩ : ∃ e : Nat, (e : Int) = n := ⟨n.toNat, by omega⟩
      subst he
      have HA : Hid (lazP m (e : Int) = (m, lazT m e, 0)) := Lib.hid (by unfold lazP; rw [if_pos hm, if_pos hn, show (e : Int).toNat = e by omega])
      rw [HA.out]
      have HL := Lib.hid (fun W0 => l07Cocycle_any m e W0 m1 m2 (by omega) (by omega))
      have hTl : (lazT m e).length = e + 1 := Pl.tab_length _ _ _
      obtain ⟨T, hT⟩ : ∃ T, lazT m e = T := ⟨_, rfl⟩
      rw [hT] at HL hTl ⊢
      have HTL := Lib.hid hTl
      clear hm hn hT HA hTl
      go_enter Try.func22, Try.ntmps22
      go_wp2_with fail
      rw [HW.out]
      refine (HM.out _).mono ?_
      rintro e w' ⟨rfl, rfl⟩
      go_wp2_with fail
      refine (HI.out _).mono ?_
      rintro e w' ⟨rfl, rfl⟩
      go_wp2_with fail
      refine (HL.out _).mono ?_
      rintro e1 w1 ⟨v, rfl, ho1, hb1⟩
      obtain ⟨A2, c2, rfl, -⟩ := ho1.len
      rw [HTL.out] at ho1 ⊢
      go_wp2_with fail
      refine (l03Make_any _ _ _ _ _).mono ?_
      rintro e w4 ⟨rfl, hb4⟩
      have hb := below_step hb1 hb4
      have hv := V3.out.keep hb
      obtain ⟨q0, q1, q2, q3⟩ := hv.tells2
      obtain ⟨f0, f1, f2, f3⟩ := fin_plane (w := w) hv (ho1.keep hb4) (.inl (by have := V3.out.lt; omega)) (by omega) hb4.size (below_step HB.out hb) (.int .i64 m) (.slice A2 (e + 1) c2)
      have F2 := Lib.hid (f2.low (show w.heap.size ≤ W.heap.size by have := V3.out.lt; omega))
      have F3 := Lib.hid f3
      clear f2 f3 hv hb ho1 hb1 hb4
      go_wp2
      exact bodyPost_ret (v := .tuple #[.agg #[.int .i64 m, .slice A2 (e + 1) c2], .int .i64 0]) (by simp [results, Try.results22, go_sem, f0, f1]) rfl ⟨_, rfl, F2.out, F3.out⟩
    · have hn' : inB n 2 10 = false := by simpa using hn
      rw [hn'] at HI
      have HA : Hid (lazP m n = (0, [], 2)) := Lib.hid (by unfold lazP; rw [if_pos hm, if_neg hn])
      rw [HA.out]
      clear hm hn hn'
      go_enter Try.func22, Try.ntmps22
      go_wp2_with fail
      rw [HW.out]
      refine (HM.out _).mono ?_
      rintro e w' ⟨rfl, rfl⟩
      go_wp2_with fail
      refine (HI.out _).mono ?_
      rintro e w' ⟨rfl, rfl⟩
      have hv := V3.out.keep (Below.refl _ _)
      obtain ⟨q0, q1, q2, q3⟩ := hv.tells2
      obtain ⟨f0, f1, f2, f3⟩ := fin_plane (w := w) hv (OwnR.nil _ w.heap.size 0) (.inr (Nat.zero_le _)) (by omega) (Nat.zero_le _) (below_step HB.out (Below.refl _ _)) (.int .i64 0) (.slice none 0 0)
      have F2 := Lib.hid f2
      have F3 := Lib.hid f3
      clear f2 f3 hv
      go_wp2
      exact bodyPost_ret (v := .tuple #[.agg #[.int .i64 0, .slice none 0 0], .int .i64 (2)]) (by simp [results, Try.results22, go_sem, f0, f1]) rfl ⟨_, rfl, F2.out, F3.out⟩
  · have hm' : isM m = false := by simpa using hm
    rw [hm'] at HM
    have HA : Hid (lazP m n = (0, [], 1)) := Lib.hid (by unfold lazP; rw [if_neg hm])
    rw [HA.out]
    clear hm hm'
    go_enter Try.func22, Try.ntmps22
    go_wp2_with fail
    rw [HW.out]
    refine (HM.out _).mono ?_
    rintro e w' ⟨rfl, rfl⟩
    have hv := V3.out.keep (Below.refl _ _)
    obtain ⟨q0, q1, q2, q3⟩ := hv.tells2
    obtain ⟨f0, f1, f2, f3⟩ := fin_plane (w := w) hv (OwnR.nil _ w.heap.size 0) (.inr (Nat.zero_le _)) (by omega) (Nat.zero_le _) (below_step HB.out (Below.refl _ _)) (.int .i64 0) (.slice none 0 0)
    have F2 := Lib.hid f2
    have F3 := Lib.hid f3
    clear f2 f3 hv
    go_wp2
    exact bodyPost_ret (v := .tuple #[.agg #[.int .i64 0, .slice none 0 0], .int .i64 (1)]) (by simp [results, Try.results22, go_sem, f0, f1]) rfl ⟨_, rfl, F2.out, F3.out⟩
end Go.Proofs.Ytlpfifdocgljnaa

/- Plain facts on the product of tables, number by number: no program in sight. -/
namespace Go.Proofs.Ytlpfifdocgljnaa
namespace Pl

/-- the coefficient of the product at x^p y^q -/
def mul2 (a b : Nat → Nat → Int) (p q : Nat) : Int := Ser.psum (fun k => Ser.psum (fun l => a k l * b (p - k) (q - l)) (q + 1)) (p + 1)
def tr2 (a b : Nat → Nat → Int) (p q i j : Nat) : Int := if i ≤ p ∧ j ≤ q then a i j * b (p - i) (q - j) else 0
def rowS (a b : Nat → Nat → Int) (p q i J : Nat) : Int := Ser.psum (fun j => tr2 a b p q i j) J
/-- all rows below i, and row i below J -/
def S2 (d : Nat) (a b : Nat → Nat → Int) (i J p q : Nat) : Int := Ser.psum (fun i' => rowS a b p q i' (d + 1 - i')) i + rowS a b p q i J
/-- and of the term i, j the rows below k, and row k below l -/
def T2 (d : Nat) (a b : Nat → Nat → Int) (i j k l p q : Nat) : Int := S2 d a b i j p q + if i ≤ p ∧ j ≤ q ∧ (p - i < k ∨ (p - i = k ∧ q - j < l)) then a i j * b (p - i) (q - j) else 0
theorem psum_cut (f : Nat → Int) (m : Nat) : ∀ n, m ≤ n → (∀ i, m ≤ i → i < n → f i = 0) → Ser.psum f n = Ser.psum f m := by
  intro n
  induction n with
  | zero => intro h _; rw [show m = 0 by omega]
  | succ n ih =>
    intro h hz
    by_cases hm : m = n + 1
    · rw [hm]
    · rw [Ser.psum, ih (by omega) (fun i h1 h2 => hz i h1 (by omega)), hz n (by omega) (by omega), Int.add_zero]
theorem S2_zero (d : Nat) (a b : Nat → Nat → Int) (p q : Nat) : S2 d a b 0 0 p q = 0 := by simp [S2, rowS, Ser.psum]
theorem T2_zero (d : Nat) (a b : Nat → Nat → Int) (i j p q : Nat) : T2 d a b i j 0 0 p q = S2 d a b i j p q := by
  unfold T2
  rw [if_neg (by omega), Int.add_zero]
theorem T2_tab_zero (m : Int) (d : Nat) (a b : Nat → Nat → Int) (i j : Nat) : tab m d (T2 d a b i j 0 0) = tab m d (S2 d a b i j) := tab_congr (Eq.of m d (fun p q _ => T2_zero d a b i j p q))
theorem S2_tab_zero (m : Int) (d : Nat) (a b : Nat → Nat → Int) : tab m d (S2 d a b 0 0) = tab m d fun _ _ => 0 := tab_congr (Eq.of m d (fun p q _ => S2_zero d a b p q))
theorem T2_step (m : Int) (d : Nat) (a b : Nat → Nat → Int) (i j k l : Nat) (h : i + j + k + l ≤ d) :
    (tab m d (T2 d a b i j k l)).set (i + k) ((rw' (tab m d (T2 d a b i j k l)) (i + k)).set (j + l) ((pc (tab m d (T2 d a b i j k l)) (i + k) (j + l) + a i j * b k l) % m)) = tab m d (T2 d a b i j k (l + 1)) := by
  refine tab_put (by omega) ?_ (fun p q hpq hne => ?_)
  · rw [pc_tab (by omega)]
    unfold T2
    rw [if_pos (show i ≤ i + k ∧ j ≤ j + l ∧ (i + k - i < k ∨ (i + k - i = k ∧ j + l - j < l + 1)) by omega), if_neg (show ¬ (i ≤ i + k ∧ j ≤ j + l ∧ (i + k - i < k ∨ (i + k - i = k ∧ j + l - j < l))) by omega),
      show i + k - i = k by omega, show j + l - j = l by omega, Int.add_zero, Int.emod_add_emod]
  · unfold T2
    by_cases h1 : i ≤ p ∧ j ≤ q ∧ (p - i < k ∨ (p - i = k ∧ q - j < l))
    · rw [if_pos h1, if_pos (by omega)]
    · rw [if_neg h1, if_neg (by omega)]
theorem T2_rowend (m : Int) (d : Nat) (a b : Nat → Nat → Int) (i j k l : Nat) (h : d < i + j + k + l) : tab m d (T2 d a b i j k l) = tab m d (T2 d a b i j (k + 1) 0) :=
  tab_congr (Eq.of m d (fun p q hpq => by
    unfold T2
    by_cases h1 : i ≤ p ∧ j ≤ q ∧ (p - i < k ∨ (p - i = k ∧ q - j < l))
    · rw [if_pos h1, if_pos (by omega)]
    · rw [if_neg h1, if_neg (by omega)]))
theorem S2_succ (d : Nat) (a b : Nat → Nat → Int) (i j p q : Nat) : S2 d a b i (j + 1) p q = S2 d a b i j p q + tr2 a b p q i j := by
  unfold S2 rowS
  rw [Ser.psum]; omega
theorem T2_end (m : Int) (d : Nat) (a b : Nat → Nat → Int) (i j k : Nat) (h : d < i + j + k) : tab m d (T2 d a b i j k 0) = tab m d (S2 d a b i (j + 1)) :=
  tab_congr (Eq.of m d (fun p q hpq => by
    rw [S2_succ]
    unfold T2 tr2
    by_cases h1 : i ≤ p ∧ j ≤ q
    · rw [if_pos (by omega), if_pos h1]
    · rw [if_neg (by omega), if_neg h1]))
theorem S2_skip (m : Int) (d : Nat) (a b : Nat → Nat → Int) (i j : Nat) (h : a i j = 0) : tab m d (S2 d a b i j) = tab m d (S2 d a b i (j + 1)) :=
  tab_congr (Eq.of m d (fun p q hpq => by
    rw [S2_succ]
    unfold tr2
    rw [h]; simp))
theorem S2_next (m : Int) (d : Nat) (a b : Nat → Nat → Int) (i j : Nat) (h : i + j = d + 1) : tab m d (S2 d a b i j) = tab m d (S2 d a b (i + 1) 0) :=
  tab_congr (Eq.of m d (fun p q hpq => by
    unfold S2
    rw [Ser.psum, show d + 1 - i = j by omega]
    simp [rowS, Ser.psum]))
theorem S2_last (m : Int) (d : Nat) (a b : Nat → Nat → Int) : tab m d (S2 d a b (d + 1) 0) = tab m d (mul2 a b) :=
  tab_congr (Eq.of m d (fun p q hpq => by
    have h0 : rowS a b p q (d + 1) 0 = 0 := rfl
    unfold S2 mul2
    rw [h0, Int.add_zero, psum_cut _ (p + 1) (d + 1) (by omega) (fun i h1 h2 => by
      unfold rowS
      rw [psum_cut _ 0 _ (Nat.zero_le _) (fun j _ _ => by unfold tr2; rw [if_neg (by omega)])]; rfl)]
    refine Ser.psum_ext _ (fun i hi => ?_)
    unfold rowS
    rw [psum_cut _ (q + 1) (d + 1 - i) (by omega) (fun j h1 h2 => by unfold tr2; rw [if_neg (by omega)])]
    exact Ser.psum_ext _ (fun j hj => by unfold tr2; rw [if_pos (by omega)])))
/-- bounds -/
theorem psum_bd2 (f : Nat → Int) (B : Int) (hf : ∀ i, 0 ≤ f i ∧ f i ≤ B) : ∀ n : Nat, 0 ≤ Ser.psum f n ∧ Ser.psum f n ≤ n * B := by
  intro n
  induction n with
  | zero => simp [Ser.psum]
  | succ n ih =>
    have := hf n
    have e : ((n + 1 : Nat) : Int) * B = n * B + B := by rw [show ((n + 1 : Nat) : Int) = (n : Int) + 1 by omega, Int.add_mul, Int.one_mul]
    rw [Ser.psum, e]
    omega
theorem prod_bd {x y : Int} (h1 : 0 ≤ x) (h2 : x ≤ 10000) (h3 : 0 ≤ y) (h4 : y ≤ 10000) : 0 ≤ x * y ∧ x * y ≤ 100000000 := by
  refine ⟨Int.mul_nonneg h1 h3, ?_⟩
  have a := Int.mul_le_mul_of_nonneg_left (c := x) h4 h1
  omega
end Pl
end Go.Proofs.Ytlpfifdocgljnaa

/- Plain theory of substituting series into tables: no program in sight. -/
namespace Go.Proofs.Ytlpfifdocgljnaa
namespace Ser

theorem psum_zero : ∀ n, psum (fun _ => (0 : Int)) n = 0 := by
  intro n
  induction n with
  | zero => rfl
  | succ n ih => rw [psum, ih]; rfl
theorem psum_add (f g : Nat → Int) : ∀ n, psum (fun i => f i + g i) n = psum f n + psum g n := by
  intro n
  induction n with
  | zero => rfl
  | succ n ih => rw [psum, psum, psum, ih]; omega
theorem psum_mul (c : Int) (f : Nat → Int) : ∀ n, psum (fun i => c * f i) n = c * psum f n := by
  intro n
  induction n with
  | zero => simp [psum]
  | succ n ih => rw [psum, psum, ih, Int.mul_add]
theorem psum_mul' (c : Int) (f : Nat → Int) (n : Nat) : psum (fun i => f i * c) n = psum f n * c := by
  rw [Int.mul_comm _ c, ← psum_mul]
  exact psum_ext _ (fun i _ => Int.mul_comm _ _)
theorem psum_swap (f : Nat → Nat → Int) (n : Nat) : ∀ k, psum (fun i => psum (f i) n) k = psum (fun j => psum (fun i => f i j) k) n := by
  intro k
  induction k with
  | zero =>
    have : (fun j : Nat => psum (fun i => f i j) 0) = fun _ => 0 := rfl
    rw [this, psum_zero]; rfl
  | succ k ih =>
    rw [psum, ih]
    have : (fun j => psum (fun i => f i j) (k + 1)) = fun j => psum (fun i => f i j) k + f k j := rfl
    rw [this, psum_add]
theorem psum_congr {m : Int} {f g : Nat → Int} : ∀ n, (∀ i, i < n → f i % m = g i % m) → psum f n % m = psum g n % m := by
  intro n
  induction n with
  | zero => intro _; rfl
  | succ n ih => intro h; rw [psum, psum]; exact add_cong (ih (fun i hi => h i (by omega))) (h n (by omega))
theorem psum_low (f : Nat → Int) (k : Nat) (h : ∀ i, i < k → f i = 0) : psum f k = 0 := by
  rw [psum_ext (g := fun _ => 0) k h, psum_zero]
theorem psum_mon (a : Nat → Int) (j : Nat) : ∀ N, psum (fun i => a i * mon i 1 j) N = if j < N then a j else 0 := by
  intro N
  induction N with
  | zero => simp [psum]
  | succ N ih =>
    rw [psum, ih]
    unfold mon
    by_cases h : j < N
    · rw [if_pos h, if_neg (by omega), if_pos (by omega)]; omega
    · by_cases h2 : j = N
      · rw [if_neg h, if_pos h2, if_pos (by omega), h2]; omega
      · rw [if_neg h, if_neg h2, if_neg (by omega)]; omega
theorem comp_psum {f : Nat → Int} (hf : f 0 = 0) (a : Nat → Int) (n : Nat) : ∀ N, comp (fun j => psum (fun i => a i * mon i 1 j) N) f n = psum (fun i => a i * pw f i n) N := by
  intro N
  induction N with
  | zero =>
    have e : (fun j => psum (fun i => a i * mon i 1 j) 0) = fun _ => 0 := rfl
    rw [e]
    have := comp_smul hf 0 n (fun _ => 0)
    simpa [psum] using this
  | succ N ih =>
    have e : (fun j => psum (fun i => a i * mon i 1 j) (N + 1)) = fun j => psum (fun i => a i * mon i 1 j) N + a N * mon N 1 j := rfl
    rw [e, comp_add hf, ih, comp_smul hf, comp_mon hf, psum]
/-- a composition is a sum of powers -/
theorem comp_pw {f : Nat → Int} (hf : f 0 = 0) (a : Nat → Int) {n N : Nat} (h : n < N) : comp a f n = psum (fun i => a i * pw f i n) N := by
  rw [← comp_psum hf a n N]
  exact comp_ext hf n (fun i hi => by rw [psum_mon, if_pos (by omega)])
theorem pw_congr {m : Int} {n : Nat} {f g : Nat → Int} (h : Eq m n f g) : ∀ k, Eq m n (pw f k) (pw g k) := by
  intro k
  induction k with
  | zero => exact Eq.refl _ _ _
  | succ k ih => exact Eq.mul ih h
/-- the powers of a list -/
def pwL (m : Int) (d : Nat) (a : List Int) : Nat → List Int
  | 0 => one m d
  | k + 1 => mulL m d (pwL m d a k) a
theorem pwL_length (m : Int) (d : Nat) (a : List Int) (k : Nat) : (pwL m d a k).length = d + 1 := by cases k <;> exact cut_length _ _ _
theorem pwL_cut (m : Int) (d : Nat) (a : List Int) : ∀ k, pwL m d a k = cut m d (pw (co a) k) := by
  intro k
  induction k with
  | zero => rfl
  | succ k ih =>
    show cut m d (mul (co (pwL m d a k)) (co a)) = _
    refine cut_congr ?_
    rw [ih]
    exact Eq.mul (co_cut_eq _ _ _) (Eq.refl _ _ _)
theorem cmpL_cut {m : Int} (hm : 0 < m) {d : Nat} {a f : List Int} (hf : co f 0 = 0) (ha : Red m a) : cmpL m d a f = cut m d (comp (co a) (co f)) := by
  refine red_unique (d := d) (cmpL_length _ _ _ _) (cut_length _ _ _) (cmpL_red hm d ha f) (cut_red hm d _) ?_
  exact (cmpL_eq hf).trans (co_cut_eq _ _ _).symm
end Ser

namespace Pl
open Ser (psum cv pw)
/-- the coefficients of F(a(x), b(y)), and of F(a(t), b(t)) -/
def subB (F : Nat → Nat → Int) (a b : Nat → Int) (N p q : Nat) : Int := psum (fun i => psum (fun j => F i j * (pw a i p * pw b j q)) N) N
def putF (F : Nat → Nat → Int) (a b : Nat → Int) (N n : Nat) : Int := psum (fun i => psum (fun j => F i j * cv n (pw a i) (pw b j)) N) N
/-- the program's four steps -/
theorem steps {m : Int} {d : Nat} {F : Nat → Nat → Int} {a b : Nat → Int} (ha : a 0 = 0) (hb : b 0 = 0) :
    tab m d (fun p q => Ser.comp (pc (tab m d fun q' i => Ser.comp (F i) b q') q) a p) = tab m d (subB F a b (d + 1)) := by
  refine tab_congr (fun p q h => ?_)
  rw [Ser.comp_congr ha ha p _ (fun i => Ser.comp (F i) b q) (fun i hi => by rw [pc_tab (by omega), Int.emod_emod]) (Ser.Eq.refl _ _ _)]
  rw [Ser.comp_pw ha _ (N := d + 1) (by omega)]
  congr 1
  unfold subB
  refine Ser.psum_ext _ (fun i _ => ?_)
  rw [Ser.comp_pw hb _ (N := d + 1) (by omega), ← Ser.psum_mul']
  refine Ser.psum_ext _ (fun j _ => ?_)
  rw [Int.mul_assoc, Int.mul_comm (pw b j q)]
theorem diag_put (F : Nat → Nat → Int) (a b : Nat → Int) (N n : Nat) : psum (fun p => subB F a b N p (n - p)) (n + 1) = putF F a b N n := by
  unfold subB putF
  rw [Ser.psum_swap]
  refine Ser.psum_ext _ (fun i _ => ?_)
  rw [Ser.psum_swap]
  refine Ser.psum_ext _ (fun j _ => ?_)
  rw [Ser.psum_mul, Ser.cv_psum]
def putL (m : Int) (d : Nat) (F : Nat → Nat → Int) (a b : List Int) : List Int := Ser.cut m d (putF F (Ser.co a) (Ser.co b) (d + 1))
theorem putL_length (m : Int) (d : Nat) (F : Nat → Nat → Int) (a b : List Int) : (putL m d F a b).length = d + 1 := Ser.cut_length _ _ _
def botT (m : Int) (d : Nat) (F : Nat → Nat → Int) (a b : List Int) : List (List Int) := tab m d (subB F (Ser.co a) (Ser.co b) (d + 1))
/-- the program's diagonal -/
theorem diag_cut (m : Int) (d : Nat) (F : Nat → Nat → Int) (a b : List Int) : Ser.cut m d (fun n => psum (fun p => pc (botT m d F a b) p (n - p)) (n + 1)) = putL m d F a b := by
  refine Ser.cut_congr (fun n hn => ?_)
  rw [← diag_put]
  refine Ser.psum_congr _ (fun p hp => ?_)
  unfold botT
  rw [pc_tab (by omega), Int.emod_emod]

/-! sums over the terms of a table, row by row -/
def acc (d : Nat) (g : Nat → Nat → Int) (i J : Nat) : Int := psum (fun i' => psum (g i') (d + 1 - i')) i + psum (g i) J
theorem acc_zero (d : Nat) (g : Nat → Nat → Int) : acc d g 0 0 = 0 := rfl
theorem acc_succ (d : Nat) (g : Nat → Nat → Int) (i J : Nat) : acc d g i (J + 1) = acc d g i J + g i J := by unfold acc; rw [psum]; omega
theorem acc_next (d : Nat) (g : Nat → Nat → Int) (i J : Nat) (h : i + J = d + 1) : acc d g i J = acc d g (i + 1) 0 := by
  unfold acc
  show _ = psum (fun i' => psum (g i') (d + 1 - i')) i + psum (g i) (d + 1 - i) + 0
  rw [show d + 1 - i = J by omega]; omega
theorem acc_last (d : Nat) (g : Nat → Nat → Int) (h : ∀ i j, d < i + j → g i j = 0) : acc d g (d + 1) 0 = psum (fun i => psum (g i) (d + 1)) (d + 1) := by
  unfold acc
  rw [psum, Int.add_zero]
  refine Ser.psum_ext _ (fun i hi => ?_)
  exact (psum_cut _ (d + 1 - i) (d + 1) (by omega) (fun j h1 _ => h i j (by omega))).symm
/-- the model's sum for f(a(t), b(t)) -/
def putS (m : Int) (d : Nat) (F : Nat → Nat → Int) (a b : List Int) (i J : Nat) : List Int := Ser.cut m d fun n => acc d (fun i j => F i j * cv n (pw (Ser.co a) i) (pw (Ser.co b) j)) i J
theorem putS_length (m : Int) (d : Nat) (F : Nat → Nat → Int) (a b : List Int) (i J : Nat) : (putS m d F a b i J).length = d + 1 := Ser.cut_length _ _ _
theorem putS_zero (m : Int) (d : Nat) (F : Nat → Nat → Int) (a b : List Int) : putS m d F a b 0 0 = List.replicate (d + 1) 0 := Ser.cut_zero m d
theorem putS_step (m : Int) (d : Nat) (F : Nat → Nat → Int) (a b : List Int) (i J : Nat) :
    Ser.cut m d (fun n => Ser.co (putS m d F a b i J) n + Ser.co (Ser.cut m d fun n => Ser.co (Ser.mulL m d (Ser.pwL m d a i) (Ser.pwL m d b J)) n * F i J) n) = putS m d F a b i (J + 1) := by
  refine Ser.cut_congr (fun n hn => ?_)
  rw [acc_succ]
  unfold putS
  rw [Ser.co_cut hn, Ser.co_cut hn]
  refine Ser.add_cong (Int.emod_emod _ _) ?_
  rw [Int.emod_emod, Int.mul_comm]
  refine Ser.mul_cong rfl ?_
  unfold Ser.mulL
  rw [Ser.co_cut hn, Int.emod_emod, Ser.pwL_cut, Ser.pwL_cut, Ser.mul_at]
  exact Ser.cv_congr n ((Ser.co_cut_eq _ _ _).less hn) ((Ser.co_cut_eq _ _ _).less hn)
theorem putS_skip (m : Int) (d : Nat) (F : Nat → Nat → Int) (a b : List Int) (i J : Nat) (h : F i J = 0) : putS m d F a b i (J + 1) = putS m d F a b i J := by
  refine Ser.cut_congr (fun n hn => ?_)
  rw [acc_succ, h, Int.zero_mul, Int.add_zero]
theorem putS_next (m : Int) (d : Nat) (F : Nat → Nat → Int) (a b : List Int) (i J : Nat) (h : i + J = d + 1) : putS m d F a b i J = putS m d F a b (i + 1) 0 :=
  Ser.cut_congr (fun n hn => by rw [acc_next _ _ _ _ h])
theorem putS_last (m : Int) (d : Nat) (F : Nat → Nat → Int) (a b : List Int) (hF : ∀ i j, d < i + j → F i j = 0) : putS m d F a b (d + 1) 0 = putL m d F a b :=
  Ser.cut_congr (fun n hn => by
    rw [acc_last _ _ (fun i j h => by rw [hF i j h, Int.zero_mul])]; rfl)

/-! the model's table for f(a(x), b(y)) -/
def botG (F : Nat → Nat → Int) (a b : Nat → Int) (p q i j : Nat) : Int := F i j * (pw a i p * pw b j q)
def botS (d : Nat) (F : Nat → Nat → Int) (a b : Nat → Int) (i J p q : Nat) : Int := acc d (botG F a b p q) i J
def botK (d : Nat) (F : Nat → Nat → Int) (a b : Nat → Int) (i J k l p q : Nat) : Int := botS d F a b i J p q + if p < k ∨ (p = k ∧ q < l) then botG F a b p q i J else 0
theorem botG_low1 {F : Nat → Nat → Int} {a b : Nat → Int} (ha : a 0 = 0) {p q i j : Nat} (h : p < i) : botG F a b p q i j = 0 := by
  unfold botG; rw [Ser.pw_low ha i p h]; simp
theorem botG_low2 {F : Nat → Nat → Int} {a b : Nat → Int} (hb : b 0 = 0) {p q i j : Nat} (h : q < j) : botG F a b p q i j = 0 := by
  unfold botG; rw [Ser.pw_low hb j q h]; simp
theorem botS_zero (m : Int) (d : Nat) (F : Nat → Nat → Int) (a b : Nat → Int) : tab m d (botS d F a b 0 0) = tab m d fun _ _ => 0 := rfl
theorem botK_begin (m : Int) (d : Nat) (F : Nat → Nat → Int) {a b : Nat → Int} (ha : a 0 = 0) (hb : b 0 = 0) (i J : Nat) : tab m d (botK d F a b i J i J) = tab m d (botS d F a b i J) :=
  tab_congr (Eq.of m d (fun p q _ => by
    unfold botK
    split
    · rename_i h
      rcases h with h | h
      · rw [botG_low1 ha h, Int.add_zero]
      · rw [botG_low2 hb h.2, Int.add_zero]
    · rw [Int.add_zero]))
theorem botK_row (m : Int) (d : Nat) (F : Nat → Nat → Int) {a b : Nat → Int} (hb : b 0 = 0) (i J k l : Nat) (h : d < k + l) : tab m d (botK d F a b i J k l) = tab m d (botK d F a b i J (k + 1) J) :=
  tab_congr (Eq.of m d (fun p q hpq => by
    unfold botK
    by_cases h1 : p < k ∨ (p = k ∧ q < l)
    · rw [if_pos h1, if_pos (by omega)]
    · rw [if_neg h1]
      split
      · rename_i h2
        rw [botG_low2 hb (by omega)]
      · rfl))
theorem botK_end (m : Int) (d : Nat) (F : Nat → Nat → Int) (a b : Nat → Int) (i J k l : Nat) (h : d < k) : tab m d (botK d F a b i J k l) = tab m d (botS d F a b i (J + 1)) :=
  tab_congr (Eq.of m d (fun p q hpq => by
    unfold botK botS
    rw [if_pos (by omega), acc_succ]))
theorem botK_step (m : Int) (d : Nat) (F : Nat → Nat → Int) (a b : List Int) (i J k l : Nat) (h : k + l ≤ d) :
    (tab m d (botK d F (Ser.co a) (Ser.co b) i J k l)).set k ((rw' (tab m d (botK d F (Ser.co a) (Ser.co b) i J k l)) k).set l ((pc (tab m d (botK d F (Ser.co a) (Ser.co b) i J k l)) k l + (F i J * Ser.co (Ser.pwL m d a i) k) % m * Ser.co (Ser.pwL m d b J) l) % m)) = tab m d (botK d F (Ser.co a) (Ser.co b) i J k (l + 1)) := by
  refine tab_put h ?_ (fun p q hpq hne => ?_)
  · rw [pc_tab h]
    unfold botK
    rw [if_pos (by omega), if_neg (by omega), Int.add_zero]
    refine Ser.add_cong (Int.emod_emod _ _).symm ?_
    rw [Ser.pwL_cut, Ser.pwL_cut, Ser.co_cut (by omega), Ser.co_cut (by omega)]
    unfold botG
    rw [← Int.mul_assoc]
    refine Ser.mul_cong ?_ (Int.emod_emod _ _).symm
    rw [Int.emod_emod]
    exact Ser.mul_cong rfl (Int.emod_emod _ _).symm
  · unfold botK
    by_cases h1 : p < k ∨ (p = k ∧ q < l)
    · rw [if_pos h1, if_pos (by omega)]
    · rw [if_neg h1, if_neg (by omega)]
theorem botS_skip (m : Int) (d : Nat) (F : Nat → Nat → Int) (a b : Nat → Int) (i J : Nat) (h : F i J = 0) : tab m d (botS d F a b i (J + 1)) = tab m d (botS d F a b i J) :=
  tab_congr (Eq.of m d (fun p q hpq => by
    unfold botS
    rw [acc_succ]
    unfold botG
    rw [h, Int.zero_mul, Int.add_zero]))
theorem botS_next (m : Int) (d : Nat) (F : Nat → Nat → Int) (a b : Nat → Int) (i J : Nat) (h : i + J = d + 1) : tab m d (botS d F a b i J) = tab m d (botS d F a b (i + 1) 0) :=
  tab_congr (Eq.of m d (fun p q hpq => by unfold botS; rw [acc_next _ _ _ _ h]))
theorem botS_last (m : Int) (d : Nat) (F : Nat → Nat → Int) (a b : List Int) (hF : ∀ i j, d < i + j → F i j = 0) : tab m d (botS d F (Ser.co a) (Ser.co b) (d + 1) 0) = botT m d F a b :=
  tab_congr (Eq.of m d (fun p q hpq => by
    unfold botS
    rw [acc_last _ _ (fun i j h => by unfold botG; rw [hF i j h, Int.zero_mul])]; rfl))
end Pl
end Go.Proofs.Ytlpfifdocgljnaa

/- Plain theory of laws: powers of a table, Horner's rule for tables, faults, inverses: no program in sight. -/
namespace Go.Proofs.Ytlpfifdocgljnaa
namespace Pl
open Ser (psum cv pw)

theorem mul2_congr {m : Int} {a a' b b' : Nat → Nat → Int} {d : Nat} (h : Eq m d a a') (k : Eq m d b b') : Eq m d (mul2 a b) (mul2 a' b') := by
  intro p q hpq
  refine Ser.psum_congr _ (fun i hi => Ser.psum_congr _ (fun j hj => Ser.mul_cong (h i j (by omega)) (k _ _ (by omega))))
theorem mul2_add (a a' b : Nat → Nat → Int) (p q : Nat) : mul2 (fun i j => a i j + a' i j) b p q = mul2 a b p q + mul2 a' b p q := by
  unfold mul2
  rw [← Ser.psum_add]
  refine Ser.psum_ext _ (fun i _ => ?_)
  rw [← Ser.psum_add]
  exact Ser.psum_ext _ (fun j _ => Int.add_mul _ _ _)
theorem mul2_smul (c : Int) (a b : Nat → Nat → Int) (p q : Nat) : mul2 (fun i j => c * a i j) b p q = c * mul2 a b p q := by
  unfold mul2
  rw [← Ser.psum_mul]
  refine Ser.psum_ext _ (fun i _ => ?_)
  rw [← Ser.psum_mul]
  exact Ser.psum_ext _ (fun j _ => Int.mul_assoc _ _ _)
theorem mul2_turn (a b : Nat → Nat → Int) (p q : Nat) : mul2 a b q p = mul2 (fun i j => a j i) (fun i j => b j i) p q := by
  unfold mul2
  exact Ser.psum_swap _ _ _
/-- a number alone -/
def one2 (c : Int) : Nat → Nat → Int := fun p q => if p = 0 ∧ q = 0 then c else 0
/-- the powers of a table, and their list of tables -/
def pw2 (F : Nat → Nat → Int) : Nat → Nat → Nat → Int
  | 0 => one2 1
  | k + 1 => mul2 (pw2 F k) F
def pwT (m : Int) (d : Nat) (F : Nat → Nat → Int) : Nat → List (List Int)
  | 0 => tab m d (one2 1)
  | k + 1 => tab m d (mul2 (pc (pwT m d F k)) F)
theorem pwT_tab (m : Int) (d : Nat) (F : Nat → Nat → Int) : ∀ k, pwT m d F k = tab m d (pw2 F k) := by
  intro k
  induction k with
  | zero => rfl
  | succ k ih =>
    show tab m d (mul2 (pc (pwT m d F k)) F) = tab m d (mul2 (pw2 F k) F)
    rw [ih]
    exact tab_congr (mul2_congr (pc_tab_eq _ _ _) (Eq.refl _ _ _))
theorem pwT_length (m : Int) (d : Nat) (F : Nat → Nat → Int) (k : Nat) : (pwT m d F k).length = d + 1 := by cases k <;> exact tab_length _ _ _
/-- symmetric up to the degree -/
def Sym (d : Nat) (F : Nat → Nat → Int) : Prop := ∀ i j, i + j ≤ d → F i j = F j i
theorem pw2_sym {d : Nat} {F : Nat → Nat → Int} (h : Sym d F) : ∀ k, Sym d (pw2 F k) := by
  intro k
  induction k with
  | zero =>
    intro i j _
    show one2 1 i j = one2 1 j i
    unfold one2
    by_cases c : i = 0 ∧ j = 0
    · rw [if_pos c, if_pos ⟨c.2, c.1⟩]
    · rw [if_neg c, if_neg (fun e => c ⟨e.2, e.1⟩)]
  | succ k ih =>
    intro i j hij
    show mul2 (pw2 F k) F i j = mul2 (pw2 F k) F j i
    rw [mul2_turn (pw2 F k) F i j]
    refine Ser.psum_ext _ (fun a ha => Ser.psum_ext _ (fun b hb => ?_))
    rw [ih a b (by omega), h (i - a) (j - b) (by omega)]
/-- Horner's table when the last k of a list's coefficients have been taken in -/
def horq (m : Int) (d : Nat) (l : List Int) (F : Nat → Nat → Int) : Nat → List (List Int)
  | 0 => tab m d fun _ _ => 0
  | k + 1 => tab m d fun p q => mul2 (pc (horq m d l F k)) F p q + (if p = 0 ∧ q = 0 then Ser.co l (l.length - 1 - k) else 0)
theorem horq_length (m : Int) (d : Nat) (l : List Int) (F : Nat → Nat → Int) (k : Nat) : (horq m d l F k).length = d + 1 := by
  cases k <;> exact tab_length _ _ _
theorem horq_ok {m : Int} {d : Nat} (m1 : 2 ≤ m) (m2 : m ≤ 10000) (d1 : 1 ≤ d) (d2 : d ≤ 10) (l : List Int) (F : Nat → Nat → Int) (k : Nat) : Ok m d (horq m d l F k) := by
  cases k <;> (unfold horq; exact Ok.of_tab m1 m2 d1 d2 _)
theorem horq_step {m : Int} {d : Nat} (l : List Int) (F : Nat → Nat → Int) (k : Nat) :
    (tab m d (mul2 (pc (horq m d l F k)) F)).set 0 ((rw' (tab m d (mul2 (pc (horq m d l F k)) F)) 0).set 0 ((pc (tab m d (mul2 (pc (horq m d l F k)) F)) 0 0 + Ser.co l (l.length - 1 - k)) % m)) = horq m d l F (k + 1) := by
  rw [pc_tab (Nat.zero_le _)]
  refine tab_put (Nat.zero_le _) ?_ (fun p q _ hne => ?_)
  · rw [if_pos ⟨rfl, rfl⟩, Int.emod_add_emod]
  · rw [if_neg hne, Int.add_zero]
theorem mul2_psum (g : Nat → Nat → Nat → Int) (F : Nat → Nat → Int) (p q : Nat) : ∀ n, mul2 (fun i j => psum (fun k => g k i j) n) F p q = psum (fun k => mul2 (g k) F p q) n := by
  intro n
  induction n with
  | zero =>
    have : (fun i j : Nat => psum (fun k => g k i j) 0) = fun i j => 0 * F i j := by funext i j; rw [Int.zero_mul]; rfl
    rw [this, mul2_smul, Int.zero_mul]; rfl
  | succ n ih =>
    have : (fun i j => psum (fun k => g k i j) (n + 1)) = fun i j => psum (fun k => g k i j) n + g n i j := rfl
    rw [this, mul2_add, ih, psum]
theorem horq_pw {m : Int} {d : Nat} (l : List Int) (F : Nat → Nat → Int) : ∀ k, k ≤ l.length → Eq m d (pc (horq m d l F k)) (fun p q => psum (fun i => Ser.co l (l.length - k + i) * pw2 F i p q) k) := by
  intro k
  induction k with
  | zero => intro _ p q h; rw [show horq m d l F 0 = tab m d fun _ _ => 0 from rfl, pc_tab h, Int.emod_emod]; rfl
  | succ k ih =>
    intro hk p q h
    rw [show horq m d l F (k + 1) = tab m d fun p q => mul2 (pc (horq m d l F k)) F p q + (if p = 0 ∧ q = 0 then Ser.co l (l.length - 1 - k) else 0) from rfl, pc_tab h, Int.emod_emod]
    dsimp only
    rw [Ser.psum_left, Int.add_comm (Ser.co l _ * _)]
    refine Ser.add_cong ?_ ?_
    · rw [mul2_congr (ih (by omega)) (Eq.refl _ _ _) p q h, mul2_psum]
      congr 1
      refine Ser.psum_ext _ (fun i hi => ?_)
      rw [mul2_smul, show l.length - k + i = l.length - (k + 1) + (i + 1) by omega]; rfl
    · rw [show l.length - 1 - k = l.length - (k + 1) + 0 by omega]
      show _ = (_ * one2 1 p q) % m
      unfold one2
      split <;> simp
/-- the coefficient at x^a y^b z^c of F(F(x, y), z) -/
def brS (m : Int) (d : Nat) (F : Nat → Nat → Int) (a b c : Nat) : Int := psum (fun i => F i c * pc (pwT m d F i) a b) (d + 1 - c)
def br (m : Int) (d : Nat) (F : Nat → Nat → Int) (a b c : Nat) : Int := brS m d F a b c % m
theorem horq_br {m : Int} {d : Nat} (l : List Int) (F : Nat → Nat → Int) (c : Nat) (hl : l.length = d + 1 - c) (h : ∀ i, i < l.length → Ser.co l i = F i c) (a b : Nat) (hab : a + b ≤ d) : pc (horq m d l F l.length) a b = br m d F a b c := by
  have hr : pc (horq m d l F l.length) a b = pc (horq m d l F l.length) a b % m := by
    have e : ∀ k, ∃ g, horq m d l F k = tab m d g := fun k => by cases k <;> exact ⟨_, rfl⟩
    obtain ⟨g, hg⟩ := e l.length
    rw [hg, pc_tab hab, Int.emod_emod]
  rw [hr, horq_pw l F l.length (Nat.le_refl _) a b hab]
  unfold br brS
  rw [hl]
  refine Ser.psum_congr _ (fun i hi => ?_)
  rw [Nat.sub_self, Nat.zero_add, h i (by omega), pwT_tab]
  exact Ser.mul_cong rfl (by rw [pc_tab hab, Int.emod_emod])
theorem horq_br' {m : Int} {d : Nat} (l : List Int) {F : Nat → Nat → Int} (hs : Sym d F) (c : Nat) (hl : l.length = d + 1 - c) (h : ∀ i, i < l.length → Ser.co l i = F c i) (a b : Nat) (hab : a + b ≤ d) : pc (horq m d l F l.length) b a = br m d F a b c := by
  rw [horq_br l F c hl (fun i hi => by rw [h i hi, hs c i (by omega)]) b a (by omega)]
  unfold br brS
  refine Ser.psum_congr _ (fun i hi => ?_)
  rw [pwT_tab, pc_tab (by omega), pc_tab hab, pw2_sym hs i b a (by omega)]

/-! the first of something -/
def srch (p : Nat → Option (List Int)) : Nat → Nat → Option (List Int)
  | 0, _ => none
  | n + 1, k => match p k with
    | some x => some x
    | none => srch p n (k + 1)
def orE (a b : Option (List Int)) : Option (List Int) := match a with
  | some x => some x
  | none => b
theorem srch_hit {p : Nat → Option (List Int)} {k : Nat} {x : List Int} (n : Nat) (h : p k = some x) : srch p (n + 1) k = some x := by rw [srch, h]
theorem srch_miss {p : Nat → Option (List Int)} {k : Nat} (n : Nat) (h : p k = none) : srch p (n + 1) k = srch p n (k + 1) := by rw [srch, h]
theorem srch_step (p : Nat → Option (List Int)) (n k : Nat) : srch p (n + 1) k = orE (p k) (srch p n (k + 1)) := by rw [srch]; unfold orE; split <;> simp_all
theorem orE_none (b : Option (List Int)) : orE none b = b := rfl
theorem orE_some (x : List Int) (b : Option (List Int)) : orE (some x) b = some x := rfl
theorem srch_none {p : Nat → Option (List Int)} : ∀ n k, srch p n k = none → ∀ i, k ≤ i → i < k + n → p i = none := by
  intro n
  induction n with
  | zero => intro k _ i h1 h2; omega
  | succ n ih =>
    intro k h i h1 h2
    rw [srch_step] at h
    cases hp : p k with
    | some x => rw [hp] at h; exact absurd h (by simp [orE])
    | none =>
      rw [hp] at h
      by_cases hi : i = k
      · rw [hi]; exact hp
      · exact ih (k + 1) h i (by omega) (by omega)
def want (i : Nat) : Int := if i = 1 then 1 else 0
def fau0 (F : Nat → Nat → Int) (i : Nat) : Option (List Int) := if F i 0 = want i then none else some [0, (i : Int)]
def fau1j (F : Nat → Nat → Int) (i j : Nat) : Option (List Int) := if F i j = F j i then none else some [1, (i : Int), (j : Int)]
def fau1 (d : Nat) (F : Nat → Nat → Int) (i : Nat) : Option (List Int) := srch (fau1j F i) (d - i - i) (i + 1)
def fau2c (m : Int) (d : Nat) (F : Nat → Nat → Int) (a b c : Nat) : Option (List Int) := if br m d F a b c = br m d F c b a then none else some [2, (a : Int), (b : Int), (c : Int)]
def fau2b (m : Int) (d : Nat) (F : Nat → Nat → Int) (a b : Nat) : Option (List Int) := srch (fau2c m d F a b) (d + 1 - (a + b)) 0
def fau2 (m : Int) (d : Nat) (F : Nat → Nat → Int) (a : Nat) : Option (List Int) := srch (fau2b m d F a) (d + 1 - a) 0
def fauP (d : Nat) (F : Nat → Nat → Int) : Option (List Int) := srch (fau0 F) (d + 1) 0
def fauS (d : Nat) (F : Nat → Nat → Int) : Option (List Int) := srch (fau1 d F) (d + 1) 0
def fauT (m : Int) (d : Nat) (F : Nat → Nat → Int) : Option (List Int) := srch (fau2 m d F) (d + 1) 0
def fau (m : Int) (d : Nat) (F : Nat → Nat → Int) : Option (List Int) := orE (fauP d F) (orE (fauS d F) (fauT m d F))
theorem fauP_none {d : Nat} {F : Nat → Nat → Int} (h : fauP d F = none) (i : Nat) (hi : i ≤ d) : F i 0 = want i := by
  have := srch_none _ _ h i (Nat.zero_le _) (by omega)
  unfold fau0 at this
  by_cases c : F i 0 = want i
  · exact c
  · rw [if_neg c] at this; exact absurd this (by simp)
theorem fauS_none {d : Nat} {F : Nat → Nat → Int} (h : fauS d F = none) : Sym d F := by
  have key : ∀ i j, i < j → i + j ≤ d → F i j = F j i := by
    intro i j h1 h2
    have := srch_none _ _ (srch_none _ _ h i (Nat.zero_le _) (by omega)) j (by omega) (by omega)
    unfold fau1j at this
    by_cases c : F i j = F j i
    · exact c
    · rw [if_neg c] at this; exact absurd this (by simp)
  intro i j hij
  by_cases h1 : i < j
  · exact key i j h1 hij
  · by_cases h2 : j < i
    · exact (key j i h2 (by omega)).symm
    · rw [show i = j by omega]

/-! the inverse of a law -/
/-- the first variable's terms are t alone, the second's too -/
structure Norm (d : Nat) (F : Nat → Nat → Int) : Prop where
  x : ∀ i, i ≤ d → F i 0 = want i
  y : ∀ j, j ≤ d → F 0 j = want j
  over : ∀ i j, d < i + j → F i j = 0
theorem norm_of {d : Nat} {F : Nat → Nat → Int} (h : fauP d F = none) (h' : fauS d F = none) (ho : ∀ i j, d < i + j → F i j = 0) : Norm d F :=
  ⟨fauP_none h, fun j hj => by rw [fauS_none h' 0 j (by omega)]; exact fauP_none h j hj, ho⟩
/-- products and powers up to n ask for coefficients up to n -/
theorem pw_less {m : Int} {n : Nat} {g g' : Nat → Int} (h : ∀ i, i < n → g i % m = g' i % m) (k i : Nat) (hi : i < n) : pw g k i % m = pw g' k i % m :=
  Ser.pw_congr (m := m) (n := n - 1) (fun j hj => h j (by omega)) k i (by omega)
/-- what one coefficient more does to a sum of curves under a law -/
theorem put_last {m : Int} {d : Nat} {F : Nat → Nat → Int} (hF : Norm d F) {a g g' : Nat → Int} (ha : a 0 = 0) (hg : g 0 = 0) (hg' : g' 0 = 0) {n : Nat} (hn : 1 ≤ n) (hnd : n ≤ d) (h : ∀ i, i < n → g i % m = g' i % m) :
    (putF F a g (d + 1) n - putF F a g' (d + 1) n) % m = (g n - g' n) % m := by
  have e : ∀ u : Nat → Int, u 0 = 0 → putF F a u (d + 1) n = psum (fun j => F 0 j * pw u j n) (d + 1) + psum (fun i => psum (fun j => F (i + 1) j * cv n (pw a (i + 1)) (pw u j)) (d + 1)) d := by
    intro u _
    unfold putF
    rw [Ser.psum_left]
    congr 1
    refine Ser.psum_ext _ (fun j _ => ?_)
    rw [show pw a 0 = Ser.mon 0 1 from rfl, Ser.cv_const, Int.one_mul]
  have e0 : ∀ u : Nat → Int, psum (fun j => F 0 j * pw u j n) (d + 1) = u n := by
    intro u
    rw [Ser.psum_ext (g := fun j => u n * Ser.mon j 1 1) (d + 1) (fun j hj => by
      rw [hF.y j (by omega)]
      unfold want Ser.mon
      by_cases c : j = 1
      · rw [if_pos c, if_pos c.symm, c, Int.one_mul, Int.mul_one]
        show Ser.cv n (Ser.mon 0 1) u = u n
        rw [Ser.cv_const, Int.one_mul]
      · rw [if_neg c, if_neg (fun h => c h.symm), Int.zero_mul, Int.mul_zero])]
    rw [Ser.psum_mon (fun _ => u n) 1 (d + 1), if_pos (by omega)]
  rw [e g hg, e g' hg', e0, e0]
  have hz : ∀ (i : Nat), pw a (i + 1) 0 = 0 := fun i => Ser.pw_low ha (i + 1) 0 (by omega)
  have hc : psum (fun i => psum (fun j => F (i + 1) j * cv n (pw a (i + 1)) (pw g j)) (d + 1)) d % m = psum (fun i => psum (fun j => F (i + 1) j * cv n (pw a (i + 1)) (pw g' j)) (d + 1)) d % m :=
    Ser.psum_congr _ (fun i _ => Ser.psum_congr _ (fun j _ => Ser.mul_cong rfl (Ser.cv_congr_curve (by rw [hz, Int.zero_emod]) (by rw [hz, Int.zero_emod]) (Ser.Eq.refl _ _ _) (fun k hk => pw_less h j k hk))))
  have := Ser.sub_cong (m := m) (x := g n + _) (y := g n + _) (Ser.add_cong rfl hc) (rfl : (g' n + psum (fun i => psum (fun j => F (i + 1) j * cv n (pw a (i + 1)) (pw g' j)) (d + 1)) d) % m = _)
  rw [this]
  congr 1
  omega
theorem put_congr {m : Int} {F : Nat → Nat → Int} {a a' g g' : Nat → Int} {N n : Nat} (h : Ser.Eq m n a a') (h' : Ser.Eq m n g g') : putF F a g N n % m = putF F a' g' N n % m :=
  Ser.psum_congr _ (fun i _ => Ser.psum_congr _ (fun j _ => Ser.mul_cong rfl (Ser.cv_congr n (Ser.pw_congr h i) (Ser.pw_congr h' j))))
theorem put_zero {d : Nat} {F : Nat → Nat → Int} (hF : Norm d F) {a g : Nat → Int} (ha : a 0 = 0) (hg : g 0 = 0) : putF F a g (d + 1) 0 = 0 := by
  unfold putF
  refine Ser.psum_low _ _ (fun i hi => Ser.psum_low _ _ (fun j hj => ?_))
  rw [Ser.cv_zero]
  by_cases c : i = 0 ∧ j = 0
  · rw [c.1, c.2, hF.x 0 (Nat.zero_le _)]; simp [want]
  · by_cases c1 : i = 0
    · rw [Ser.pw_low hg j 0 (by omega)]; simp
    · rw [Ser.pw_low ha i 0 (by omega)]; simp
/-- the line t -/
def lin (m : Int) (d : Nat) (c : Int) : List Int := Ser.cut m d (Ser.mon 1 c)
/-- the model's inverse after n numbers -/
def invS (m : Int) (d : Nat) (F : Nat → Nat → Int) : Nat → List Int
  | 0 => List.replicate (d + 1) 0
  | n + 1 => (invS m d F n).set (n + 1) ((m - Ser.co (putL m d F (lin m d 1) (invS m d F n)) (n + 1)) % m)
/-- the program's -/
def invP (m : Int) (d : Nat) (F : Nat → Nat → Int) : Nat → List Int
  | 0 => lin m d 0
  | n + 1 => Ser.cut m d fun i => Ser.co (invP m d F n) i + Ser.co (Ser.cut m d fun j => Ser.co (putL m d F (lin m d 1) (invP m d F n)) j * -1) i
theorem invS_length (m : Int) (d : Nat) (F : Nat → Nat → Int) (n : Nat) : (invS m d F n).length = d + 1 := by
  induction n with
  | zero => simp [invS]
  | succ n ih => rw [invS, List.length_set, ih]
theorem invP_length (m : Int) (d : Nat) (F : Nat → Nat → Int) (n : Nat) : (invP m d F n).length = d + 1 := by cases n <;> exact Ser.cut_length _ _ _
theorem invS_red {m : Int} (hm : 0 < m) (d : Nat) (F : Nat → Nat → Int) (n : Nat) : Ser.Red m (invS m d F n) := by
  induction n with
  | zero => intro i; rw [invS, Ser.co_zeros]; omega
  | succ n ih =>
    intro i
    rw [invS]
    by_cases c : n + 1 < d + 1
    · rw [Ser.co_set (by rw [invS_length]; exact c)]
      split
      · exact ⟨Int.emod_nonneg _ (by omega), Int.emod_lt_of_pos _ hm⟩
      · exact ih i
    · rw [List.set_eq_of_length_le (by rw [invS_length]; omega)]; exact ih i
theorem invP_red {m : Int} (hm : 0 < m) (d : Nat) (F : Nat → Nat → Int) (n : Nat) : Ser.Red m (invP m d F n) := by cases n <;> exact Ser.cut_red hm _ _
theorem invS_co (m : Int) (d : Nat) (F : Nat → Nat → Int) (n i : Nat) (hn : n < d) : Ser.co (invS m d F (n + 1)) i = if i = n + 1 then (m - Ser.co (putL m d F (lin m d 1) (invS m d F n)) (n + 1)) % m else Ser.co (invS m d F n) i := by
  rw [invS, Ser.co_set (by rw [invS_length]; omega)]
theorem invS_curve (m : Int) (d : Nat) (F : Nat → Nat → Int) : ∀ n, n ≤ d → Ser.co (invS m d F n) 0 = 0 := by
  intro n
  induction n with
  | zero => intro _; rw [invS, Ser.co_zeros]
  | succ n ih => intro hn; rw [invS_co _ _ _ _ _ (by omega), if_neg (by omega), ih (by omega)]
theorem invS_over (m : Int) (d : Nat) (F : Nat → Nat → Int) : ∀ n i, n ≤ d → n < i → Ser.co (invS m d F n) i = 0 := by
  intro n
  induction n with
  | zero => intro i _ _; rw [invS, Ser.co_zeros]
  | succ n ih => intro i hn hi; rw [invS_co _ _ _ _ _ (by omega), if_neg (by omega), ih i (by omega) (by omega)]
theorem invS_pre (m : Int) (d : Nat) (F : Nat → Nat → Int) (n k i : Nat) (h : i ≤ n) (hk : n + k ≤ d) : Ser.co (invS m d F (n + k)) i = Ser.co (invS m d F n) i := by
  induction k with
  | zero => rfl
  | succ k ih => rw [← Nat.add_assoc, invS_co _ _ _ _ _ (by omega), if_neg (by omega), ih (by omega)]
theorem lin_curve (m : Int) (d : Nat) (c : Int) : Ser.co (lin m d c) 0 = 0 := by
  unfold lin; rw [Ser.co_cut (Nat.zero_le _)]; simp [Ser.mon]
theorem put_cut {m : Int} {d : Nat} {F : Nat → Nat → Int} {a b : List Int} {n : Nat} (h : n ≤ d) : Ser.co (putL m d F a b) n = putF F (Ser.co a) (Ser.co b) (d + 1) n % m := Ser.co_cut h
/-- the model's inverse is one -/
theorem invS_inv {m : Int} {d : Nat} {F : Nat → Nat → Int} (hF : Norm d F) : ∀ n, n ≤ d → ∀ i, i ≤ n → putF F (Ser.co (lin m d 1)) (Ser.co (invS m d F n)) (d + 1) i % m = 0 := by
  intro n
  induction n with
  | zero =>
    intro _ i hi
    obtain rfl : i = 0 := by omega
    rw [put_zero hF (lin_curve m d 1) (invS_curve m d F 0 (Nat.zero_le _)), Int.zero_emod]
  | succ n ih =>
    intro hn i hi
    by_cases c : i ≤ n
    · rw [put_congr (Ser.Eq.refl m i _) (Ser.Eq.of m i (fun j hj => invS_pre m d F n 1 j (by omega) (by omega)))]
      exact ih (by omega) i c
    · obtain rfl : i = n + 1 := by omega
      have := put_last (m := m) hF (a := Ser.co (lin m d 1)) (lin_curve m d 1) (invS_curve m d F (n + 1) hn) (invS_curve m d F n (by omega)) (n := n + 1) (by omega) hn (fun j hj => by rw [invS_pre m d F n 1 j (by omega) (by omega)])
      rw [invS_co m d F n (n + 1) (by omega), if_pos rfl, invS_over m d F n (n + 1) (by omega) (by omega), put_cut hn] at this
      revert this
      generalize putF F (Ser.co (lin m d 1)) (Ser.co (invS m d F (n + 1))) (d + 1) (n + 1) = X
      generalize putF F (Ser.co (lin m d 1)) (Ser.co (invS m d F n)) (d + 1) (n + 1) = Y
      intro h
      rw [Int.sub_zero, Int.emod_emod] at h
      have h2 := Ser.add_cong (m := m) h (rfl : Y % m = Y % m)
      rw [Int.sub_add_cancel] at h2
      rw [h2]
      have h3 : (m - Y % m + Y) % m = (m - Y + Y) % m := Ser.add_cong (Ser.sub_cong rfl (Int.emod_emod _ _)) rfl
      rw [h3, Int.sub_add_cancel, Int.emod_self]
theorem invP_co {m : Int} {d : Nat} {F : Nat → Nat → Int} (n i : Nat) (hi : i ≤ d) : Ser.co (invP m d F (n + 1)) i % m = (Ser.co (invP m d F n) i - putF F (Ser.co (lin m d 1)) (Ser.co (invP m d F n)) (d + 1) i) % m := by
  rw [invP, Ser.co_cut hi, Ser.co_cut hi, Int.emod_emod, Int.sub_eq_add_neg]
  refine Ser.add_cong rfl ?_
  rw [Int.emod_emod, put_cut hi, Int.mul_neg, Int.mul_one, show -(putF F (Ser.co (lin m d 1)) (Ser.co (invP m d F n)) (d + 1) i % m) = 0 - putF F (Ser.co (lin m d 1)) (Ser.co (invP m d F n)) (d + 1) i % m by omega, show -putF F (Ser.co (lin m d 1)) (Ser.co (invP m d F n)) (d + 1) i = 0 - putF F (Ser.co (lin m d 1)) (Ser.co (invP m d F n)) (d + 1) i by omega]
  exact Ser.sub_cong rfl (Int.emod_emod _ _)
theorem invP_curve {m : Int} (hm : 0 < m) {d : Nat} {F : Nat → Nat → Int} (hF : Norm d F) : ∀ n, Ser.co (invP m d F n) 0 = 0 := by
  intro n
  induction n with
  | zero => exact lin_curve m d 0
  | succ n ih =>
    have h := invP_co (m := m) (F := F) n 0 (Nat.zero_le d)
    rw [put_zero hF (lin_curve m d 1) ih, ih] at h
    have hr := invP_red hm d F (n + 1) 0
    rw [Int.emod_eq_of_lt hr.1 hr.2] at h
    simpa using h
theorem invP_agrees {m : Int} (hm : 0 < m) {d : Nat} {F : Nat → Nat → Int} (hF : Norm d F) : ∀ n, n ≤ d → ∀ i, i ≤ n → Ser.co (invP m d F n) i % m = Ser.co (invS m d F d) i % m := by
  intro n
  induction n with
  | zero =>
    intro _ i hi
    obtain rfl : i = 0 := by omega
    rw [invP_curve hm hF, invS_curve m d F d (Nat.le_refl _)]
  | succ n ih =>
    intro hn i hi
    rw [invP_co n i (by omega)]
    have hz := invS_inv (m := m) hF d (Nat.le_refl _) i (by omega)
    by_cases c : i ≤ n
    · have := put_congr (F := F) (N := d + 1) (Ser.Eq.refl m i (Ser.co (lin m d 1))) (fun j hj => ih (by omega) j (by omega) : Ser.Eq m i (Ser.co (invP m d F n)) (Ser.co (invS m d F d)))
      rw [hz] at this
      rw [Ser.sub_cong (ih (by omega) i c) (this.trans (Int.zero_emod m).symm), Int.sub_zero]
    · obtain rfl : i = n + 1 := by omega
      have := put_last (m := m) hF (a := Ser.co (lin m d 1)) (lin_curve m d 1) (invP_curve hm hF n) (invS_curve m d F d (Nat.le_refl _)) (n := n + 1) (by omega) hn (fun j hj => ih (by omega) j (by omega))
      revert this hz
      generalize putF F (Ser.co (lin m d 1)) (Ser.co (invP m d F n)) (d + 1) (n + 1) = X
      generalize putF F (Ser.co (lin m d 1)) (Ser.co (invS m d F d)) (d + 1) (n + 1) = Y
      intro hz h
      have h1 : X % m = (Ser.co (invP m d F n) (n + 1) - Ser.co (invS m d F d) (n + 1)) % m := by
        rw [← h]
        have := Ser.sub_cong (m := m) (rfl : X % m = X % m) (hz.trans (Int.zero_emod m).symm)
        rw [this, Int.sub_zero]
      rw [Ser.sub_cong rfl h1]
      congr 1
      omega
theorem inv_same {m : Int} (hm : 0 < m) {d : Nat} {F : Nat → Nat → Int} (hF : Norm d F) : invP m d F d = invS m d F d :=
  Ser.red_unique (invP_length m d F d) (invS_length m d F d) (invP_red hm d F d) (invS_red hm d F d) (fun i hi => invP_agrees hm hF d (Nat.le_refl _) i hi)
end Pl
end Go.Proofs.Ytlpfifdocgljnaa

