/- What the methods of grids share: their boxes, their results; planes with one code. -/
import Derived.Test.YtjgpdgoclianlaaPcd
namespace Go.Proofs.Ytjgpdgoclianlaa
open Go.RowKit Go.WideShapes Go.ChangeShapes Go.ChangeAt

/-- the block of a grid in a variable of its own -/
def GBox (w : World) (g : Nat) (m : Int) (d : Nat) (A : Option Addr) (n c : Nat) : Prop :=
  w.cell? ⟨g, 0, none⟩ = some (.int .i64 m) ∧ w.cell? ⟨g, 1, none⟩ = some (.int .i64 d) ∧ w.cell? ⟨g, 2, none⟩ = some (.slice A n c) ∧ g < w.heap.size
theorem GBox.new (T : TypeId) (w : World) (m : Int) (d : Nat) (A : Option Addr) (n c : Nat) : GBox (w.alloc (.cells #[.int .i64 m, .int .i64 d, .slice A n c] T)) w.heap.size m d A n c := by
  have h := VarC.new T w #[.int .i64 m, .int .i64 d, .slice A n c]
  exact ⟨h.cell 0 _ rfl, h.cell 1 _ rfl, h.cell 2 _ rfl, h.lt⟩
theorem GBox.keep {w w' : World} {g : Nat} {m : Int} {d : Nat} {A : Option Addr} {n c : Nat} (h : GBox w g m d A n c) (hb : Below w.heap.size w w') : GBox w' g m d A n c :=
  ⟨(hb.cell (p := ⟨g, 0, none⟩) h.2.2.2).trans h.1, (hb.cell (p := ⟨g, 1, none⟩) h.2.2.2).trans h.2.1, (hb.cell (p := ⟨g, 2, none⟩) h.2.2.2).trans h.2.2.1, Nat.lt_of_lt_of_le h.2.2.2 hb.size⟩
/-- a grid's box and its result's variable -/
theorem gpro1 (w : World) (m : Int) (d : Nat) (A : Option Addr) (n c : Nat) : ∃ W, (w.alloc (.cells #[.int .i64 m, .int .i64 d, .slice A n c] 66)).alloc (.cells #[.int .i64 0, .int .i64 0, .slice none 0 0] 66) = W ∧
    GBox W w.heap.size m d A n c ∧ VarC 66 W (w.heap.size + 1) #[.int .i64 0, .int .i64 0, .slice none 0 0] ∧ Below w.heap.size w W := by
  refine ⟨_, rfl, (GBox.new _ _ _ _ _ _ _).keep (below_one _ _), ?_, below_alloc _ (below_one _ _)⟩
  have := VarC.new 66 (w.alloc (.cells #[.int .i64 m, .int .i64 d, .slice A n c] 66)) #[.int .i64 0, .int .i64 0, .slice none 0 0]
  simpa using this
/-- two grids' boxes and the result's variable -/
theorem gpro2 (w : World) (m : Int) (d : Nat) (A : Option Addr) (n c : Nat) (m' : Int) (d' : Nat) (A' : Option Addr) (n' c' : Nat) : ∃ W, ((w.alloc (.cells #[.int .i64 m, .int .i64 d, .slice A n c] 66)).alloc (.cells #[.int .i64 m', .int .i64 d', .slice A' n' c'] 66)).alloc (.cells #[.int .i64 0, .int .i64 0, .slice none 0 0] 66) = W ∧
    GBox W w.heap.size m d A n c ∧ GBox W (w.heap.size + 1) m' d' A' n' c' ∧ VarC 66 W (w.heap.size + 1 + 1) #[.int .i64 0, .int .i64 0, .slice none 0 0] ∧ Below w.heap.size w W := by
  refine ⟨_, rfl, ((GBox.new _ _ _ _ _ _ _).keep (below_one _ _)).keep (below_one _ _), ?_, ?_, below_alloc _ (below_alloc _ (below_one _ _))⟩
  · have := (GBox.new 66 (w.alloc (.cells #[.int .i64 m, .int .i64 d, .slice A n c] 66)) m' d' A' n' c').keep (below_one _ (.cells #[.int .i64 0, .int .i64 0, .slice none 0 0] 66))
    simpa using this
  · have := VarC.new 66 ((w.alloc (.cells #[.int .i64 m, .int .i64 d, .slice A n c] 66)).alloc (.cells #[.int .i64 m', .int .i64 d', .slice A' n' c'] 66)) #[.int .i64 0, .int .i64 0, .slice none 0 0]
    simpa using this
/-- what a grid's variable tells the walk -/
theorem VarC.tells3 {T : TypeId} {w : World} {g : Nat} {a b c : Value} (h : VarC T w g #[a, b, c]) : w.cell? ⟨g, 0, none⟩ = some a ∧ w.cell? ⟨g, 1, none⟩ = some b ∧ w.cell? ⟨g, 2, none⟩ = some c ∧ w.frozen? ⟨g, 0, none⟩ = false ∧ w.frozen? ⟨g, 1, none⟩ = false ∧ w.frozen? ⟨g, 2, none⟩ = false :=
  ⟨h.cell 0 _ rfl, h.cell 1 _ rfl, h.cell 2 _ rfl, h.fz 0, h.fz 1, h.fz 2⟩
theorem VarC.tells2 {T : TypeId} {w : World} {g : Nat} {a b : Value} (h : VarC T w g #[a, b]) : w.cell? ⟨g, 0, none⟩ = some a ∧ w.cell? ⟨g, 1, none⟩ = some b ∧ w.frozen? ⟨g, 0, none⟩ = false ∧ w.frozen? ⟨g, 1, none⟩ = false :=
  ⟨h.cell 0 _ rfl, h.cell 1 _ rfl, h.fz 0, h.fz 1⟩
/-- a plane is stored into its variable: what the return reads -/
theorem fin_plane {T : TypeId} {w w2 : World} {g lo hi : Nat} {v x y : Value} {t : List (List Int)} (hv : VarC T w2 g #[x, y]) (ho : OwnR w2 lo hi v t) (hg : g < lo ∨ hi ≤ g) (hwg : w.heap.size ≤ g) (hhi : hi ≤ w2.heap.size) (hb : Below w.heap.size w w2) (p q : Value) :
    ((w2.setCell ⟨g, 0, none⟩ p).setCell ⟨g, 1, none⟩ q).cell? ⟨g, 0, none⟩ = some p ∧ ((w2.setCell ⟨g, 0, none⟩ p).setCell ⟨g, 1, none⟩ q).cell? ⟨g, 1, none⟩ = some q ∧
    OwnR ((w2.setCell ⟨g, 0, none⟩ p).setCell ⟨g, 1, none⟩ q) lo ((w2.setCell ⟨g, 0, none⟩ p).setCell ⟨g, 1, none⟩ q).heap.size v t ∧ Below w.heap.size w ((w2.setCell ⟨g, 0, none⟩ p).setCell ⟨g, 1, none⟩ q) := by
  have h := (hv.set 0 p).set 1 q
  refine ⟨h.cell 0 _ rfl, h.cell 1 _ rfl, ?_, (hb.setCell hwg _).setCell hwg _⟩
  exact (ho.far (Span.of_grown (lo := g) (hi := g + 1) (grown_set2 w2 g p q) (fun b hb => by injection hb with hb; omega)) (by omega)).more (Nat.le_trans hhi (grown_set2 w2 g p q).size)
/-- a series is -/
theorem fin_serC {T : TypeId} {w w2 : World} {g base : Nat} {v x y : Value} {l : List Int} (hv : VarC T w2 g #[x, y]) (ho : OwnI w2 base v l) (hg : g < base) (hwg : w.heap.size ≤ g) (hb : Below w.heap.size w w2) (p q : Value) :
    ((w2.setCell ⟨g, 0, none⟩ p).setCell ⟨g, 1, none⟩ q).cell? ⟨g, 0, none⟩ = some p ∧ ((w2.setCell ⟨g, 0, none⟩ p).setCell ⟨g, 1, none⟩ q).cell? ⟨g, 1, none⟩ = some q ∧
    OwnI ((w2.setCell ⟨g, 0, none⟩ p).setCell ⟨g, 1, none⟩ q) base v l ∧ Below w.heap.size w ((w2.setCell ⟨g, 0, none⟩ p).setCell ⟨g, 1, none⟩ q) := by
  have h := (hv.set 0 p).set 1 q
  refine ⟨h.cell 0 _ rfl, h.cell 1 _ rfl, ho.other (grown_set2 w2 g p q) ?_, (hb.setCell hwg _).setCell hwg _⟩
  rcases hc : v.ownBlock with _ | b
  · exact .inl rfl
  · refine .inr (fun e => ?_)
    injection e with e
    have := (ho.lt b hc).1
    omega
/-- a plane's box, its result's variable, the list of the one plane -/
theorem pro1P (w : World) (m : Int) (A : Option Addr) (n c : Nat) : ∃ W, ((w.alloc (.cells #[.int .i64 m, .slice A n c] 27)).alloc (.cells #[.int .i64 0, .slice none 0 0] 27)).alloc (.cells #[.int .i64 m, .slice A n c] 27) = W ∧
    Box W w.heap.size m A n c ∧ VarC 27 W (w.heap.size + 1) #[.int .i64 0, .slice none 0 0] ∧ Box W (w.heap.size + 1 + 1) m A n c ∧ Below w.heap.size w W := by
  refine ⟨_, rfl, ((Box.newT _ _ _ _ _ _).keep (below_one _ _)).keep (below_one _ _), ?_, ?_, below_alloc _ (below_alloc _ (below_one _ _))⟩
  · have := (VarC.new 27 (w.alloc (.cells #[.int .i64 m, .slice A n c] 27)) #[.int .i64 0, .slice none 0 0]).keep (below_one _ (.cells #[.int .i64 m, .slice A n c] 27))
    simpa using this
  · have := Box.newT 27 ((w.alloc (.cells #[.int .i64 m, .slice A n c] 27)).alloc (.cells #[.int .i64 0, .slice none 0 0] 27)) m A n c
    simpa using this
/-- .. of a series -/
theorem pro1S (w : World) (m : Int) (A : Option Addr) (n c : Nat) : ∃ W, ((w.alloc (.cells #[.int .i64 m, .slice A n c] 27)).alloc (.cells #[.int .i64 0, .slice none 0 0] 49)).alloc (.cells #[.int .i64 m, .slice A n c] 27) = W ∧
    Box W w.heap.size m A n c ∧ VarC 49 W (w.heap.size + 1) #[.int .i64 0, .slice none 0 0] ∧ Box W (w.heap.size + 1 + 1) m A n c ∧ Below w.heap.size w W := by
  refine ⟨_, rfl, ((Box.newT _ _ _ _ _ _).keep (below_one _ _)).keep (below_one _ _), ?_, ?_, below_alloc _ (below_alloc _ (below_one _ _))⟩
  · have := (VarC.new 49 (w.alloc (.cells #[.int .i64 m, .slice A n c] 27)) #[.int .i64 0, .slice none 0 0]).keep (below_one _ (.cells #[.int .i64 m, .slice A n c] 27))
    simpa using this
  · have := Box.newT 27 ((w.alloc (.cells #[.int .i64 m, .slice A n c] 27)).alloc (.cells #[.int .i64 0, .slice none 0 0] 49)) m A n c
    simpa using this
/-- the model's: a plane's box and its result's variable -/
theorem spro1P (w : World) (m : Int) (A : Option Addr) (n c : Nat) : ∃ W, (w.alloc (.cells #[.int .i64 m, .slice A n c] 27)).alloc (.cells #[.int .i64 0, .slice none 0 0] 27) = W ∧
    Box W w.heap.size m A n c ∧ VarC 27 W (w.heap.size + 1) #[.int .i64 0, .slice none 0 0] ∧ Below w.heap.size w W := by
  refine ⟨_, rfl, (Box.newT _ _ _ _ _ _).keep (below_one _ _), ?_, below_alloc _ (below_one _ _)⟩
  have := VarC.new 27 (w.alloc (.cells #[.int .i64 m, .slice A n c] 27)) #[.int .i64 0, .slice none 0 0]
  simpa using this
/-- two planes' boxes, the result's variable, the list of both -/
theorem pro2P (w : World) (m : Int) (A : Option Addr) (n c : Nat) (m' : Int) (A' : Option Addr) (n' c' : Nat) : ∃ W, (((w.alloc (.cells #[.int .i64 m, .slice A n c] 27)).alloc (.cells #[.int .i64 m', .slice A' n' c'] 27)).alloc (.cells #[.int .i64 0, .slice none 0 0] 27)).alloc (.cells #[.int .i64 m, .slice A n c, .int .i64 m', .slice A' n' c'] 27) = W ∧
    Box W w.heap.size m A n c ∧ Box W (w.heap.size + 1) m' A' n' c' ∧ VarC 27 W (w.heap.size + 1 + 1) #[.int .i64 0, .slice none 0 0] ∧ Box4 W (w.heap.size + 1 + 1 + 1) m A n c m' A' n' c' ∧ Below w.heap.size w W := by
  obtain ⟨W0, h0, h1, h2, h3⟩ := startB2 27 27 w m A n c m' A' n' c'
  have hs : W0.heap.size = w.heap.size + 1 + 1 := by rw [← h0]; simp
  rw [h0]
  refine ⟨_, rfl, (h1.keep (below_one _ _)).keep (below_one _ _), (h2.keep (below_one _ _)).keep (below_one _ _), ?_, ?_, below_alloc _ (below_alloc _ h3)⟩
  · have := (VarC.new 27 W0 #[.int .i64 0, .slice none 0 0]).keep (below_one _ (.cells #[.int .i64 m, .slice A n c, .int .i64 m', .slice A' n' c'] 27))
    rwa [hs] at this
  · have hv := VarC.new 27 (W0.alloc (.cells #[.int .i64 0, .slice none 0 0] 27)) #[.int .i64 m, .slice A n c, .int .i64 m', .slice A' n' c']
    have e : (W0.alloc (.cells #[.int .i64 0, .slice none 0 0] 27)).heap.size = w.heap.size + 1 + 1 + 1 := by simp [hs]
    rw [e] at hv
    exact ⟨⟨hv.cell 0 _ rfl, hv.cell 1 _ rfl, hv.lt⟩, hv.cell 2 _ rfl, hv.cell 3 _ rfl⟩
/-- .. of the model -/
theorem spro2P (w : World) (m : Int) (A : Option Addr) (n c : Nat) (m' : Int) (A' : Option Addr) (n' c' : Nat) : ∃ W, ((w.alloc (.cells #[.int .i64 m, .slice A n c] 27)).alloc (.cells #[.int .i64 m', .slice A' n' c'] 27)).alloc (.cells #[.int .i64 0, .slice none 0 0] 27) = W ∧
    Box W w.heap.size m A n c ∧ Box W (w.heap.size + 1) m' A' n' c' ∧ VarC 27 W (w.heap.size + 1 + 1) #[.int .i64 0, .slice none 0 0] ∧ Below w.heap.size w W := by
  obtain ⟨W0, h0, h1, h2, h3⟩ := startB2 27 27 w m A n c m' A' n' c'
  have hs : W0.heap.size = w.heap.size + 1 + 1 := by rw [← h0]; simp
  rw [h0]
  refine ⟨_, rfl, h1.keep (below_one _ _), h2.keep (below_one _ _), ?_, below_alloc _ h3⟩
  have := VarC.new 27 W0 #[.int .i64 0, .slice none 0 0]
  rwa [hs] at this
/-- a table of a function's, cut to a degree: how many elements -/
theorem szT_ok {m : Int} {d : Nat} {t : List (List Int)} (h : Pl.Ok m d t) : szT t ≤ 1048576 := by
  have key : ∀ k, k ≤ d + 1 → tot (t.take k) ≤ k * 11 := by
    intro k
    induction k with
    | zero => intro _; simp [tot]
    | succ k ih =>
      intro hk
      have h1 := take_tot t k (by rw [h.len]; omega)
      have h2 := h.row k (by omega)
      have h3 := ih (by omega)
      have h4 := h.d2
      omega
  have h1 := key (d + 1) (Nat.le_refl _)
  rw [List.take_of_length_le (by rw [h.len]; omega)] at h1
  have := h.d2
  have := h.len
  unfold szT
  omega
/-- the model of a function of one plane -/
def oneP (f : Int → Nat → List (List Int) → List (List Int)) (m : Int) (t : List (List Int)) : Int × List (List Int) × Int := if codeP1 m t = 0 then (m, f m (t.length - 1) t, 0) else (0, [], codeP1 m t)
theorem oneP_len (f : Int → Nat → List (List Int) → List (List Int)) (m : Int) (t : List (List Int)) (h : ∀ d, Pl.Ok m d t → szT (f m d t) ≤ 1048576) : szT (oneP f m t).2.1 ≤ 1048576 := by
  unfold oneP
  by_cases hc : codeP1 m t = 0
  · rw [if_pos hc]
    obtain ⟨d, e, ho⟩ := plOk_of (codeP1_zero hc)
    rw [e]
    exact h d ho
  · rw [if_neg hc]; exact Nat.zero_le _
/-- .. of two planes -/
def twoP (f : Int → Nat → List (List Int) → List (List Int) → List (List Int)) (m : Int) (t : List (List Int)) (m' : Int) (t' : List (List Int)) : Int × List (List Int) × Int := if codeP2 m t m' t' = 0 then (m, f m (t.length - 1) t t', 0) else (0, [], codeP2 m t m' t')
theorem twoP_len (f : Int → Nat → List (List Int) → List (List Int) → List (List Int)) (m : Int) (t : List (List Int)) (m' : Int) (t' : List (List Int)) (h : ∀ d, Pl.Ok m d t → Pl.Ok m d t' → szT (f m d t t') ≤ 1048576) : szT (twoP f m t m' t').2.1 ≤ 1048576 := by
  unfold twoP
  by_cases hc : codeP2 m t m' t' = 0
  · rw [if_pos hc]
    obtain ⟨rfl, d, e, _, ho, ho'⟩ := codeP2_ok hc
    rw [e]
    exact h d ho ho'
  · rw [if_neg hc]; exact Nat.zero_le _
end Go.Proofs.Ytjgpdgoclianlaa
