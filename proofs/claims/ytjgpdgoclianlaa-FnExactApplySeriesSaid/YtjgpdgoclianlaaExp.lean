/- Helpers of the exact laws over planes and series. -/
import Derived.Test.YtjgpdgoclianlaaExa
import Derived.Test.YtjgpdgoclianlaaPlg
namespace Go.Proofs.Ytjgpdgoclianlaa
open Go.RowKit Go.WideShapes Go.ChangeShapes Go.ChangeAt

theorem lenT {t : List (List Int)} (h : szT t ≤ 1048576) : t.length ≤ 9223372036854775807 := by unfold szT at h; omega
theorem rowT {t : List (List Int)} (h : szT t ≤ 1048576) (k : Nat) : (Pl.rw' t k).length ≤ 9223372036854775807 := by have := tot_row t k; unfold szT at h; omega
theorem Box.span {w w' : World} {g lo hi : Nat} {m : Int} {A : Option Addr} {n c : Nat} (hx : Box w g m A n c) (hs : Span lo hi w w') (hd : g < lo ∨ hi ≤ g) : Box w' g m A n c := by
  obtain ⟨h1, h2, h3⟩ := hx
  have hb := hs.block g h3 hd
  exact ⟨by rw [← h1]; simp only [World.cell?, hb], by rw [← h2]; simp only [World.cell?, hb], Nat.lt_of_lt_of_le h3 hs.size⟩
theorem varC_keep {t : TypeId} {cur wd : World} {g : Nat} {cs : Array Value} (h : VarC t cur g cs) (hb : Below cur.heap.size cur wd) : VarC t wd g cs ∧ g < cur.heap.size := ⟨h.keep hb, h.lt⟩
theorem varC_at {t : TypeId} {w : World} {g k : Nat} {cs : Array Value} (_h : VarC t w g cs) (hk : k ≤ g) : k ≤ g := hk
/-- a plane has been stored into a variable that lay there before the call -/
theorem reg_finP {t : TypeId} {wk cur wd : World} {g : Nat} {A : Option Addr} {n c : Nat} {T : List (List Int)} {x y : Value} (hk : wk.heap.size ≤ g) (hgc : g < cur.heap.size) (hv : VarC t wd g #[x, y]) (ho : OwnR wd cur.heap.size wd.heap.size (.slice A n c) T) (hb : Below wk.heap.size wk wd) (M : Int) :
    OwnR ((wd.setCell ⟨g, 0, none⟩ (.int .i64 M)).setCell ⟨g, 1, none⟩ (.slice A n c)) wk.heap.size ((wd.setCell ⟨g, 0, none⟩ (.int .i64 M)).setCell ⟨g, 1, none⟩ (.slice A n c)).heap.size (.slice A n c) T ∧ Box ((wd.setCell ⟨g, 0, none⟩ (.int .i64 M)).setCell ⟨g, 1, none⟩ (.slice A n c)) g M A n c ∧
    Below wk.heap.size wk ((wd.setCell ⟨g, 0, none⟩ (.int .i64 M)).setCell ⟨g, 1, none⟩ (.slice A n c)) := by
  have h2 := (hv.set 0 (.int .i64 M)).set 1 (.slice A n c)
  have hg := grown_set2 wd g (.int .i64 M) (.slice A n c)
  have ho2 := ho.far (Span.of_grown (lo := g) (hi := g + 1) hg (fun b hb => by injection hb with hb; omega)) (.inr (by omega))
  have hlt := hv.lt
  refine ⟨(ho2.low (by omega)).more hg.size, ⟨h2.cell 0 _ rfl, h2.cell 1 _ rfl, h2.lt⟩, (hb.setCell hk _).setCell hk _⟩
/-- a plane has been stored into a new variable -/
theorem reg_newP {wk cur wd : World} {A : Option Addr} {n c : Nat} {T : List (List Int)} (hk : wk.heap.size ≤ cur.heap.size) (ho : OwnR wd cur.heap.size wd.heap.size (.slice A n c) T) (hb : Below wk.heap.size wk wd) (M : Int) (t : TypeId) :
    OwnR (wd.alloc (.cells #[.int .i64 M, .slice A n c] t)) wk.heap.size (wd.alloc (.cells #[.int .i64 M, .slice A n c] t)).heap.size (.slice A n c) T ∧ Box (wd.alloc (.cells #[.int .i64 M, .slice A n c] t)) wd.heap.size M A n c ∧ Below wk.heap.size wk (wd.alloc (.cells #[.int .i64 M, .slice A n c] t)) :=
  ⟨((ho.keep (below_one _ _)).low hk).more (below_one wd _).size, Box.newT _ _ _ _ _ _, below_alloc _ hb⟩
theorem startB2 (t t' : TypeId) (w : World) (m : Int) (A : Option Addr) (n c : Nat) (m' : Int) (A' : Option Addr) (n' c' : Nat) :
    ∃ W, (w.alloc (.cells #[.int .i64 m, .slice A n c] t)).alloc (.cells #[.int .i64 m', .slice A' n' c'] t') = W ∧ Box W w.heap.size m A n c ∧ Box W (w.heap.size + 1) m' A' n' c' ∧ Below w.heap.size w W := by
  refine ⟨_, rfl, (Box.newT t w m A n c).keep (below_one _ _), ?_, below_alloc _ (below_one _ _)⟩
  have := Box.newT t' (w.alloc (.cells #[.int .i64 m, .slice A n c] t)) m' A' n' c'
  simpa using this
theorem startB3 (t t' t'' : TypeId) (w : World) (m : Int) (A : Option Addr) (n c : Nat) (m' : Int) (A' : Option Addr) (n' c' : Nat) (m'' : Int) (A'' : Option Addr) (n'' c'' : Nat) :
    ∃ W, ((w.alloc (.cells #[.int .i64 m, .slice A n c] t)).alloc (.cells #[.int .i64 m', .slice A' n' c'] t')).alloc (.cells #[.int .i64 m'', .slice A'' n'' c''] t'') = W ∧ Box W w.heap.size m A n c ∧ Box W (w.heap.size + 1) m' A' n' c' ∧ Box W (w.heap.size + 1 + 1) m'' A'' n'' c'' ∧ Below w.heap.size w W := by
  obtain ⟨W0, h0, h1, h2, h3⟩ := startB2 t t' w m A n c m' A' n' c'
  have hs : W0.heap.size = w.heap.size + 1 + 1 := by rw [← h0]; simp
  rw [h0]
  refine ⟨_, rfl, h1.keep (below_one _ _), h2.keep (below_one _ _), ?_, below_alloc _ h3⟩
  rw [← hs]
  exact Box.newT _ _ _ _ _ _
theorem frth {p q r s : Prop} (h : p ∧ q ∧ r ∧ s) : s := h.2.2.2
theorem reg_end2 {wk cur wd : World} {p q : Prop} (hs : p ∧ q ∧ Below wk.heap.size wk cur) (hb : Below cur.heap.size cur wd) : Below wk.heap.size wk wd ∧ wk.heap.size ≤ cur.heap.size := reg_end hs hb
theorem reg_end3 {wk cur wd : World} {p q r : Prop} (hs : p ∧ q ∧ r ∧ Below wk.heap.size wk cur) (hb : Below cur.heap.size cur wd) : Below wk.heap.size wk wd ∧ wk.heap.size ≤ cur.heap.size :=
  ⟨below_step hs.2.2.2 hb, hs.2.2.2.size⟩
theorem box3_in {W w' : World} {g g' g'' : Nat} {m m' m'' : Int} {A A' A'' : Option Addr} {n c n' c' n'' c'' : Nat} (h : Box W g m A n c) (h' : Box W g' m' A' n' c') (h'' : Box W g'' m'' A'' n'' c'') (hb : Below W.heap.size W w') :
    (w'.cell? ⟨g, 0, none⟩ = some (.int .i64 m) ∧ w'.cell? ⟨g, 1, none⟩ = some (.slice A n c)) ∧ (w'.cell? ⟨g', 0, none⟩ = some (.int .i64 m') ∧ w'.cell? ⟨g', 1, none⟩ = some (.slice A' n' c')) ∧ (w'.cell? ⟨g'', 0, none⟩ = some (.int .i64 m'') ∧ w'.cell? ⟨g'', 1, none⟩ = some (.slice A'' n'' c'')) ∧ Below W.heap.size W w' :=
  ⟨box_in h hb, box_in h' hb, box_in h'' hb, hb⟩
theorem box3_alloc {W w : World} {g g' g'' : Nat} {m m' m'' : Int} {A A' A'' : Option Addr} {n c n' c' n'' c'' : Nat} {p q r : Prop} {o : Obj} (h : Box W g m A n c) (h' : Box W g' m' A' n' c') (h'' : Box W g'' m'' A'' n'' c'') (hs : p ∧ q ∧ r ∧ Below W.heap.size W w) :
    ((w.alloc o).cell? ⟨g, 0, none⟩ = some (.int .i64 m) ∧ (w.alloc o).cell? ⟨g, 1, none⟩ = some (.slice A n c)) ∧ ((w.alloc o).cell? ⟨g', 0, none⟩ = some (.int .i64 m') ∧ (w.alloc o).cell? ⟨g', 1, none⟩ = some (.slice A' n' c')) ∧ ((w.alloc o).cell? ⟨g'', 0, none⟩ = some (.int .i64 m'') ∧ (w.alloc o).cell? ⟨g'', 1, none⟩ = some (.slice A'' n'' c'')) ∧ Below W.heap.size W (w.alloc o) :=
  box3_in h h' h'' (below_alloc _ hs.2.2.2)
end Go.Proofs.Ytjgpdgoclianlaa
