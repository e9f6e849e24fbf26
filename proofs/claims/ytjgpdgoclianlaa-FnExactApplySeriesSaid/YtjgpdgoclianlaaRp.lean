/- Lists of lists of integers that are read, and those that a call makes itself, row by row. -/
import Derived.Test.YtjgpdgoclianlaaLol2
import Derived.Test.YtjgpdgoclianlaaPln
import Derived.Test.YtjgpdgoclianlaaSok
namespace Go.Proofs.Ytjgpdgoclianlaa
open Go.RowKit Go.WideShapes Go.ChangeShapes Go.ChangeAt

theorem OwnI.capP {w : World} {base n c : Nat} {A : Option Addr} {l : List Int} (h : OwnI w base (.slice A n c) l) : l.length ≤ c := by
  unfold OwnI at h
  rcases h.2 with ⟨hv, h0⟩ | ⟨g, cap, cur, hv, _, _, h1, _⟩
  · omega
  · injection hv with e1 e2 e3
    omega

/-- the slice of slices at A holds the rows -/
def RP (w : World) (A : Option Addr) (t : List (List Int)) : Prop :=
  t ≠ [] → ∃ b off, A = some ⟨b, off, none⟩ ∧ b < w.heap.size ∧ ∀ k, k < t.length → ∃ A' c', w.cell? ⟨b, off + k, none⟩ = some (.slice A' (Pl.rw' t k).length c') ∧ (Pl.rw' t k).length ≤ c' ∧ RI w A' (Pl.rw' t k)
theorem RP.below {w w' : World} {A : Option Addr} {t : List (List Int)} (h : RP w A t) (hb : Below w.heap.size w w') : RP w' A t := by
  intro hl
  obtain ⟨b, off, e, hlt, hc⟩ := h hl
  refine ⟨b, off, e, Nat.lt_of_lt_of_le hlt hb.size, fun k hk => ?_⟩
  obtain ⟨A', c', h1, h2, h3⟩ := hc k hk
  exact ⟨A', c', (hb.cell (p := ⟨b, off + k, none⟩) hlt).trans h1, h2, h3.below hb⟩
theorem RP.at {w : World} {A : Option Addr} {t : List (List Int)} (h : RP w A t) (k : Nat) (hk : k < t.length) :
    ∃ b off A' c', A = some ⟨b, off, none⟩ ∧ b < w.heap.size ∧ w.cell? ⟨b, off + k, none⟩ = some (.slice A' (Pl.rw' t k).length c') ∧ (Pl.rw' t k).length ≤ c' ∧ RI w A' (Pl.rw' t k) := by
  obtain ⟨b, off, e, hlt, hc⟩ := h (by rintro rfl; simp at hk)
  obtain ⟨A', c', h1, h2, h3⟩ := hc k hk
  exact ⟨b, off, A', c', e, hlt, h1, h2, h3⟩
/-- one number of it -/
theorem RP.num {w : World} {A : Option Addr} {t : List (List Int)} (h : RP w A t) (i j : Nat) (hi : i < t.length) (hj : j < (Pl.rw' t i).length) :
    ∃ b off b' off' c', A = some ⟨b, off, none⟩ ∧ b < w.heap.size ∧ w.cell? ⟨b, off + i, none⟩ = some (.slice (some ⟨b', off', none⟩) (Pl.rw' t i).length c') ∧ b' < w.heap.size ∧ w.cell? ⟨b', off' + j, none⟩ = some (.int .i64 (Pl.pc t i j)) := by
  obtain ⟨b, off, A', c', e, hlt, h1, _, h3⟩ := h.at i hi
  obtain ⟨b', off', rfl, h4, h5⟩ := h3.at j hj
  exact ⟨b, off, b', off', c', e, hlt, h1, h4, h5⟩
theorem OwnR.rp {w : World} {lo hi n c : Nat} {A : Option Addr} {t : List (List Int)} (h : OwnR w lo hi (.slice A n c) t) : RP w A t := by
  intro ht
  obtain ⟨A0, c0, e, hr⟩ := h.read
  injection e with e1 e2 e3
  subst e1
  obtain ⟨g, hA, hg, _, _, hrow⟩ := hr ht
  refine ⟨g, 0, hA, hg, fun k hk => ?_⟩
  obtain ⟨A', c', h1, h2, _⟩ := hrow k hk
  exact ⟨A', c', by rw [Nat.zero_add]; exact h1, h2.capP, h2.ri⟩
theorem OwnR.len {w : World} {lo hi : Nat} {v : Value} {t : List (List Int)} (h : OwnR w lo hi v t) : ∃ A c, v = .slice A t.length c ∧ RP w A t := by
  obtain ⟨A0, c0, rfl, hr⟩ := h.read
  exact ⟨A0, c0, rfl, h.rp⟩

theorem OwnR.low {w : World} {lo lo' hi : Nat} {v : Value} {t : List (List Int)} (h : OwnR w lo hi v t) (hh : lo' ≤ lo) : OwnR w lo' hi v t := by
  obtain ⟨vs, h1, h2, h3, h4⟩ := h
  refine ⟨vs, ⟨h1.1, ?_⟩, h2, fun i r hr => ?_, h4⟩
  · rcases h1.2 with hn | ⟨g, cap, cur, hv, hg, rest⟩
    · exact .inl hn
    · exact .inr ⟨g, cap, cur, hv, Nat.le_trans hh hg, rest⟩
  · obtain ⟨u, a, b, c⟩ := h3 i r hr
    exact ⟨u, a, b.more hh, c⟩
theorem OwnR.openv {w : World} {lo hi : Nat} {v : Value} {t : List (List Int)} (h : OwnR w lo hi v t) (ht : 0 < t.length) : ∃ g c, v = .slice (some ⟨g, 0, none⟩) t.length c := by
  obtain ⟨g, c, _, _, e, _⟩ := h.row 0 ht
  exact ⟨g, c, e⟩
/-- a new slice of empty slices -/
theorem OwnR.made (w : World) (n : Nat) (hn : n ≤ maxLen) : OwnR (w.alloc (.cells (madeCells #[Value.slice none 0 0] n) 45)) w.heap.size (w.heap.size + 1) (.slice (some ⟨w.heap.size, 0, none⟩) n n) (List.replicate n []) := by
  have key : ∀ (i : Nat) (u : Value), (List.replicate n (Value.slice none 0 0))[i]? = some u → u = Value.slice none 0 0 := by
    intro i u hu
    rw [List.getElem?_replicate] at hu
    split at hu <;> simp at hu
    exact hu.symm
  refine ⟨List.replicate n (Value.slice none 0 0), ?_, ?_, ?_, ?_⟩
  · rw [List.length_replicate]
    have := World.ownsRow_lit (base := w.heap.size) (e := 45) (size := 1) w (madeCells #[Value.slice none 0 0] n) n (Nat.le_refl _) hn (by rw [size_madeCells]; omega)
    rwa [toList_madeCells_one] at this
  · intro g hg
    have : g = w.heap.size := by simpa [Value.ownBlock] using hg.symm
    omega
  · intro i r hr
    rw [List.getElem?_replicate] at hr
    split at hr
    · rename_i hi
      injection hr with hr
      subst hr
      exact ⟨.slice none 0 0, by rw [List.getElem?_replicate, if_pos hi], OwnI.nil _ _, fun g hg => by simp [Value.ownBlock] at hg⟩
    · exact absurd hr (by simp)
  · intro i j u u' _ hu _
    left
    rw [key i u hu]; rfl
theorem OwnR.cell {w : World} {lo hi g n c : Nat} {t : List (List Int)} (h : OwnR w lo hi (.slice (some ⟨g, 0, none⟩) n c) t) (i : Nat) (hi' : i < t.length) :
    lo ≤ g ∧ g < hi ∧ g < w.heap.size ∧ w.frozen? ⟨g, i, none⟩ = false ∧ ∃ A' c', w.cell? ⟨g, i, none⟩ = some (.slice A' (Pl.rw' t i).length c') ∧ OwnI w lo (.slice A' (Pl.rw' t i).length c') (Pl.rw' t i) ∧
      (∀ b, (Value.slice A' (Pl.rw' t i).length c').ownBlock = some b → b < hi) ∧ (∀ vs : List Value, w.ownsRow lo 45 1 (.slice (some ⟨g, 0, none⟩) t.length c) t.length vs → vs[i]? = some (.slice A' (Pl.rw' t i).length c')) := by
  have hn : n = t.length := by
    obtain ⟨A0, c0, e, _⟩ := h.read
    injection e
  subst hn
  obtain ⟨g0, c0, A', c', e, hg, h1, h2, h3, h4⟩ := h.row i hi'
  injection e with e1 e2 e3
  injection e1 with e1
  injection e1 with e1
  subst e1 e3
  obtain ⟨vs, k1, k2, _⟩ := h
  exact ⟨(World.ownsRow.lt k1 g rfl).1, k2 g rfl, hg, World.ownsRow.frozenAt k1 i, A', c', h1, h3, h4, h2⟩
/-- a new row is stored -/
theorem OwnR.put {w : World} {lo hi hi' g n c : Nat} {t : List (List Int)} (h : OwnR w lo hi (.slice (some ⟨g, 0, none⟩) n c) t) (i : Nat) (hi1 : i < t.length) (u : Value) (r : List Int)
    (hu : OwnI w lo u r) (hb : ∀ b, u.ownBlock = some b → hi ≤ b ∧ b < hi') (hh : hi ≤ hi') : OwnR (w.setCell ⟨g, i, none⟩ u) lo hi' (.slice (some ⟨g, 0, none⟩) n c) (t.set i r) := by
  have hn : n = t.length := by
    obtain ⟨A0, c0, e, _⟩ := h.read
    injection e
  subst hn
  obtain ⟨vs, h1, h2, h3, h4⟩ := h
  have hl : vs.length = t.length := by have := h1.1; omega
  obtain ⟨k1, k2⟩ := World.ownsRow.stored h1 i u
  have keepI : ∀ (u0 : Value) (l : List Int), OwnI w lo u0 l → OwnI (w.setCell ⟨g, i, none⟩ u) lo u0 l := fun u0 l ho => ho.other (grown_setCell w g i u) (ne_types h1 ho)
  refine ⟨vs.set i u, by rw [List.length_set]; exact k1, fun b hb' => Nat.lt_of_lt_of_le (h2 b hb') hh, fun j r' hr => ?_, fun j k x y hjk hx hy => ?_⟩
  · rw [List.getElem?_set] at hr
    by_cases hij : i = j
    · subst hij
      rw [if_pos rfl, if_pos hi1] at hr
      injection hr with hr
      subst hr
      exact ⟨u, by rw [List.getElem?_set, if_pos rfl, if_pos (by omega)], keepI u r hu, fun b hb' => (hb b hb').2⟩
    · rw [if_neg hij] at hr
      obtain ⟨u1, a1, a2, a3⟩ := h3 j r' hr
      exact ⟨u1, by rw [List.getElem?_set, if_neg hij]; exact a1, keepI u1 r' a2, fun b hb' => Nat.lt_of_lt_of_le (a3 b hb') hh⟩
  · have hblk : ∀ (q : Nat) (z : Value), vs[q]? = some z → ∀ b, z.ownBlock = some b → b < hi := by
      intro q z hz b hb'
      have hq := (List.getElem?_eq_some_iff.1 hz).1
      obtain ⟨z', a1, _, a3⟩ := h3 q _ (List.getElem?_eq_getElem (show q < t.length by omega))
      rw [hz] at a1
      injection a1 with a1
      subst a1
      exact a3 b hb'
    rw [List.getElem?_set] at hx hy
    by_cases hij : i = j
    · subst hij
      rw [if_pos rfl, if_pos (by omega)] at hx
      injection hx with hx
      subst hx
      rw [if_neg (by omega)] at hy
      rcases hc : u.ownBlock with _ | b
      · exact .inl rfl
      · refine .inr fun e => ?_
        have p1 := (hb b hc).1
        have p2 := hblk k y hy b e.symm
        omega
    · rw [if_neg hij] at hx
      by_cases hik : i = k
      · subst hik
        rw [if_pos rfl, if_pos (by omega)] at hy
        injection hy with hy
        subst hy
        rcases hc : x.ownBlock with _ | b
        · exact .inl rfl
        · refine .inr fun e => ?_
          have p1 := (hb b e.symm).1
          have p2 := hblk j x hx b hc
          omega
      · rw [if_neg hik] at hy
        exact h4 j k x y hjk hx hy
/-- one number of row i is written -/
theorem OwnR.num {w : World} {lo hi n c : Nat} {g : Nat} {t : List (List Int)} (h : OwnR w lo hi (.slice (some ⟨g, 0, none⟩) n c) t) (i j : Nat) (hi1 : i < t.length) (hj : j < (Pl.rw' t i).length) :
    ∃ b c', w.cell? ⟨g, i, none⟩ = some (.slice (some ⟨b, 0, none⟩) (Pl.rw' t i).length c') ∧ lo ≤ b ∧ b < hi ∧ b < w.heap.size ∧ w.cell? ⟨b, j, none⟩ = some (.int .i64 (Pl.pc t i j)) ∧ w.frozen? ⟨b, j, none⟩ = false ∧
      ∀ y, OwnR (w.setCell ⟨b, j, none⟩ (.int .i64 y)) lo hi (.slice (some ⟨g, 0, none⟩) n c) (t.set i ((Pl.rw' t i).set j y)) := by
  have hn : n = t.length := by
    obtain ⟨A0, c0, e, _⟩ := h.read
    injection e
  subst hn
  obtain ⟨_, _, _, _, A', c', h1, h2, h3, h4⟩ := h.cell i hi1
  obtain ⟨b, cb, e⟩ := h2.openv (by intro e; rw [e] at hj; simp at hj)
  injection e with e1 e2 e3
  subst e1 e3
  obtain ⟨o1, o2, o3, o4⟩ := h2.cells
  refine ⟨b, c', h1, o1, h3 b rfl, o2, o3 j hj, o4 j, fun y => ?_⟩
  exact h.setRow i _ h4 hi1 (grown_setCell w b j (.int .i64 y)) (h2.set j y)

/-- the same in whatever world comes of this one by new blocks -/
theorem OwnR.numB {w : World} {lo hi n c : Nat} {g : Nat} {t : List (List Int)} (h : OwnR w lo hi (.slice (some ⟨g, 0, none⟩) n c) t) (i j L : Nat) (hi1 : i < t.length) (hL : (Pl.rw' t i).length = L) (hj : j < L) :
    ∃ b c', g < hi ∧ lo ≤ b ∧ b < hi ∧ b ≠ g ∧ ∀ W, Below hi w W → W.cell? ⟨g, i, none⟩ = some (.slice (some ⟨b, 0, none⟩) L c') ∧ W.cell? ⟨b, j, none⟩ = some (.int .i64 (Pl.pc t i j)) ∧ W.frozen? ⟨b, j, none⟩ = false ∧
      ∀ y, OwnR (W.setCell ⟨b, j, none⟩ (.int .i64 y)) lo hi (.slice (some ⟨g, 0, none⟩) n c) (t.set i ((Pl.rw' t i).set j y)) := by
  subst hL
  obtain ⟨b, c', k1, k2, k3, _⟩ := h.num i j hi1 hj
  have hg := (h.cell i hi1).2.1
  have hbg : b ≠ g := by
    rintro rfl
    obtain ⟨_, _, _, _, A', c2, p1, p2, _⟩ := h.cell i hi1
    rw [k1] at p1
    injection p1 with p1
    injection p1 with p1 p1b p1c
    subst p1
    obtain ⟨vs, q1, _⟩ := h
    rcases ne_types q1 p2 with e | e
    · simp [Value.ownBlock] at e
    · simp [Value.ownBlock] at e
  refine ⟨b, c', hg, k2, k3, hbg, fun W hb => ?_⟩
  obtain ⟨b', c'', l1, _, _, _, l2, l3, l4⟩ := (h.keep hb).num i j hi1 hj
  have e := (hb.cell (p := ⟨g, i, none⟩) hg).trans k1
  rw [l1] at e
  injection e with e
  injection e with e1 e2 e3
  injection e1 with e1
  injection e1 with e1
  subst e1 e3
  exact ⟨l1, l2, l3, l4⟩

/-- block g holds a variable of several cells -/
def VarC (t : TypeId) (w : World) (g : Nat) (cs : Array Value) : Prop := w.heap[g]? = some (.cells cs t (0, 0))
theorem VarC.new (t : TypeId) (w : World) (cs : Array Value) : VarC t (w.alloc (.cells cs t)) w.heap.size cs := heap_alloc_new w _
theorem VarC.lt {t : TypeId} {w : World} {g : Nat} {cs : Array Value} (h : VarC t w g cs) : g < w.heap.size := (Array.getElem?_eq_some_iff.1 h).1
theorem VarC.keep {t : TypeId} {w w' : World} {g : Nat} {cs : Array Value} (h : VarC t w g cs) (hb : Below w.heap.size w w') : VarC t w' g cs := (hb.block g h.lt).trans h
theorem VarC.other {t : TypeId} {w w' : World} {g : Nat} {cs : Array Value} {r : Option Nat} (h : VarC t w g cs) (hg : w.grownBy w' r) (hne : r ≠ some g) : VarC t w' g cs := (hg.block g h.lt (fun e => hne e.symm)).trans h
theorem VarC.far {t : TypeId} {w : World} {g : Nat} {cs : Array Value} (h : VarC t w g cs) (b i : Nat) (u : Value) (hne : b ≠ g) : VarC t (w.setCell ⟨b, i, none⟩ u) g cs :=
  (Below.heap_setCell w ⟨b, i, none⟩ u g (fun e => hne e.symm)).trans h
theorem VarC.cell {t : TypeId} {w : World} {g : Nat} {cs : Array Value} (h : VarC t w g cs) (k : Nat) (x : Value) (hk : cs[k]? = some x) : w.cell? ⟨g, k, none⟩ = some x := by
  unfold VarC at h
  simp [World.cell?, h, hk]
theorem VarC.fz {t : TypeId} {w : World} {g : Nat} {cs : Array Value} (h : VarC t w g cs) (k : Nat) : w.frozen? ⟨g, k, none⟩ = false := by
  unfold VarC at h
  simp [World.frozen?, h]
theorem VarC.set {t : TypeId} {w : World} {g : Nat} {cs : Array Value} (h : VarC t w g cs) (k : Nat) (u : Value) : VarC t (w.setCell ⟨g, k, none⟩ u) g (cs.setIfInBounds k u) := by
  unfold VarC at h ⊢
  simp [World.setCell, Array.getElem?_modify, h]
theorem VarC.drew {t : TypeId} {w : World} {g : Nat} {cs : Array Value} (h : VarC t w g cs) : VarC t w.drew g cs := h
end Go.Proofs.Ytjgpdgoclianlaa
