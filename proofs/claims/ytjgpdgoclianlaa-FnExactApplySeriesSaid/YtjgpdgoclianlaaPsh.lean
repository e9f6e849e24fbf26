/- Appending a row that the call has made to a slice of slices of its own. -/
import Derived.Test.YtjgpdgoclianlaaRp
namespace Go.Proofs.Ytjgpdgoclianlaa
open Go.RowKit Go.WideShapes Go.ChangeShapes Go.ChangeAt

theorem made_from {b n c g : Nat} (h : (Value.slice (some ⟨b, 0, none⟩) n c).ownBlock = some g) : b ≤ g := by
  have : g = b := by simpa [Value.ownBlock] using h.symm
  omega
/-- what an append of one row leaves -/
theorem OwnR.pushed {w w' : World} {lo hi : Nat} {v v' u : Value} {rows : List (List Int)} {r : List Int} {vs : List Value} {o : Obj}
    (h1 : w.ownsRow lo 45 1 v rows.length vs)
    (h3 : ∀ (i : Nat) (r : List Int), rows[i]? = some r → ∃ u : Value, vs[i]? = some u ∧ OwnI w lo u r ∧ ∀ g, u.ownBlock = some g → g < hi)
    (h4 : ∀ (i j : Nat) (u u' : Value), i < j → vs[i]? = some u → vs[j]? = some u' → u.ownBlock = none ∨ u.ownBlock ≠ u'.ownBlock)
    (hhi : hi ≤ w.heap.size) (hu : OwnI w lo u r) (hub : ∀ g, u.ownBlock = some g → hi ≤ g)
    (g1 : w'.ownsRow lo 45 1 v' (rows.length + 1) (vs ++ [u])) (g2 : (w.alloc o).grownBy w' v.ownBlock) : OwnR w' lo w'.heap.size v' (rows ++ [r]) := by
  have hsz : w.heap.size + 1 ≤ w'.heap.size := by have := g2.size; simpa using this
  have hvsl : vs.length = rows.length := by have := h1.1; omega
  refine ⟨vs ++ [u], by rw [List.length_append]; exact g1, fun g hg => (World.ownsRow.lt g1 g hg).2, ?_, ?_⟩
  · intro i r' hr
    by_cases hi' : i < rows.length
    · rw [List.getElem?_append_left hi'] at hr
      obtain ⟨u', a1, a2, a3⟩ := h3 i r' hr
      have hk := a2.alloc o
      exact ⟨u', by rw [List.getElem?_append_left (by omega)]; exact a1, hk.other g2 (ne_types (h1.alloc o) hk), fun g hg => by have := a3 g hg; omega⟩
    · rw [List.getElem?_append_right (by omega)] at hr
      have hi2 : i = rows.length := by
        rcases Nat.eq_or_lt_of_le (Nat.le_of_not_lt hi') with e | e
        · exact e.symm
        · rw [show i - rows.length = (i - rows.length - 1) + 1 by omega] at hr; simp at hr
      subst hi2
      rw [Nat.sub_self] at hr
      simp at hr
      subst hr
      have hk := hu.alloc o
      exact ⟨u, by rw [← hvsl, List.getElem?_append_right (Nat.le_refl _), Nat.sub_self]; rfl, hk.other g2 (ne_types (h1.alloc o) hk), fun g hg => by have := (hu.lt g hg).2; omega⟩
  · intro i j x y hij hx hy
    by_cases hj : j < vs.length
    · rw [List.getElem?_append_left hj] at hy
      rw [List.getElem?_append_left (by omega)] at hx
      exact h4 i j x y hij hx hy
    · have hju : j = vs.length := by
        rw [List.getElem?_append_right (by omega)] at hy
        rcases Nat.eq_or_lt_of_le (Nat.le_of_not_lt hj) with e | e
        · exact e.symm
        · rw [show j - vs.length = (j - vs.length - 1) + 1 by omega] at hy; simp at hy
      subst hju
      rw [List.getElem?_append_right (Nat.le_refl _), Nat.sub_self] at hy
      simp at hy
      subst hy
      rw [List.getElem?_append_left hij] at hx
      obtain ⟨r', hr'⟩ : ∃ r', rows[i]? = some r' := ⟨_, List.getElem?_eq_getElem (by omega)⟩
      obtain ⟨u2, a1, _, a3⟩ := h3 i r' hr'
      rw [hx] at a1
      injection a1 with a1
      subst a1
      rcases hc : x.ownBlock with _ | g
      · exact .inl rfl
      · refine .inr fun e => ?_
        have p1 := a3 g hc
        have p2 := hub g e.symm
        omega

theorem wp_pushU {ops : Array Oper} {rest : List Oper} {o : Oper} {a : Act} {Q : Exit → Act → World → Prop} {w : World} (s x : Operand) (t : TypeId)
    (hgd : o.guard = none) (ho : o.op = .call { callee := .builtin .append, args := #[s, x], argTypes := #[t, t] })
    (ht : Try.prog.underlying t = some (.slice 45)) (lo hi : Nat) (v : Value) (rows : List (List Int)) (hs : a.eval s = v) (hown : OwnR w lo hi v rows) (hhi : hi ≤ w.heap.size)
    (u : Value) (r : List Int) (hu : OwnI w lo u r) (hub : ∀ g, u.ownBlock = some g → hi ≤ g) (G : Nat) (hG : w.heap.size = G) (hx : a.eval x = .slice (some ⟨G, 0, none⟩) 1 1) (hlen : rows.length ≤ 1000000000000) (hlo : lo ≤ w.heap.size)
    (h : ∀ v' w', OwnR w' lo w'.heap.size v' (rows ++ [r]) → Below lo w w' → wpList Try.prog ops Q rest (a.put o.dst v') w') :
    wpList Try.prog ops Q (o :: rest) a (w.alloc (.cells #[u] 45)) := by
  subst hG
  obtain ⟨i0, hi0, hz0, hz1, hz2⟩ := info_parts infoRow
  obtain ⟨vs, h1, h2, h3, h4⟩ := hown
  obtain ⟨Au, cu, hue, -⟩ := hu.form
  refine wpList_append_own _ hgd s x t ho lo 45 i0 (.slice none 0 0) 1 24 ht hi0 hz0 hz1 hz2 rfl (by decide) v rows.length vs hs (h1.alloc _)
    ⟨w.heap.size, 0, none⟩ 1 1 [u] hx rfl ?_ ?_ ?_ ?_ ?_ ?_
  · intro j u' hj
    match j, hj with
    | 0, hj => simp at hj; subst hj; simp [Addr.add]
  · intro u' hu'; simp at hu'; subst hu'; rw [hue]; rfl
  · unfold maxLen; omega
  · omega
  · simp; omega
  · intro v' w' g1 g2 _
    exact h v' w' (OwnR.pushed h1 h3 h4 hhi hu hub g1 g2) (((Below.refl lo w).alloc hlo _).grown g2 (by simp; omega) (fun k hk => (World.ownsRow.lt h1 k hk).1))

/-- the same at a step of a region that draws its order: the row's header lies in block g -/
theorem step_pushU {ops : Array Oper} {o : Oper} {a : Act} {K : Act → World → Prop} {Q : Exit → Act → World → Prop} {E : Prop} {w : World} (s x : Operand) (t : TypeId)
    (hgd : o.guard = none) (ho : o.op = .call { callee := .builtin .append, args := #[s, x], argTypes := #[t, t] })
    (ht : Try.prog.underlying t = some (.slice 45)) (lo hi : Nat) (v : Value) (rows : List (List Int)) (hs : a.eval s = v) (hown : OwnR w lo hi v rows) (hhi : hi ≤ w.heap.size)
    (u : Value) (r : List Int) (hu : OwnI w lo u r) (hub : ∀ g, u.ownBlock = some g → hi ≤ g) (g : Nat) (hx : a.eval x = .slice (some ⟨g, 0, none⟩) 1 1) (hy : w.cell? ⟨g, 0, none⟩ = some u) (hlen : rows.length ≤ 1000000000000) (hlo : lo ≤ w.heap.size)
    (h : ∀ v' w', OwnR w' lo w'.heap.size v' (rows ++ [r]) → Below lo w w' → K (a.put o.dst v') w') :
    if Region.wanted o (yielded ops a.tmps) = true then Oper.wp Try.prog o a w K Q else E := by
  have hw : Region.wanted o (yielded ops a.tmps) = true := by simp [Region.wanted, hgd]
  rw [if_pos hw]
  obtain ⟨i0, hi0, hz0, hz1, hz2⟩ := info_parts infoRow
  obtain ⟨vs, h1, h2, h3, h4⟩ := hown
  obtain ⟨Au, cu, hue, -⟩ := hu.form
  refine wp_append_own _ s x t ho lo 45 i0 (.slice none 0 0) 1 24 ht hi0 hz0 hz1 hz2 rfl (by decide) v rows.length vs hs h1
    ⟨g, 0, none⟩ 1 1 [u] hx rfl ?_ ?_ ?_ ?_ hlo ?_
  · intro j u' hj
    match j, hj with
    | 0, hj => simp at hj; subst hj; simp [Addr.add]; exact hy
  · intro u' hu'; simp at hu'; subst hu'; rw [hue]; rfl
  · unfold maxLen; omega
  · omega
  · intro v' w' g1 g2 _
    refine h v' w' ?_ ((Below.refl lo w).grown g2 hlo (fun k hk => (World.ownsRow.lt h1 k hk).1))
    have hsz := g2.size
    have hvsl : vs.length = rows.length := by have := h1.1; omega
    refine ⟨vs ++ [u], by rw [List.length_append]; exact g1, fun g hg => (World.ownsRow.lt g1 g hg).2, ?_, ?_⟩
    · intro i r' hr
      by_cases hi' : i < rows.length
      · rw [List.getElem?_append_left hi'] at hr
        obtain ⟨u', a1, a2, a3⟩ := h3 i r' hr
        exact ⟨u', by rw [List.getElem?_append_left (by omega)]; exact a1, a2.other g2 (ne_types h1 a2), fun g hg => by have := a3 g hg; omega⟩
      · rw [List.getElem?_append_right (by omega)] at hr
        have hi2 : i = rows.length := by
          rcases Nat.eq_or_lt_of_le (Nat.le_of_not_lt hi') with e | e
          · exact e.symm
          · rw [show i - rows.length = (i - rows.length - 1) + 1 by omega] at hr; simp at hr
        subst hi2
        rw [Nat.sub_self] at hr
        simp at hr
        subst hr
        exact ⟨u, by rw [← hvsl, List.getElem?_append_right (Nat.le_refl _), Nat.sub_self]; rfl, hu.other g2 (ne_types h1 hu), fun g hg => by have := (hu.lt g hg).2; omega⟩
    · intro i j x y hij hx hy
      by_cases hj : j < vs.length
      · rw [List.getElem?_append_left hj] at hy
        rw [List.getElem?_append_left (by omega)] at hx
        exact h4 i j x y hij hx hy
      · have hju : j = vs.length := by
          rw [List.getElem?_append_right (by omega)] at hy
          rcases Nat.eq_or_lt_of_le (Nat.le_of_not_lt hj) with e | e
          · exact e.symm
          · rw [show j - vs.length = (j - vs.length - 1) + 1 by omega] at hy; simp at hy
        subst hju
        rw [List.getElem?_append_right (Nat.le_refl _), Nat.sub_self] at hy
        simp at hy
        subst hy
        rw [List.getElem?_append_left hij] at hx
        obtain ⟨r', hr'⟩ : ∃ r', rows[i]? = some r' := ⟨_, List.getElem?_eq_getElem (by omega)⟩
        obtain ⟨u2, a1, _, a3⟩ := h3 i r' hr'
        rw [hx] at a1
        injection a1 with a1
        subst a1
        rcases hc : x.ownBlock with _ | g
        · exact .inl rfl
        · refine .inr fun e => ?_
          have p1 := a3 g hc
          have p2 := hub g e.symm
          omega
end Go.Proofs.Ytjgpdgoclianlaa
