/- Lists of lists of integers that a call has made itself: appending a row, comparing, marking. -/
import Derived.Test.YtjgpdgoclianlaaSep
import Derived.Deep.RegionHeld3
namespace Go.Proofs.Ytjgpdgoclianlaa
open Go.RowKit Go.WideShapes Go.ChangeShapes Go.ChangeAt

theorem infoRow : (Try.prog.info? 45).map (fun i => (i.zero, i.size, i.bytes)) = some (some (.slice none 0 0), 1, 24) := by kernel_rfl

/-- v is a slice of slices of the call's own, all in blocks from lo on and below hi, no two in one block, that holds the rows -/
def OwnR (w : World) (lo hi : Nat) (v : Value) (rows : List (List Int)) : Prop :=
  ∃ vs : List Value, w.ownsRow lo 45 1 v rows.length vs ∧ (∀ g, v.ownBlock = some g → g < hi) ∧
    (∀ (i : Nat) (r : List Int), rows[i]? = some r → ∃ u : Value, vs[i]? = some u ∧ OwnI w lo u r ∧ ∀ g, u.ownBlock = some g → g < hi) ∧
    (∀ (i j : Nat) (u u' : Value), i < j → vs[i]? = some u → vs[j]? = some u' → u.ownBlock = none ∨ u.ownBlock ≠ u'.ownBlock)

theorem OwnR.nil (w : World) (lo hi : Nat) : OwnR w lo hi (.slice none 0 0) [] :=
  ⟨[], World.ownsRow_nil _ _ _ _, fun g hg => by simp [Value.ownBlock] at hg, fun i r h => by simp at h, fun i j u u' _ h => by simp at h⟩
theorem OwnR.none0 (w : World) : OwnR (w.alloc (.cells #[] 45)) w.heap.size (w.heap.size + 1) (.slice (some ⟨w.heap.size, 0, none⟩) 0 0) [] :=
  ⟨[], ⟨rfl, .inr ⟨w.heap.size, 0, #[], rfl, Nat.le_refl _, heap_alloc_new w _, Nat.le_refl _, Nat.zero_le _, rfl, rfl⟩⟩,
    fun g hg => by simp [Value.ownBlock] at hg; omega, fun i r h => by simp at h, fun i j u u' _ h => by simp at h⟩
theorem OwnR.keep {w w' : World} {lo hi : Nat} {v : Value} {rows : List (List Int)} (h : OwnR w lo hi v rows) (hb : Below hi w w') : OwnR w' lo hi v rows := by
  obtain ⟨vs, h1, h2, h3, h4⟩ := h
  refine ⟨vs, ⟨h1.1, ?_⟩, h2, fun i r hr => ?_, h4⟩
  · rcases h1.2 with hn | ⟨g, cap, cur, rfl, hg, hh, rest⟩
    · exact .inl hn
    · exact .inr ⟨g, cap, cur, rfl, hg, (hb.block g (h2 g rfl)).trans hh, rest⟩
  · obtain ⟨u, a, b, c⟩ := h3 i r hr
    exact ⟨u, a, b.below hb c, c⟩
theorem OwnR.more {w : World} {lo hi hi' : Nat} {v : Value} {rows : List (List Int)} (h : OwnR w lo hi v rows) (hh : hi ≤ hi') : OwnR w lo hi' v rows := by
  obtain ⟨vs, h1, h2, h3, h4⟩ := h
  exact ⟨vs, h1, fun g hg => Nat.lt_of_lt_of_le (h2 g hg) hh, fun i r hr => by
    obtain ⟨u, a, b, c⟩ := h3 i r hr
    exact ⟨u, a, b, fun g hg => Nat.lt_of_lt_of_le (c g hg) hh⟩, h4⟩
theorem ne_types {w : World} {lo lo' n : Nat} {v u : Value} {vs : List Value} {l : List Int} (hv : w.ownsRow lo 45 1 v n vs) (hu : OwnI w lo' u l) : u.ownBlock = none ∨ u.ownBlock ≠ v.ownBlock := by
  unfold OwnI at hu
  rcases hu.2 with ⟨rfl, _⟩ | ⟨g, cap, cur, rfl, _, hg, _⟩
  · exact .inl rfl
  · rcases hv.2 with ⟨rfl, _⟩ | ⟨g', cap', cur', rfl, _, hg', _⟩
    · exact .inr (by simp [Value.ownBlock])
    · refine .inr fun e => ?_
      obtain rfl : g = g' := by simpa [Value.ownBlock] using e
      rw [hg] at hg'
      injection hg' with e1
      injection e1 with _ e2
      exact absurd e2 (by decide)

/-- appending one row of two numbers, which has just been built -/
theorem wp_pushR {ops : Array Oper} {rest : List Oper} {o : Oper} {a : Act} {Q : Exit → Act → World → Prop} {w : World} (s x : Operand) (t : TypeId)
    (hgd : o.guard = none) (ho : o.op = .call { callee := .builtin .append, args := #[s, x], argTypes := #[t, t] })
    (ht : Try.prog.underlying t = some (.slice 45)) (lo : Nat) (v : Value) (rows : List (List Int)) (hs : a.eval s = v) (hown : OwnR w lo w.heap.size v rows)
    (p q : Int) (hx : a.eval x = .slice (some ⟨w.heap.size + 1, 0, none⟩) 1 1) (hlen : rows.length ≤ 1000000000000) (hlo : lo ≤ w.heap.size)
    (h : ∀ v' w', OwnR w' lo w'.heap.size v' (rows ++ [[p, q]]) → Below lo w w' → wpList Try.prog ops Q rest (a.put o.dst v') w') :
    wpList Try.prog ops Q (o :: rest) a ((w.alloc (.cells #[.int .i64 p, .int .i64 q] 2)).alloc (.cells #[.slice (some ⟨w.heap.size, 0, none⟩) 2 2] 45)) := by
  obtain ⟨i0, hi, hz0, hz1, hz2⟩ := info_parts infoRow
  obtain ⟨vs, h1, h2, h3, h4⟩ := hown
  have hW1 : (w.alloc (.cells #[.int .i64 p, .int .i64 q] 2)).heap.size = w.heap.size + 1 := by simp
  have hbel : Below w.heap.size w ((w.alloc (.cells #[.int .i64 p, .int .i64 q] 2)).alloc (.cells #[.slice (some ⟨w.heap.size, 0, none⟩) 2 2] 45)) :=
    ((Below.refl _ _).alloc (Nat.le_refl _) _).alloc (by simp) _
  have hnew : OwnI ((w.alloc (.cells #[.int .i64 p, .int .i64 q] 2)).alloc (.cells #[.slice (some ⟨w.heap.size, 0, none⟩) 2 2] 45)) lo (.slice (some ⟨w.heap.size, 0, none⟩) 2 2) [p, q] := by
    refine OwnI.alloc ?_ _
    exact ⟨rfl, .inr ⟨w.heap.size, 2, #[.int .i64 p, .int .i64 q], rfl, hlo, heap_alloc_new w _, Nat.le_refl _, by unfold maxLen; omega, rfl, rfl⟩⟩
  refine wpList_append_own _ hgd s x t ho lo 45 i0 (.slice none 0 0) 1 24 ht hi hz0 hz1 hz2 rfl (by decide) v rows.length vs hs ((h1.alloc _).alloc _)
    ⟨w.heap.size + 1, 0, none⟩ 1 1 [.slice (some ⟨w.heap.size, 0, none⟩) 2 2] hx rfl ?_ ?_ ?_ ?_ ?_ ?_
  · intro j u hj
    match j, hj with
    | 0, hj => simp at hj; subst hj; simp [Addr.add]
  · intro u hu; simp at hu; subst hu; rfl
  · unfold maxLen; omega
  · omega
  · simp; omega
  · intro v' w' g1 g2 _
    have hsz : w.heap.size + 2 ≤ w'.heap.size := by have := g2.size; simp at this; exact this
    have hvl := World.ownsRow.lt h1
    refine h v' w' ⟨vs ++ [.slice (some ⟨w.heap.size, 0, none⟩) 2 2], ?_, ?_, ?_, ?_⟩ ?_
    · rw [List.length_append]; exact g1
    · exact fun g hg => (World.ownsRow.lt g1 g hg).2
    · intro i r hr
      by_cases hi : i < rows.length
      · rw [List.getElem?_append_left hi] at hr
        obtain ⟨u, a1, a2, a3⟩ := h3 i r hr
        have hvs : i < vs.length := (List.getElem?_eq_some_iff.1 a1).1
        have hk := a2.keep hbel
        refine ⟨u, by rw [List.getElem?_append_left hvs]; exact a1, hk.other g2 (ne_types ((h1.alloc _).alloc _) hk), fun g hg => by have := a3 g hg; omega⟩
      · rw [List.getElem?_append_right (by omega)] at hr
        have hi2 : i = rows.length := by
          rcases Nat.eq_or_lt_of_le (Nat.le_of_not_lt hi) with e | e
          · exact e.symm
          · rw [show i - rows.length = (i - rows.length - 1) + 1 by omega] at hr; simp at hr
        subst hi2
        have hvsl : vs.length = rows.length := by have := h1.1; omega
        rw [Nat.sub_self] at hr
        simp at hr
        subst hr
        refine ⟨.slice (some ⟨w.heap.size, 0, none⟩) 2 2, by rw [← hvsl, List.getElem?_append_right (Nat.le_refl _), Nat.sub_self]; rfl, hnew.other g2 (.inr fun e => ?_), fun g hg => ?_⟩
        · have := hvl w.heap.size (by rw [← e]; rfl)
          omega
        · have : g = w.heap.size := by simpa [Value.ownBlock] using hg.symm
          omega
    · intro i j u u' hij hu hu'
      have hvsl : vs.length = rows.length := by have := h1.1; omega
      by_cases hj : j < vs.length
      · rw [List.getElem?_append_left hj] at hu'
        rw [List.getElem?_append_left (by omega)] at hu
        exact h4 i j u u' hij hu hu'
      · have hju : j = vs.length := by
          rw [List.getElem?_append_right (by omega)] at hu'
          rcases Nat.eq_or_lt_of_le (Nat.le_of_not_lt hj) with e | e
          · exact e.symm
          · rw [show j - vs.length = (j - vs.length - 1) + 1 by omega] at hu'; simp at hu'
        subst hju
        rw [List.getElem?_append_right (Nat.le_refl _), Nat.sub_self] at hu'
        simp at hu'
        subst hu'
        rw [List.getElem?_append_left hij] at hu
        obtain ⟨r, hr⟩ : ∃ r, rows[i]? = some r := ⟨_, List.getElem?_eq_getElem (by omega)⟩
        obtain ⟨u2, a1, _, a3⟩ := h3 i r hr
        rw [hu] at a1
        injection a1 with a1
        subst a1
        rcases hc : u.ownBlock with _ | g
        · exact .inl rfl
        · refine .inr fun e => ?_
          have := a3 g hc
          have : g = w.heap.size := by simpa [Value.ownBlock] using e
          omega
    · exact (hbel.mono hlo).grown g2 (by simp; omega) (fun k hk => (hvl k hk).1)

/-- reading a row -/
theorem OwnR.read {w : World} {lo hi : Nat} {v : Value} {rows : List (List Int)} (h : OwnR w lo hi v rows) :
    ∃ A c, v = .slice A rows.length c ∧ (rows ≠ [] → ∃ g, A = some ⟨g, 0, none⟩ ∧ g < w.heap.size ∧ g < hi ∧ lo ≤ g ∧ ∀ i, i < rows.length → ∃ A' c', w.cell? ⟨g, i, none⟩ = some (.slice A' (rows[i]?.getD []).length c') ∧ OwnI w lo (.slice A' (rows[i]?.getD []).length c') (rows[i]?.getD []) ∧ (∀ b, (Value.slice A' (rows[i]?.getD []).length c').ownBlock = some b → b < hi)) := by
  obtain ⟨vs, h1, h2, h3, h4⟩ := h
  rcases h1.2 with ⟨rfl, h0⟩ | ⟨g, cap, cur, rfl, hg, hh, rest⟩
  · obtain rfl : rows = [] := List.eq_nil_of_length_eq_zero h0
    exact ⟨none, 0, rfl, fun h => absurd rfl h⟩
  · refine ⟨_, _, rfl, fun _ => ⟨g, rfl, (Array.getElem?_eq_some_iff.1 hh).1, h2 g rfl, hg, fun i hi => ?_⟩⟩
    have hr : rows[i]? = some (rows[i]?.getD []) := by rw [List.getElem?_eq_getElem hi]; rfl
    obtain ⟨u, a1, a2, a3⟩ := h3 i _ hr
    have hc := World.ownsRow.cells h1 (g := g) rfl i u a1
    rw [add_plain, Nat.zero_add] at hc
    obtain ⟨A', c', rfl, _⟩ := a2.form
    exact ⟨A', c', hc, a2, a3⟩

end Go.Proofs.Ytjgpdgoclianlaa
