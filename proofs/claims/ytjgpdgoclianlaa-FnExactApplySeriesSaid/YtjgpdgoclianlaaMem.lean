/- Contracts of the exact laws' helpers on lists of integers: copying, comparing, marking, looking whether the marks still stand. -/
import Derived.Test.YtjgpdgoclianlaaOwn
import Derived.Deep.OwnRows
import Derived.Deep.QuietTactic
import Derived.BigQuiet
namespace Go.Proofs.Ytjgpdgoclianlaa
open Go.RowKit Go.WideShapes Go.ChangeShapes Go.ChangeAt

/-- the slice at A, wherever it begins, holds the integers of l -/
def RA (w : World) (A : Option Addr) (l : List Int) : Prop :=
  l ≠ [] → ∃ ad : Addr, A = some ad ∧ ad.block < w.heap.size ∧ ∀ k, k < l.length → w.cell? (ad.add k) = some (.int .i64 (l[k]?.getD 0))
theorem add_block (a : Addr) (n : Nat) : (a.add n).block = a.block := by unfold Addr.add; split <;> rfl
theorem add_plain (g o k : Nat) : (⟨g, o, none⟩ : Addr).add k = ⟨g, o + k, none⟩ := by unfold Addr.add; split <;> simp_all
theorem RI.ra {w : World} {A : Option Addr} {l : List Int} (h : RI w A l) : RA w A l := by
  intro hl
  obtain ⟨b, off, e, hlt, hc⟩ := h hl
  exact ⟨_, e, hlt, fun k hk => by rw [add_plain]; exact hc k hk⟩
theorem RA.below {w w' : World} {A : Option Addr} {l : List Int} (h : RA w A l) (hb : Below w.heap.size w w') : RA w' A l := by
  intro hl
  obtain ⟨ad, e, hlt, hc⟩ := h hl
  exact ⟨ad, e, Nat.lt_of_lt_of_le hlt hb.size, fun k hk => (hb.cell (p := ad.add k) (by rw [add_block]; exact hlt)).trans (hc k hk)⟩

theorem OwnI.made (w : World) (n : Nat) (hn : n ≤ maxLen) : OwnI (w.alloc (.cells (madeCells #[.int .i64 0] n) 2)) w.heap.size (.slice (some ⟨w.heap.size, 0, none⟩) n n) (List.replicate n 0) := by
  unfold OwnI
  rw [List.length_replicate]
  refine ⟨by simp, .inr ⟨w.heap.size, n, _, rfl, Nat.le_refl _, heap_alloc_new w _, Nat.le_refl _, hn, by rw [size_madeCells]; omega, ?_⟩⟩
  rw [toList_madeCells_one]; simp
theorem OwnI.cells {w : World} {base g n c : Nat} {l : List Int} (h : OwnI w base (.slice (some ⟨g, 0, none⟩) n c) l) :
    base ≤ g ∧ g < w.heap.size ∧ (∀ i, i < l.length → w.cell? ⟨g, i, none⟩ = some (.int .i64 (l[i]?.getD 0))) ∧ (∀ i, w.frozen? ⟨g, i, none⟩ = false) := by
  have hlt := h.lt g rfl
  unfold OwnI at h
  refine ⟨hlt.1, hlt.2, fun i hi => ?_, fun i => ?_⟩
  · have hc := World.ownsRow.cells h (g := g) rfl i (.int .i64 (l[i]?.getD 0)) (by rw [List.getElem?_map, List.getElem?_eq_getElem hi]; rfl)
    rw [add_plain, Nat.zero_add] at hc
    exact hc
  · rcases h.2 with ⟨hv, _⟩ | ⟨g', cap, cur, hv, _, hg, _⟩
    · cases hv
    · obtain rfl : g = g' := by injection hv with h1; injection h1 with h1; injection h1
      simp [World.frozen?, hg]
theorem OwnI.openv {w : World} {base : Nat} {v : Value} {l : List Int} (h : OwnI w base v l) (hl : l ≠ []) : ∃ g c, v = .slice (some ⟨g, 0, none⟩) l.length c := by
  unfold OwnI at h
  rcases h.2 with ⟨_, h0⟩ | ⟨g, cap, cur, rfl, _⟩
  · exact absurd (List.eq_nil_of_length_eq_zero h0) hl
  · exact ⟨g, cap, rfl⟩
theorem OwnI.set {w : World} {base g n c : Nat} {l : List Int} (h : OwnI w base (.slice (some ⟨g, 0, none⟩) n c) l) (i : Nat) (y : Int) :
    OwnI (w.setCell ⟨g, i, none⟩ (.int .i64 y)) base (.slice (some ⟨g, 0, none⟩) n c) (l.set i y) := by
  unfold OwnI at h ⊢
  rw [List.length_set]
  refine ⟨by simp, .inr ?_⟩
  rcases h.2 with ⟨hv, _⟩ | ⟨g', cap, cur, hv, hb, hg, h1, h2, h3, h4⟩
  · cases hv
  · have e0 := hv
    injection hv with h5 h6 h7
    injection h5 with h5
    injection h5 with h5
    subst h5 h7
    refine ⟨g, c, cur.setIfInBounds i (.int .i64 y), e0, hb, ?_, h1, h2, by simpa using h3, ?_⟩
    · simp [World.setCell, Array.getElem?_modify, hg]
    · rw [Array.toList_setIfInBounds, List.take_set, h4, List.map_set]
theorem grown_setCell (w : World) (g i : Nat) (u : Value) : w.grownBy (w.setCell ⟨g, i, none⟩ u) (some g) :=
  ⟨rfl, rfl, rfl, by simp [World.setCell], fun k _ hne => Below.heap_setCell w ⟨g, i, none⟩ u k (fun e => hne (by rw [e]))⟩
theorem grown_refl (w : World) (r : Option Nat) : w.grownBy w r := ⟨rfl, rfl, rfl, Nat.le_refl _, fun _ _ _ => rfl⟩
theorem grown_trans {a b c : World} {r : Option Nat} (h : a.grownBy b r) (k : b.grownBy c r) : a.grownBy c r :=
  ⟨k.os.trans h.os, k.tape.trans h.tape, k.output.trans h.output, Nat.le_trans h.size k.size, fun i hi hne => (k.block i (Nat.lt_of_lt_of_le hi h.size) hne).trans (h.block i hi hne)⟩
theorem OwnI.other {w w' : World} {base : Nat} {v : Value} {l : List Int} {r : Option Nat} (h : OwnI w base v l) (hg : w.grownBy w' r) (hne : v.ownBlock = none ∨ v.ownBlock ≠ r) : OwnI w' base v l :=
  World.ownsRow.kept h hg hne

theorem fill_step (l : List Int) (k n : Nat) (hk : k < l.length) (hn : k < n) (y : Int) (hy : l[k]?.getD 0 = y) : (l.take k ++ List.replicate (n - k) 0).set k y = l.take (k + 1) ++ List.replicate (n - (k + 1)) 0 := by
  have e : n - k = (n - (k + 1)) + 1 := by omega
  have e2 : l[k] = y := by rw [← hy, List.getElem?_eq_getElem hk]; rfl
  rw [List.set_append_right _ _ (by simp; omega), e, List.replicate_succ, List.length_take, Nat.min_eq_left (by omega), Nat.sub_self, List.set_cons_zero, List.take_succ_eq_append_getElem hk, e2, List.append_assoc]
  rfl

set_option maxHeartbeats 1000000 in
theorem toInt64S_any (A : Option Addr) (c : Nat) (l : List Int) (w : World) (hl : l.length ≤ 1048576) (hr : RA w A l) :
    Calls Try.prog 87 #[.slice A l.length c] w fun e w' => ∃ v, e = .returned v ∧ OwnI w' w.heap.size v l ∧ Below w.heap.size w w' := by
  have hmk := fun W => run_make_row' (P := Try.prog) 45 2 (.int .i64 0) 8 Try.underlying45 info64 rfl .i64 .i64 l.length (by omega) (by omega) W
  go_enter Try.func87, Try.ntmps87
  go_wp2
  go_loopw [4] (fun i wr => ∃ k : Nat, k ≤ l.length ∧ i = .int .i64 k ∧ OwnI wr w.heap.size (.slice (some ⟨w.heap.size, 0, none⟩) l.length l.length) (l.take k ++ List.replicate (l.length - k) 0) ∧ Below w.heap.size w wr) (fun i _ => l.length - (intOf i).toNat)
  case atStart => exact ⟨0, Nat.zero_le _, rfl, by simpa using OwnI.made w l.length (by unfold maxLen; omega), (Below.refl _ _).alloc (Nat.le_refl _) _⟩
  case round =>
    obtain ⟨k, hk, rfl, hown, hbel⟩ := hrel
    have HB := Lib.hid hbel
    have HO := Lib.hid hown
    clear hown hbel
    by_cases hlt : k < l.length
    · obtain ⟨ad, rfl, hb, hc⟩ := hr (by rintro rfl; simp at hlt)
      have hck := (HB.out.cell (p := ad.add k) (by rw [add_block]; exact hb)).trans (hc k hlt)
      obtain ⟨_, _, o3, o4⟩ := HO.out.cells
      have hd := o3 k (by simp; omega)
      have hf := o4 k
      obtain ⟨x, hx⟩ : ∃ x, l[k]?.getD 0 = x := ⟨_, rfl⟩
      rw [hx] at hck
      obtain ⟨y, hy⟩ : ∃ y, (l.take k ++ List.replicate (l.length - k) 0)[k]?.getD 0 = y := ⟨_, rfl⟩
      rw [hy] at hd
      have HX := Lib.hid hx
      clear hx hy hc o3 o4 hr
      have hgk := HO.out.set k x
      rw [fill_step l k l.length hlt hlt x HX.out] at hgk
      have HK := Lib.hid hgk
      clear hgk
      go_wp2
      go_roundw
      case rel => exact ⟨k + 1, by omega, by go_num, HK.out, HB.out.setCell (Nat.le_refl _) _⟩
      case measure => simp only [intOf]; omega
    · obtain rfl : k = l.length := by omega
      have hfin := HO.out
      rw [Nat.sub_self, List.replicate_zero, List.append_nil, List.take_length] at hfin
      have HFin := Lib.hid hfin
      clear hfin
      go_wp2
      go_ret
      exact ⟨_, rfl, HFin.out, HB.out⟩

/-- n marks from k on -/
def marks (k : Int) (n : Nat) : List Int := (List.range n).map fun i => k + (i : Nat)
theorem marks_length (k : Int) (n : Nat) : (marks k n).length = n := by simp [marks]
theorem marks_get (k : Int) (n i : Nat) (h : i < n) : (marks k n)[i]?.getD 0 = k + (i : Nat) := by simp [marks, h]
theorem marks_succ (k : Int) (n : Nat) : marks k (n + 1) = marks k n ++ [k + (n : Nat)] := by simp [marks, List.range_succ]
theorem marks_step (l : List Int) (k : Int) (j : Nat) (h : j < l.length) : (marks k j ++ l.drop j).set j (k + (j : Nat)) = marks k (j + 1) ++ l.drop (j + 1) := by
  rw [List.set_append_right _ _ (by rw [marks_length]; exact Nat.le_refl _), marks_length, Nat.sub_self, List.drop_eq_getElem_cons h, List.set_cons_zero, marks_succ, List.append_assoc]
  rfl

set_option maxHeartbeats 1000000 in
theorem markInt64S_any (v : Value) (base : Nat) (l : List Int) (k : Int) (w : World) (hl : l.length ≤ 10485760) (hk : 0 ≤ k) (hk2 : k ≤ 1000000000000) (hown : OwnI w base v l) :
    Calls Try.prog 92 #[v, .int .i64 k] w fun e w' => e = .returned (.int .i64 (k + l.length)) ∧ OwnI w' base v (marks k l.length) ∧ w.grownBy w' v.ownBlock := by
  by_cases hnil : l = []
  · subst hnil
    have HO := Lib.hid hown
    obtain ⟨A, c, rfl, _⟩ := hown.form
    clear hown
    go_enter Try.func92, Try.ntmps92
    go_wp2
    refine wp_loop_rounds 1 ?_
    rw [rounds_succ]
    go_wp2
    go_ret
    exact ⟨ret_int (by simp), HO.out, grown_refl _ _⟩
  · obtain ⟨g, c, rfl⟩ := hown.openv hnil
    have HO := Lib.hid hown
    clear hown
    go_enter Try.func92, Try.ntmps92
    go_wp2
    go_loopw [5, 1] (fun i m wr => ∃ j : Nat, j ≤ l.length ∧ i = .int .i64 j ∧ m = .int .i64 (k + j) ∧ OwnI wr base (.slice (some ⟨g, 0, none⟩) l.length c) (marks k j ++ l.drop j) ∧ w.grownBy wr (some g)) (fun i _ _ => l.length - (intOf i).toNat)
    case atStart => exact ⟨0, Nat.zero_le _, rfl, by simp, HO.out, grown_refl _ _⟩
    case round =>
      obtain ⟨j, hj, rfl, rfl, ho, hg⟩ := hrel
      have HG := Lib.hid hg
      have HJ := Lib.hid ho
      clear ho hg
      by_cases hlt : j < l.length
      · obtain ⟨_, _, o3, o4⟩ := HJ.out.cells
        have hd := o3 j (by simp [marks_length]; omega)
        have hf := o4 j
        obtain ⟨y, hy⟩ : ∃ y, (marks k j ++ l.drop j)[j]?.getD 0 = y := ⟨_, rfl⟩
        rw [hy] at hd
        have hset := HJ.out.set j (k + (j : Nat))
        rw [marks_step l k j hlt] at hset
        have HS := Lib.hid hset
        clear hy o3 o4 hset
        go_wp2
        go_roundw
        case rel => exact ⟨j + 1, by omega, by go_num, by rw [show k + ((j + 1 : Nat) : Int) = k + j + 1 by omega], HS.out, grown_trans HG.out (grown_setCell _ _ _ _)⟩
        case measure => simp only [intOf]; omega
      · obtain rfl : j = l.length := by omega
        have hfin := HJ.out
        rw [List.drop_length, List.append_nil] at hfin
        have HFin := Lib.hid hfin
        clear hfin
        go_wp2
        go_ret
        exact ⟨rfl, HFin.out, HG.out⟩

set_option maxHeartbeats 1000000 in
theorem heldInt64S_any (A : Option Addr) (c n : Nat) (k : Int) (w : World) (hl : n ≤ 10485760) (hk : 0 ≤ k) (hk2 : k ≤ 1000000000000) (hr : RI w A (marks k n)) :
    Calls Try.prog 93 #[.slice A n c, .int .i64 k] w fun e w' => e = .returned (.int .i64 (k + n)) ∧ w = w' := by
  go_enter Try.func93, Try.ntmps93
  go_wp2
  go_loop [5, 1] (fun i m => ∃ j : Nat, j ≤ n ∧ i = .int .i64 j ∧ m = .int .i64 (k + j)) (fun i _ => n - (intOf i).toNat)
  case atStart => exact ⟨0, Nat.zero_le _, rfl, by simp⟩
  case round =>
    obtain ⟨j, hj, rfl, rfl⟩ := hrel
    by_cases hlt : j < n
    · obtain ⟨b, off, rfl, hb, hc⟩ := hr (by intro h; have := congrArg List.length h; rw [marks_length] at this; simp at this; omega)
      have hck := hc j (by rw [marks_length]; exact hlt)
      rw [marks_get _ _ _ hlt] at hck
      clear hc hr
      go_wp2
      go_round
      case rel => exact ⟨j + 1, by omega, by go_num, by rw [show k + ((j + 1 : Nat) : Int) = k + j + 1 by omega]⟩
      case measure => simp only [intOf]; omega
    · obtain rfl : j = n := by omega
      go_wp2
      go_ret
      exact ⟨rfl, rfl⟩

set_option maxHeartbeats 1000000 in
theorem eqInt64S_any (A B : Option Addr) (c d : Nat) (l : List Int) (w : World) (hl : l.length ≤ 10485760) (ha : RI w A l) (hb : RI w B l) :
    Calls Try.prog 91 #[.slice A l.length c, .slice B l.length d] w fun e w' => e = .returned (.bool true) ∧ Below w.heap.size w w' := by
  go_enter Try.func91, Try.ntmps91
  go_wp2
  go_loopw [5] (fun i wr => ∃ j : Nat, j ≤ l.length ∧ i = .int .i64 j ∧ Below w.heap.size w wr) (fun i _ => l.length - (intOf i).toNat)
  case atStart => exact ⟨0, Nat.zero_le _, rfl, Below.refl _ _⟩
  case round =>
    obtain ⟨j, hj, rfl, hbel⟩ := hrel
    have HB := Lib.hid hbel
    clear hbel
    by_cases hlt : j < l.length
    · obtain ⟨b, off, rfl, hb1, hc1⟩ := ha (by rintro rfl; simp at hlt)
      obtain ⟨b', off', rfl, hb2, hc2⟩ := hb (by rintro rfl; simp at hlt)
      have h1 := (HB.out.cell (p := ⟨b, off + j, none⟩) hb1).trans (hc1 j hlt)
      have h2 := (HB.out.cell (p := ⟨b', off' + j, none⟩) hb2).trans (hc2 j hlt)
      obtain ⟨x, hx⟩ : ∃ x, l[j]?.getD 0 = x := ⟨_, rfl⟩
      rw [hx] at h1 h2
      have j1 : (0 : Int) ≤ (j : Int) := by omega
      have j2 : (j : Int) < (l.length : Int) := by omega
      clear hx hc1 hc2 ha hb
      go_wp2
      go_quiet (fail)
      go_wp2
      go_roundw
      case rel => exact ⟨j + 1, by omega, by go_num, below_drewN HB.out _⟩
      case measure => simp only [intOf]; omega
    · obtain rfl : j = l.length := by omega
      go_wp2
      go_ret
      exact ⟨rfl, HB.out⟩

end Go.Proofs.Ytjgpdgoclianlaa
