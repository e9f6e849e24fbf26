/- Contracts of the exact laws' helpers on lists of lists of integers. -/
import Derived.Test.YtjgpdgoclianlaaLol
namespace Go.Proofs.Ytjgpdgoclianlaa
open Go.RowKit Go.WideShapes Go.ChangeShapes Go.ChangeAt

set_option maxHeartbeats 1000000 in
theorem eqInt64S_q (A B : Option Addr) (c d : Nat) (l : List Int) (w : World) (hl : l.length ≤ 10485760) (ha : RI w A l) (hb : RI w B l) :
    Calls Try.prog 91 #[.slice A l.length c, .slice B l.length d] w fun e w' => e = .returned (.bool true) ∧ ∃ n, w' = w.drewN n := by
  go_enter Try.func91, Try.ntmps91
  go_wp2
  go_loopw [5] (fun i wr => ∃ j n : Nat, j ≤ l.length ∧ i = .int .i64 j ∧ wr = w.drewN n) (fun i _ => l.length - (intOf i).toNat)
  case atStart => exact ⟨0, 0, Nat.zero_le _, rfl, rfl⟩
  case round =>
    obtain ⟨j, n, hj, rfl, hw⟩ := hrel
    have HW := Lib.hid hw
    have hcell : ∀ p : Addr, wr.cell? p = w.cell? p := by intro p; rw [hw]; rfl
    clear hw
    by_cases hlt : j < l.length
    · obtain ⟨b, off, rfl, hb1, hc1⟩ := ha (by rintro rfl; simp at hlt)
      obtain ⟨b', off', rfl, hb2, hc2⟩ := hb (by rintro rfl; simp at hlt)
      have h1 := (hcell ⟨b, off + j, none⟩).trans (hc1 j hlt)
      have h2 := (hcell ⟨b', off' + j, none⟩).trans (hc2 j hlt)
      obtain ⟨x, hx⟩ : ∃ x, l[j]?.getD 0 = x := ⟨_, rfl⟩
      rw [hx] at h1 h2
      have j1 : (0 : Int) ≤ (j : Int) := by omega
      have j2 : (j : Int) < (l.length : Int) := by omega
      clear hx hc1 hc2 ha hb hcell
      go_wp2
      go_quiet (fail)
      go_wp2
      go_roundw
      case rel => exact ⟨j + 1, n + nq, by omega, by go_num, by rw [HW.out, World.drewN_drewN]⟩
      case measure => simp only [intOf]; omega
    · obtain rfl : j = l.length := by omega
      clear hcell
      go_wp2
      go_ret
      exact ⟨rfl, n, HW.out⟩

/-- blocks from lo on and below hi alone have been written -/
structure Span (lo hi : Nat) (w w' : World) : Prop where
  os : w'.os = w.os
  tape : w'.tape = w.tape
  output : w'.output = w.output
  size : w.heap.size ≤ w'.heap.size
  block : ∀ k, k < w.heap.size → (k < lo ∨ hi ≤ k) → w'.heap[k]? = w.heap[k]?
theorem Span.refl (lo hi : Nat) (w : World) : Span lo hi w w := ⟨rfl, rfl, rfl, Nat.le_refl _, fun _ _ _ => rfl⟩
theorem Span.trans {lo hi : Nat} {a b c : World} (h : Span lo hi a b) (k : Span lo hi b c) : Span lo hi a c :=
  ⟨k.os.trans h.os, k.tape.trans h.tape, k.output.trans h.output, Nat.le_trans h.size k.size, fun i hi hne => (k.block i (Nat.lt_of_lt_of_le hi h.size) hne).trans (h.block i hi hne)⟩
theorem Span.of_grown {lo hi : Nat} {w w' : World} {r : Option Nat} (h : w.grownBy w' r) (hr : ∀ g, r = some g → lo ≤ g ∧ g < hi) : Span lo hi w w' :=
  ⟨h.os, h.tape, h.output, h.size, fun k hk hne => h.block k hk (fun e => by have := hr k e.symm; omega)⟩
theorem Span.below {lo hi : Nat} {w w' : World} (h : Span lo hi w w') (hlo : lo ≤ w.heap.size) : Below lo w w' :=
  ⟨h.os, h.tape, h.output, h.size, fun k hk => h.block k (Nat.lt_of_lt_of_le hk hlo) (.inl hk)⟩
theorem OwnR.far {w w' : World} {lo hi lo' hi' : Nat} {v : Value} {rows : List (List Int)} (h : OwnR w lo hi v rows) (hs : Span lo' hi' w w') (hd : hi ≤ lo' ∨ hi' ≤ lo) : OwnR w' lo hi v rows := by
  obtain ⟨vs, h1, h2, h3, h4⟩ := h
  have hk : ∀ g, lo ≤ g → g < hi → g < w.heap.size → w'.heap[g]? = w.heap[g]? := fun g a b c => hs.block g c (by omega)
  refine ⟨vs, ⟨h1.1, ?_⟩, h2, fun i r hr => ?_, h4⟩
  · rcases h1.2 with hn | ⟨g, cap, cur, rfl, hg, hh, rest⟩
    · exact .inl hn
    · exact .inr ⟨g, cap, cur, rfl, hg, (hk g hg (h2 g rfl) (Array.getElem?_eq_some_iff.1 hh).1).trans hh, rest⟩
  · obtain ⟨u, a, b, c⟩ := h3 i r hr
    refine ⟨u, a, ?_, c⟩
    unfold OwnI at b ⊢
    refine ⟨b.1, ?_⟩
    rcases b.2 with hn | ⟨g, cap, cur, rfl, hg, hh, rest⟩
    · exact .inl hn
    · exact .inr ⟨g, cap, cur, rfl, hg, (hk g hg (c g rfl) (Array.getElem?_eq_some_iff.1 hh).1).trans hh, rest⟩
theorem OwnI.far {w w' : World} {lo lo' hi' : Nat} {v : Value} {l : List Int} (h : OwnI w lo v l) (hs : Span lo' hi' w w') (hd : ∀ g, v.ownBlock = some g → g < lo' ∨ hi' ≤ g) : OwnI w' lo v l := by
  unfold OwnI at h ⊢
  refine ⟨h.1, ?_⟩
  rcases h.2 with hn | ⟨g, cap, cur, rfl, hg, hh, rest⟩
  · exact .inl hn
  · exact .inr ⟨g, cap, cur, rfl, hg, (hs.block g (Array.getElem?_eq_some_iff.1 hh).1 (hd g rfl)).trans hh, rest⟩

/-- one row has been written -/
theorem OwnR.setRow {w w' : World} {lo hi : Nat} {v u : Value} {rows : List (List Int)} (h : OwnR w lo hi v rows) (i : Nat) (r' : List Int)
    (hcell : ∀ vs : List Value, w.ownsRow lo 45 1 v rows.length vs → vs[i]? = some u) (hlt' : i < rows.length)
    (hg : w.grownBy w' u.ownBlock) (hu' : OwnI w' lo u r') : OwnR w' lo hi v (rows.set i r') := by
  obtain ⟨vs, h1, h2, h3, h4⟩ := h
  have hvi := hcell vs h1
  obtain ⟨u0, a1, a2, a3⟩ := h3 i _ (List.getElem?_eq_getElem hlt')
  rw [hvi] at a1
  injection a1 with a1
  subst a1
  have hne := ne_types h1 a2
  refine ⟨vs, ?_, h2, fun j r hr => ?_, h4⟩
  · rw [List.length_set]
    refine World.ownsRow.kept h1 hg ?_
    rcases hc : v.ownBlock with _ | g
    · exact .inl rfl
    · refine .inr ?_
      rcases hne with e | e
      · rw [e]; simp
      · rw [← hc]; exact Ne.symm e
  · by_cases hij : i = j
    · subst hij
      rw [List.getElem?_set_self hlt'] at hr
      injection hr with hr
      subst hr
      exact ⟨u, hvi, hu', a3⟩
    · rw [List.getElem?_set_ne hij] at hr
      obtain ⟨u1, b1, b2, b3⟩ := h3 j r hr
      refine ⟨u1, b1, b2.other hg ?_, b3⟩
      rcases Nat.lt_or_ge i j with hlt | hge
      · rcases h4 i j u u1 hlt hvi b1 with e | e
        · rcases hc : u1.ownBlock with _ | g
          · exact .inl rfl
          · exact .inr (by rw [e]; simp)
        · exact .inr (Ne.symm e)
      · exact h4 j i u1 u (by omega) b1 hvi
theorem OwnR.row {w : World} {lo hi : Nat} {v : Value} {rows : List (List Int)} (h : OwnR w lo hi v rows) (i : Nat) (hi' : i < rows.length) :
    ∃ g c A' c', v = .slice (some ⟨g, 0, none⟩) rows.length c ∧ g < w.heap.size ∧ w.cell? ⟨g, i, none⟩ = some (.slice A' (rows[i]?.getD []).length c') ∧
      (∀ vs : List Value, w.ownsRow lo 45 1 v rows.length vs → vs[i]? = some (.slice A' (rows[i]?.getD []).length c')) ∧ OwnI w lo (.slice A' (rows[i]?.getD []).length c') (rows[i]?.getD []) ∧
      (∀ b, (Value.slice A' (rows[i]?.getD []).length c').ownBlock = some b → b < hi) := by
  obtain ⟨vs, h1, h2, h3, h4⟩ := h
  rcases h1.2 with ⟨rfl, h0⟩ | ⟨g, cap, cur, rfl, hg, hh, h5, h6, h7, h8⟩
  · omega
  · have hr : rows[i]? = some (rows[i]?.getD []) := by rw [List.getElem?_eq_getElem hi']; rfl
    obtain ⟨u, a1, a2, a3⟩ := h3 i _ hr
    have hc := World.ownsRow.cells h1 (g := g) rfl i u a1
    rw [add_plain, Nat.zero_add] at hc
    obtain ⟨A', c', rfl, _⟩ := a2.form
    refine ⟨g, cap, A', c', rfl, (Array.getElem?_eq_some_iff.1 hh).1, hc, fun ws hws => ?_, a2, a3⟩
    rcases hws.2 with ⟨hv, _⟩ | ⟨g', cap', cur', hv, _, hh', _, _, _, h8'⟩
    · cases hv
    · injection hv with e1 e2 e3
      injection e1 with e1
      injection e1 with e1
      subst e1
      rw [hh] at hh'
      injection hh' with hh'
      injection hh' with hh'
      subst hh'
      rw [← h8', h8]; exact a1

set_option maxHeartbeats 1000000 in
theorem eqInt64SS_any (v u : Value) (lo hi lo' hi' : Nat) (rows : List (List Int)) (w : World) (hl : rows.length ≤ 10485760) (hrl : ∀ i : Nat, (rows[i]?.getD []).length ≤ 10485760) (hv : OwnR w lo hi v rows) (hu : OwnR w lo' hi' u rows) :
    Calls Try.prog 59 #[v, u] w fun e w' => e = .returned (.bool true) ∧ Below w.heap.size w w' := by
  obtain ⟨A, c, rfl, -⟩ := hv.read
  obtain ⟨B, d, rfl, -⟩ := hu.read
  have HV := Lib.hid hv
  have HU := Lib.hid hu
  have HR := Lib.hid hrl
  clear hv hu hrl
  go_enter Try.func59, Try.ntmps59
  go_wp2
  go_loopw [5] (fun i wr => ∃ j : Nat, j ≤ rows.length ∧ i = .int .i64 j ∧ Below w.heap.size w wr) (fun i _ => rows.length - (intOf i).toNat)
  case atStart => exact ⟨0, Nat.zero_le _, rfl, Below.refl _ _⟩
  case round =>
    obtain ⟨j, hj, rfl, hbel⟩ := hrel
    have HB := Lib.hid hbel
    clear hbel
    by_cases hlt : j < rows.length
    · obtain ⟨g, c1, A1, d1, e1, g1, k1, -, o1, -⟩ := HV.out.row j hlt
      obtain ⟨g', c2, A2, d2, e2, g2, k2, -, o2, -⟩ := HU.out.row j hlt
      injection e1 with e1 e1b e1c
      clear e1b e1c
      injection e2 with e2 e2b e2c
      clear e2b e2c
      subst e1 e2
      have h1 := (HB.out.cell (p := ⟨g, j, none⟩) g1).trans k1
      have h2 := (HB.out.cell (p := ⟨g', j, none⟩) g2).trans k2
      have hrj := HR.out j
      obtain ⟨r, hr⟩ : ∃ r, rows[j]?.getD [] = r := ⟨_, rfl⟩
      rw [hr] at h1 h2 o1 o2 hrj
      have R1 := Lib.hid (o1.ri.below HB.out)
      have R2 := Lib.hid (o2.ri.below HB.out)
      have j1 : (0 : Int) ≤ (j : Int) := by omega
      have j2 : (j : Int) < (rows.length : Int) := by omega
      clear hr k1 k2 o1 o2
      go_wp2
      go_quiet ((go_at_call 91; exact Calls.quiet_of (eqInt64S_q _ _ _ _ r _ hrj R1.out R2.out)))
      go_wp2
      go_roundw
      case rel => exact ⟨j + 1, by omega, by go_num, below_drewN HB.out _⟩
      case measure => simp only [intOf]; omega
    · obtain rfl : j = rows.length := by omega
      go_wp2
      go_ret
      exact ⟨rfl, HB.out⟩

/-- rows of marks of given lengths, from k on -/
def mkR (k : Int) : List (List Int) → List (List Int)
  | [] => []
  | r :: t => marks k r.length :: mkR (k + r.length) t
/-- how many numbers there are in the rows -/
def tot : List (List Int) → Nat
  | [] => 0
  | r :: t => r.length + tot t
theorem tot_append : ∀ a b : List (List Int), tot (a ++ b) = tot a + tot b
  | [], b => by simp [tot]
  | r :: t, b => by rw [List.cons_append, tot, tot, tot_append t b]; omega
theorem mkR_append : ∀ (a b : List (List Int)) (k : Int), mkR k (a ++ b) = mkR k a ++ mkR (k + tot a) b
  | [], b, k => by simp [mkR, tot]
  | r :: t, b, k => by
    rw [List.cons_append, mkR, mkR, mkR_append t b, List.cons_append, tot]
    congr 3; omega
theorem mkR_length : ∀ (a : List (List Int)) (k : Int), (mkR k a).length = a.length
  | [], _ => rfl
  | r :: t, k => by rw [mkR, List.length_cons, mkR_length t, List.length_cons]
theorem take_succ_tot (rows : List (List Int)) (j : Nat) (h : j < rows.length) : tot (rows.take (j + 1)) = tot (rows.take j) + (rows[j]?.getD []).length := by
  rw [List.take_succ_eq_append_getElem h, tot_append, List.getElem?_eq_getElem h]
  simp [tot]
theorem tot_take_le (rows : List (List Int)) (j : Nat) : tot (rows.take j) ≤ tot rows := by
  conv => rhs; rw [← List.take_append_drop j rows]
  rw [tot_append]; omega
theorem mk_step (rows : List (List Int)) (k : Int) (j : Nat) (h : j < rows.length) :
    (mkR k (rows.take j) ++ rows.drop j).set j (marks (k + tot (rows.take j)) (rows[j]?.getD []).length) = mkR k (rows.take (j + 1)) ++ rows.drop (j + 1) := by
  have hl : (mkR k (rows.take j)).length = j := by rw [mkR_length, List.length_take]; omega
  have e : rows[j]?.getD [] = rows[j] := by rw [List.getElem?_eq_getElem h]; rfl
  rw [List.set_append_right _ _ (by omega), hl, Nat.sub_self, List.drop_eq_getElem_cons h, List.set_cons_zero, List.take_succ_eq_append_getElem h, mkR_append, List.append_assoc, e]
  rfl
theorem mk_get (rows : List (List Int)) (k : Int) (j : Nat) (h : j < rows.length) : (mkR k (rows.take j) ++ rows.drop j)[j]?.getD [] = rows[j]?.getD [] := by
  have hl : (mkR k (rows.take j)).length = j := by rw [mkR_length, List.length_take]; omega
  rw [List.getElem?_append_right (by omega), hl, Nat.sub_self, List.getElem?_drop, Nat.add_zero]
theorem mkR_get (rows : List (List Int)) (k : Int) (j : Nat) (h : j < rows.length) : (mkR k rows)[j]?.getD [] = marks (k + tot (rows.take j)) (rows[j]?.getD []).length := by
  have e : rows = rows.take j ++ rows[j] :: rows.drop (j + 1) := by rw [List.getElem_cons_drop, List.take_append_drop]
  have e2 : rows[j]?.getD [] = rows[j] := by rw [List.getElem?_eq_getElem h]; rfl
  have hl : (mkR k (rows.take j)).length = j := by rw [mkR_length, List.length_take]; omega
  rw [e2]
  conv => lhs; rw [e]
  rw [mkR_append, List.getElem?_append_right (by omega), hl, Nat.sub_self, mkR]
  rfl

set_option maxHeartbeats 1000000 in
theorem markInt64SS_any (v : Value) (lo hi : Nat) (rows : List (List Int)) (k : Int) (w : World) (hl : rows.length ≤ 10485760) (ht : tot rows ≤ 10485760) (hk : 0 ≤ k) (hk2 : k ≤ 500000000000) (hown : OwnR w lo hi v rows) :
    Calls Try.prog 66 #[v, .int .i64 k] w fun e w' => e = .returned (.int .i64 (k + tot rows)) ∧ OwnR w' lo hi v (mkR k rows) ∧ Span lo hi w w' := by
  obtain ⟨A, c, rfl, -⟩ := hown.read
  have HO := Lib.hid hown
  clear hown
  go_enter Try.func66, Try.ntmps66
  go_wp2
  go_loopw [5, 1] (fun i m wr => ∃ j : Nat, j ≤ rows.length ∧ i = .int .i64 j ∧ m = .int .i64 (k + tot (rows.take j)) ∧ OwnR wr lo hi (.slice A rows.length c) (mkR k (rows.take j) ++ rows.drop j) ∧ Span lo hi w wr) (fun i _ _ => rows.length - (intOf i).toNat)
  case atStart => exact ⟨0, Nat.zero_le _, rfl, by simp [tot], by simpa [mkR] using HO.out, Span.refl _ _ _⟩
  case round =>
    obtain ⟨j, hj, rfl, rfl, ho, hs⟩ := hrel
    have HJ := Lib.hid ho
    have HS := Lib.hid hs
    clear ho hs
    by_cases hlt : j < rows.length
    · obtain ⟨g, c1, A1, d1, e1, g1, k1, kk, o1, o2⟩ := HJ.out.row j (by rw [List.length_append, mkR_length, List.length_take, List.length_drop]; omega)
      injection e1 with e1 e1b e1c
      clear e1b e1c
      subst e1
      rw [mk_get _ _ _ hlt] at k1 kk o1 o2
      have hT := take_succ_tot rows j hlt
      have hT2 := tot_take_le rows (j + 1)
      have HMS := Lib.hid (mk_step rows k j hlt)
      obtain ⟨r, hr⟩ : ∃ r, rows[j]?.getD [] = r := ⟨_, rfl⟩
      obtain ⟨T, hTT⟩ : ∃ T, tot (rows.take j) = T := ⟨_, rfl⟩
      obtain ⟨T2, hTT2⟩ : ∃ T, tot (rows.take (j + 1)) = T := ⟨_, rfl⟩
      rw [hr] at k1 kk o1 o2 hT
      rw [hTT] at hT ⊢
      rw [hTT2] at hT hT2
      have HR := Lib.hid hr
      have HTT := Lib.hid hTT
      have HTT2 := Lib.hid hTT2
      have HT := Lib.hid hT
      have K := Lib.hid kk
      have O1 := Lib.hid o1
      have O2 := Lib.hid o2
      have b1 : r.length ≤ 10485760 := by omega
      have b2 : T ≤ 10485760 := by omega
      clear hr hTT hTT2 hT kk o1 o2
      go_wp2_with (go_at_call 92; refine (markInt64S_any _ _ r _ _ b1 (by omega) (by omega) O1.out).mono ?_; rintro e w2 ⟨rfl, ho2, hg2⟩)
      have HR2 := HJ.out.setRow j (marks (k + T) r.length) K.out (by rw [List.length_append, mkR_length, List.length_take, List.length_drop]; omega) hg2 ho2
      have hs2 : Span lo hi wr w2 := Span.of_grown hg2 (fun b hb => ⟨(O1.out.lt b hb).1, O2.out b hb⟩)
      have HMS' := HMS.out
      rw [HR.out, HTT.out] at HMS'
      rw [HMS'] at HR2
      have H1 := Lib.hid HR2
      have H2 := Lib.hid hs2
      clear HR2 hs2 ho2 hg2 HMS'
      go_wp2
      go_roundw
      case rel => exact ⟨j + 1, by omega, by go_num, by have := HT.out; rw [HTT2.out, this]; congr 1; push_cast; omega, H1.out, HS.out.trans H2.out⟩
      case measure => simp only [intOf]; omega
    · obtain rfl : j = rows.length := by omega
      have hfin := HJ.out
      rw [List.drop_length, List.append_nil, List.take_length] at hfin
      have HF := Lib.hid hfin
      clear hfin
      rw [List.take_length]
      go_wp2
      go_ret
      exact ⟨rfl, HF.out, HS.out⟩

set_option maxHeartbeats 1000000 in
theorem heldInt64SS_any (v : Value) (lo hi : Nat) (rows : List (List Int)) (k : Int) (w : World) (hl : rows.length ≤ 10485760) (ht : tot rows ≤ 10485760) (hk : 0 ≤ k) (hk2 : k ≤ 500000000000) (hown : OwnR w lo hi v (mkR k rows)) :
    Calls Try.prog 67 #[v, .int .i64 k] w fun e w' => e = .returned (.int .i64 (k + tot rows)) ∧ w = w' := by
  obtain ⟨A, c, rfl, -⟩ := hown.read
  rw [mkR_length]
  have HO := Lib.hid hown
  clear hown
  go_enter Try.func67, Try.ntmps67
  go_wp2
  go_loop [5, 1] (fun i m => ∃ j : Nat, j ≤ rows.length ∧ i = .int .i64 j ∧ m = .int .i64 (k + tot (rows.take j))) (fun i _ => rows.length - (intOf i).toNat)
  case atStart => exact ⟨0, Nat.zero_le _, rfl, by simp [tot]⟩
  case round =>
    obtain ⟨j, hj, rfl, rfl⟩ := hrel
    by_cases hlt : j < rows.length
    · obtain ⟨g, c1, A1, d1, e1, g1, k1, -, o1, -⟩ := HO.out.row j (by rw [mkR_length]; exact hlt)
      injection e1 with e1 e1b e1c
      clear e1b e1c
      subst e1
      rw [mkR_get _ _ _ hlt, marks_length] at k1 o1
      have hT := take_succ_tot rows j hlt
      have hT2 := tot_take_le rows (j + 1)
      obtain ⟨n, hr⟩ : ∃ n, (rows[j]?.getD []).length = n := ⟨_, rfl⟩
      obtain ⟨T, hTT⟩ : ∃ T, tot (rows.take j) = T := ⟨_, rfl⟩
      obtain ⟨T2, hTT2⟩ : ∃ T, tot (rows.take (j + 1)) = T := ⟨_, rfl⟩
      rw [hr] at k1 o1 hT
      rw [hTT] at hT o1 ⊢
      rw [hTT2] at hT hT2
      have HTT2 := Lib.hid hTT2
      have HT := Lib.hid hT
      have O1 := Lib.hid o1.ri
      have b1 : n ≤ 10485760 := by omega
      have b2 : T ≤ 10485760 := by omega
      clear hr hTT hTT2 hT o1
      go_wp2_with (go_at_call 93; refine (heldInt64S_any _ _ n _ _ b1 (by omega) (by omega) O1.out).mono ?_; rintro e w2 ⟨rfl, rfl⟩)
      go_round
      case rel => exact ⟨j + 1, by omega, by go_num, by have := HT.out; rw [HTT2.out, this]; congr 1; push_cast; omega⟩
      case measure => simp only [intOf]; omega
    · obtain rfl : j = rows.length := by omega
      rw [List.take_length]
      go_wp2
      go_ret
      exact ⟨rfl, rfl⟩

end Go.Proofs.Ytjgpdgoclianlaa
