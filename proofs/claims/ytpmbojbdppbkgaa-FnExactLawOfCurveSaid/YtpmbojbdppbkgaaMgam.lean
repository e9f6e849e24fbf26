/- Texts of contracts, joined. -/
import Derived.Test.YtpmbojbdppbkgaaMgaa
import Derived.Laws.CopyOwn
import Derived.Test.YtpmbojbdppbkgaaMgab
import Derived.Test.YtpmbojbdppbkgaaMgal
/- Contracts of CutSeries, of the program and of the model. -/
namespace Go.Proofs.Ytpmbojbdppbkgaa
open Go.RowKit Go.WideShapes Go.ChangeShapes Go.ChangeAt

def cutM (m : Int) (l : List Int) (k : Int) : Int × List Int × Int :=
  if isS m l = true then (if inB k 1 ((l.length : Int) - 1) = true then (m, l.take (k.toNat + 1), 0) else (0, [], 2)) else (0, [], 1)
theorem cutM_len (m : Int) (l : List Int) (k : Int) : (cutM m l k).2.1.length ≤ 1048576 := by
  unfold cutM
  split
  · rename_i h
    obtain ⟨d, e, s⟩ := serOk_of h
    have := s.d2
    split
    · dsimp only; rw [List.length_take]; omega
    · simp
  · simp
theorem RI.take {w : World} {A : Option Addr} {l : List Int} (h : RI w A l) (n : Nat) : RI w A (l.take n) := by
  intro hl
  have hl2 : l ≠ [] := by rintro rfl; simp at hl
  obtain ⟨b, off, e, hlt, hc⟩ := h hl2
  refine ⟨b, off, e, hlt, fun k hk => ?_⟩
  rw [List.length_take] at hk
  rw [hc k (by omega), List.getElem?_take_of_lt (by omega)]

theorem OwnI.cap {w : World} {base : Nat} {A : Option Addr} {n c : Nat} {l : List Int} (h : OwnI w base (.slice A n c) l) : l.length ≤ c := by
  unfold OwnI at h
  rcases h.2 with ⟨hv, h0⟩ | ⟨g, cap, cur, hv, _, _, h1, _⟩
  · omega
  · injection hv with _ _ e
    subst e
    exact h1
theorem RI.news {w : World} {A : Option Addr} {l : List Int} (h : RI w A l) (hl : l ≠ []) : ∃ b off, A = some ⟨b, off, none⟩ ∧ ∀ j u, (l.map (Value.int .i64))[j]? = some u → w.cell? ((⟨b, off, none⟩ : Addr).add j) = some u := by
  obtain ⟨b, off, e, hlt, hc⟩ := h hl
  refine ⟨b, off, e, fun j u hj => ?_⟩
  rw [List.getElem?_map] at hj
  by_cases hjl : j < l.length
  · rw [List.getElem?_eq_getElem hjl] at hj
    simp only [Option.map_some, Option.some.injEq] at hj
    subst hj
    rw [add_plain, hc j hjl, List.getElem?_eq_getElem hjl]; rfl
  · rw [List.getElem?_eq_none (by omega)] at hj
    simp at hj
theorem cells1 (l : List Int) : ∀ v ∈ l.map (Value.int .i64), v.oneCell' = true := by
  intro v hv
  obtain ⟨x, _, rfl⟩ := List.mem_map.1 hv
  rfl

end Go.Proofs.Ytpmbojbdppbkgaa

/- Contracts of RowOfPlane, of the program and of the model. -/
namespace Go.Proofs.Ytpmbojbdppbkgaa
open Go.RowKit Go.WideShapes Go.ChangeShapes Go.ChangeAt

theorem kp3_call {w w' : World} {a1 a2 a3 : Addr} {x y z : Value} (hb : Below w.heap.size w w') (hs : w.cell? a1 = some x ∧ w.cell? a2 = some y ∧ w.cell? a3 = some z) : w'.cell? a1 = some x ∧ w'.cell? a2 = some y ∧ w'.cell? a3 = some z :=
  ⟨(hb.cell (World.block_lt_of_cell? w a1 hs.1)).trans hs.1, (hb.cell (World.block_lt_of_cell? w a2 hs.2.1)).trans hs.2.1, (hb.cell (World.block_lt_of_cell? w a3 hs.2.2)).trans hs.2.2⟩
theorem kp3_store2 {w : World} {a1 a2 a3 : Addr} {g : Nat} {x y z u v : Value} (h1 : a1.block ≠ g) (h2 : a2.block ≠ g) (h3 : a3.block ≠ g) (hs : w.cell? a1 = some x ∧ w.cell? a2 = some y ∧ w.cell? a3 = some z) :
    ((w.setCell ⟨g, 0, none⟩ u).setCell ⟨g, 1, none⟩ v).cell? a1 = some x ∧ ((w.setCell ⟨g, 0, none⟩ u).setCell ⟨g, 1, none⟩ v).cell? a2 = some y ∧ ((w.setCell ⟨g, 0, none⟩ u).setCell ⟨g, 1, none⟩ v).cell? a3 = some z := by
  have k : ∀ (a : Addr), a.block ≠ g → ((w.setCell ⟨g, 0, none⟩ u).setCell ⟨g, 1, none⟩ v).heap[a.block]? = w.heap[a.block]? := fun a ha => (Below.heap_setCell _ _ _ _ ha).trans (Below.heap_setCell _ _ _ _ ha)
  exact ⟨(World.cell?_of_block (w := w) (k a1 h1)).trans hs.1, (World.cell?_of_block (w := w) (k a2 h2)).trans hs.2.1, (World.cell?_of_block (w := w) (k a3 h3)).trans hs.2.2⟩
/-- the model of RowOfPlane -/
def rowP (m : Int) (t : List (List Int)) (i : Int) : Int × List Int × Int :=
  if isP m t = true then (if inB i 0 ((t.length : Int) - 1 - 1) = true then (m, Pl.rw' t i.toNat, 0) else (0, [], 2)) else (0, [], 1)
theorem rowP_len (m : Int) (t : List (List Int)) (i : Int) : (rowP m t i).2.1.length ≤ 1048576 := by
  unfold rowP
  by_cases h : isP m t = true
  · rw [if_pos h]
    obtain ⟨d, e, ok⟩ := plOk_of h
    by_cases hi : inB i 0 ((t.length : Int) - 1 - 1) = true
    · rw [if_pos hi]
      have := (inB_iff _ _ _).1 hi
      have := ok.row i.toNat (by omega)
      have := ok.d2
      dsimp only
      omega
    · rw [if_neg hi]; exact Nat.zero_le _
  · rw [if_neg h]; exact Nat.zero_le _
theorem spro1S (w : World) (m : Int) (A : Option Addr) (n c : Nat) : ∃ W, (w.alloc (.cells #[.int .i64 m, .slice A n c] 31)).alloc (.cells #[.int .i64 0, .slice none 0 0] 28) = W ∧
    Box W w.heap.size m A n c ∧ VarC 28 W (w.heap.size + 1) #[.int .i64 0, .slice none 0 0] ∧ Below w.heap.size w W := by
  refine ⟨_, rfl, (Box.newT _ _ _ _ _ _).keep (below_one _ _), ?_, below_alloc _ (below_one _ _)⟩
  have := VarC.new 28 (w.alloc (.cells #[.int .i64 m, .slice A n c] 31)) #[.int .i64 0, .slice none 0 0]
  simpa using this
end Go.Proofs.Ytpmbojbdppbkgaa

/- Contracts of DifferentialOf, of the program and of the model. -/
namespace Go.Proofs.Ytpmbojbdppbkgaa
open Go.RowKit Go.WideShapes Go.ChangeShapes Go.ChangeAt

theorem field_degK (a b : Value) (W : World) : (Instr.field 64 (.agg #[a, b]) 1).run Try.prog W = .ok b W := by kernel_rfl
set_option maxHeartbeats 4000000 in
set_option maxRecDepth 100000 in
theorem differential_any (m : Int) (d : Nat) (A : Option Addr) (c : Nat) (t : List (List Int)) (w : World) (hs : Pl.Ok m d t) (hd : 2 ≤ d) (hr : RP w A t) :
    Calls Try.prog 87 #[.agg #[.int .i64 m, .int .i64 d, .slice A t.length c]] w fun e w' => ∃ v, e = .returned (.agg #[.int .i64 m, v]) ∧ OwnI w' w.heap.size v (dffL m t) ∧ Below w.heap.size w w' := by
  obtain ⟨W, hW, b1, v2, hwb⟩ := pro_lawS w m d A t.length c
  have B1 := Lib.hid b1
  have V2 := Lib.hid v2
  have HB := Lib.hid hwb
  have HW := Lib.hid hW
  have m1 := hs.m1
  have hln := hs.len
  obtain ⟨b, off, A', c', rfl, hb, hcell, -, hri⟩ := hr.at 1 (by omega)
  have hc1 := (hwb.cell (p := ⟨b, off + 1, none⟩) hb).trans hcell
  have HI := Lib.hid (fun W0 (h : Below W.heap.size W W0) => inverse_any m (d - 1) A' c' (Pl.rw' t 1) 1 W0 (hs.ser1 hd) ((hri.below hwb).below h) (by omega) (by omega))
  obtain ⟨R, hR⟩ : ∃ R, dffL m t = R := ⟨_, rfl⟩
  rw [show Ser.invC m 1 (Ser.co (Pl.rw' t 1)) (d - 1) = R by rw [← hR, dffL, hln]; rfl] at HI
  rw [hR]
  obtain ⟨L1, hL1⟩ : ∃ L, (Pl.rw' t 1).length = L := ⟨_, rfl⟩
  rw [hL1] at HI hc1
  have z0 : (1 : Int) < (t.length : Int) := by omega
  have z1 : 1 < t.length := by omega
  obtain ⟨L, hL⟩ : ∃ L, t.length = L := ⟨_, rfl⟩
  rw [hL] at HW B1 z0 z1 ⊢
  have hsz : w.heap.size + 1 < W.heap.size := v2.lt
  obtain ⟨x1, x2, x3, x4⟩ := b1
  rw [hL] at x3
  have HF := Lib.hid (fun w' (h : Below (w.heap.size + 1) W w') => (⟨(h.cell (p := ⟨w.heap.size, 0, none⟩) (by simp)).trans x1, (h.cell (p := ⟨w.heap.size, 2, none⟩) (by simp)).trans x3, (h.cell (p := ⟨b, off + 1, none⟩) (by simp; omega)).trans hc1⟩ :
    w'.cell? ⟨w.heap.size, 0, none⟩ = some (.int .i64 m) ∧ w'.cell? ⟨w.heap.size, 2, none⟩ = some (.slice (some ⟨b, off, none⟩) L c) ∧ w'.cell? ⟨b, off + 1, none⟩ = some (.slice A' L1 c')))
  have X0 := Lib.hid (keepW HF.out (below_less (by omega) (below_drew0 W)))
  clear v2 hwb hW hr hs hR hL1 hL hcell hri x1 x2 x3 x4 hc1 hln hd
  go_enter Try.func87, Try.ntmps87
  go_wp2
  rw [HW.out]
  go_region_held3 (fun w' => (w'.cell? ⟨w.heap.size, 0, none⟩ = some (.int .i64 m) ∧ w'.cell? ⟨w.heap.size, 2, none⟩ = some (.slice (some ⟨b, off, none⟩) L c) ∧ w'.cell? ⟨b, off + 1, none⟩ = some (.slice A' L1 c')) ∧ Below (w.heap.size + 1) W w') (first | exact X0.out | exact keep2 HF.out (by omega) _ _ (by assumption) | exact keepS HF.out (by omega) (by assumption) hb2) (first
    | (go_at_call 137; refine (HI.out _ (below_drew0 _)).mono ?_; rintro e2 w2 ⟨s, rfl, ho, hb2⟩; obtain ⟨A2, c2, rfl, -⟩ := ho.form; have hv := V2.out.keep (below_step (below_drew0 W) hb2); obtain ⟨q0, q1, q2, q3⟩ := hv.tells2))
  all_goals
    have hw3 := below_step (below_drew0 W) hb2
    obtain ⟨f0, f1, f2, f3⟩ := fin_serC (w := w) hv ho (show w.heap.size + 1 < W.drew.heap.size from hsz) (by omega) (below_step HB.out hw3) (.int .i64 m) (.slice A2 R.length c2)
    have F2 := Lib.hid (OwnI.more (b' := w.heap.size) f2 (show w.heap.size ≤ W.heap.size by omega))
    have F3 := Lib.hid f3
    clear f2 f3 ho hb2 hv hw3
    go_wp2
    exact bodyPost_ret (v := .agg #[.int .i64 m, .slice A2 R.length c2]) (by simp [results, Try.results87, go_sem, f0, f1]) rfl ⟨_, rfl, F2.out, F3.out⟩
set_option maxHeartbeats 4000000 in
set_option maxRecDepth 100000 in
theorem DifferentialOf_any (m : Int) (A : Option Addr) (c : Nat) (t : List (List Int)) (w : World) (hz : szT t ≤ 1048576) (hr : RP w A t) :
    Calls Try.prog 40 #[.agg #[.int .i64 m, .slice A t.length c]] w fun e w' => ∃ s, e = .returned (.tuple #[.agg #[.int .i64 (difM m t).1, s], .int .i64 (difM m t).2.2]) ∧ OwnI w' w.heap.size s (difM m t).2.1 ∧ Below w.heap.size w w' := by
  obtain ⟨W, hW, b1, v3, b4, hwb⟩ := pro1S w m A t.length c
  have B1 := Lib.hid b1
  have V3 := Lib.hid v3
  have HB := Lib.hid hwb
  have HW := Lib.hid hW
  have hc := codeL1_any (w.heap.size + 1 + 1) m A c t W hz (hr.below hwb) b4
  unfold codeL1 at hc
  by_cases h0 : isL m t = true
  · rw [if_pos h0] at hc
    have HC0 := Lib.hid hc
    obtain ⟨-, d, e1, ok, hf⟩ := isL_of h0
    have hd2 := ok.d2
    have hd1 := ok.d1
    have HG := Lib.hid (fun W0 => gridOf_nat m A t.length c d W0 e1 (by omega))
    have hfd := field_frame
    have hfd2 := field_degK
    obtain ⟨D, hD⟩ : ∃ D : Int, D = (d : Int) := ⟨_, rfl⟩
    rw [← hD] at HG
    by_cases hd : d = 1
    · have HA : Hid (difM m t = (0, [], 5)) := Lib.hid (by unfold difM; rw [if_pos h0, if_pos (by omega)])
      rw [HA.out]
      have n1 : (D == 1) = true := by rw [hD, hd]; rfl
      obtain ⟨L, hL⟩ : ∃ L, t.length = L := ⟨_, rfl⟩
      rw [hL] at HG HW B1 ⊢
      clear b1 v3 b4 hwb hW hr hc h0 ok hf e1 hz hL HA hD hd
      go_enter Try.func40, Try.ntmps40
      go_wp2_with fail
      rw [HW.out]
      refine HC0.out.mono ?_
      rintro e w1 ⟨rfl, hb1⟩
      obtain ⟨x1, x2, x3⟩ := B1.out.keep hb1
      go_wp2_with fail
      refine (HG.out _).mono ?_
      rintro e w2 ⟨rfl, hb2⟩
      clear x1 x2 x3
      have hbb := below_step hb1 hb2
      clear hb1 hb2
      have hv := V3.out.keep (hbb)
      obtain ⟨q0, q1, q2, q3⟩ := hv.tells2
      obtain ⟨f0, f1, f2, f3⟩ := fin_serC (w := w) hv (OwnI.nil _ (w.heap.size + 1 + 1)) (by omega) (by omega) (below_step HB.out (hbb)) (.int .i64 0) (.slice none 0 0)
      have F2 := Lib.hid (OwnI.more (b' := w.heap.size) f2 (by omega))
      have F3 := Lib.hid f3
      clear f2 f3 hv
      go_wp2
      exact bodyPost_ret (v := .tuple #[.agg #[.int .i64 0, .slice none 0 0], .int .i64 (5)]) (by simp [results, Try.results40, go_sem, f0, f1]) rfl ⟨_, rfl, F2.out, F3.out⟩
    · have HA : Hid (difM m t = (m, dffL m t, 0)) := Lib.hid (by unfold difM; rw [if_pos h0, if_neg (by omega)])
      rw [HA.out]
      have HLO := Lib.hid (fun W0 => lawOf_nat m A t.length c d W0 e1 (by omega))
      have HI := Lib.hid (fun W0 (h : Below W.heap.size W W0) => differential_any m d A c t W0 ok (by omega) ((hr.below hwb).below h))
      obtain ⟨T, hT⟩ : ∃ T, dffL m t = T := ⟨_, rfl⟩
      rw [hT] at HI ⊢
      obtain ⟨L, hL⟩ : ∃ L, t.length = L := ⟨_, rfl⟩
      rw [hL] at HG HLO HI HW B1 ⊢
      have hDn : ¬ D = 1 := by omega
      have n1 : (D == 1) = false := by simpa using hDn
      rw [← hD] at HLO HI
      clear b1 v3 b4 hwb hW hr hc h0 ok hf e1 hz hT hL HA hD hd hDn
      go_enter Try.func40, Try.ntmps40
      go_wp2_with fail
      rw [HW.out]
      refine HC0.out.mono ?_
      rintro e w1 ⟨rfl, hb1⟩
      obtain ⟨x1, x2, x3⟩ := B1.out.keep hb1
      go_wp2_with fail
      refine (HG.out _).mono ?_
      rintro e w2 ⟨rfl, hb2⟩
      clear x1 x2 x3
      have hb12 := below_step hb1 hb2
      obtain ⟨x1, x2, x3⟩ := B1.out.keep hb12
      go_wp2_with fail
      refine (HLO.out _).mono ?_
      rintro e w3 ⟨rfl, hb3⟩
      clear x1 x2 x3
      have hb13 := below_step hb12 hb3
      go_wp2_with fail
      refine (HI.out _ hb13).mono ?_
      rintro e w4 ⟨s, rfl, ho, hb4⟩
      obtain ⟨A2, c2, rfl, -⟩ := ho.form
      have hb := below_step hb13 hb4
      have hv := V3.out.keep hb
      obtain ⟨q0, q1, q2, q3⟩ := hv.tells2
      have hsz := hb13.size
      have hz2 := V3.out.lt
      obtain ⟨f0, f1, f2, f3⟩ := fin_serC (w := w) hv ho (by omega) (by omega) (below_step HB.out hb) (.int .i64 m) (.slice A2 T.length c2)
      have F2 := Lib.hid (OwnI.more (b' := w.heap.size) f2 (by omega))
      have F3 := Lib.hid f3
      clear f2 f3 hv ho hb hb1 hb2 hb3 hb4 hb12 hb13
      go_wp2
      exact bodyPost_ret (v := .tuple #[.agg #[.int .i64 m, .slice A2 T.length c2], .int .i64 0]) (by simp [results, Try.results40, go_sem, f0, f1]) rfl ⟨_, rfl, F2.out, F3.out⟩
  · rw [if_neg h0] at hc
    have HC0 := Lib.hid hc
    have HA : Hid (difM m t = (0, [], 1)) := Lib.hid (by unfold difM; rw [if_neg h0])
    rw [HA.out]
    clear b1 v3 b4 hwb hW hr hc h0 hz
    go_enter Try.func40, Try.ntmps40
    go_wp2_with fail
    rw [HW.out]
    refine HC0.out.mono ?_
    rintro e w1 ⟨rfl, hb1⟩
    have hv := V3.out.keep (hb1)
    obtain ⟨q0, q1, q2, q3⟩ := hv.tells2
    obtain ⟨f0, f1, f2, f3⟩ := fin_serC (w := w) hv (OwnI.nil _ (w.heap.size + 1 + 1)) (by omega) (by omega) (below_step HB.out (hb1)) (.int .i64 0) (.slice none 0 0)
    have F2 := Lib.hid (OwnI.more (b' := w.heap.size) f2 (by omega))
    have F3 := Lib.hid f3
    clear f2 f3 hv
    go_wp2
    exact bodyPost_ret (v := .tuple #[.agg #[.int .i64 0, .slice none 0 0], .int .i64 (1)]) (by simp [results, Try.results40, go_sem, f0, f1]) rfl ⟨_, rfl, F2.out, F3.out⟩
set_option maxHeartbeats 4000000 in
set_option maxRecDepth 100000 in
theorem l05Differential_any (m : Int) (d : Nat) (A : Option Addr) (c : Nat) (t : List (List Int)) (w : World) (hs : Pl.Ok m d t) (hf : Pl.fau m d (Pl.pc t) = none) (hd : 2 ≤ d) (hr : RP w A t) :
    Calls Try.prog 85 #[.agg #[.int .i64 m, .slice A t.length c]] w fun e w' => ∃ v, e = .returned v ∧ OwnI w' w.heap.size v (dffL m t) ∧ Below w.heap.size w w' := by
  obtain ⟨W, hW, b1, hwb⟩ := start1 31 w m A t.length c
  have B1 := Lib.hid b1
  have HB := Lib.hid hwb
  have HW := Lib.hid hW
  have m1 := hs.m1
  have hln := hs.len
  obtain ⟨b, off, A', c', rfl, hb, hcell, -, hri⟩ := hr.at 1 (by omega)
  have hc1 := (hwb.cell (p := ⟨b, off + 1, none⟩) hb).trans hcell
  have HI := Lib.hid (fun W0 (h : Below W.heap.size W W0) => l02Inverse_any m (d - 1) A' c' (Pl.rw' t 1) W0 (hs.ser1 hd) ((hri.below hwb).below h))
  obtain ⟨R, hR⟩ : ∃ R, dffL m t = R := ⟨_, rfl⟩
  rw [row1_one hs hf, eg_one m1, show Ser.invC m 1 (Ser.co (Pl.rw' t 1)) (d - 1) = R by rw [← hR, dffL, hln]; rfl] at HI
  rw [hR]
  obtain ⟨L1, hL1⟩ : ∃ L, (Pl.rw' t 1).length = L := ⟨_, rfl⟩
  rw [hL1] at HI hc1
  have z0 : (1 : Int) < (t.length : Int) := by omega
  have z1 : 1 < t.length := by omega
  obtain ⟨L, hL⟩ : ∃ L, t.length = L := ⟨_, rfl⟩
  rw [hL] at HW B1 z0 z1 ⊢
  obtain ⟨E, hE⟩ : ∃ E : Int, E = ((d - 1 : Nat) : Int) := ⟨_, rfl⟩
  rw [← hE] at HI
  have hLb : L ≤ 11 := by have := hs.d2; omega
  have hLE : IntKind.i64.wrap ((L : Int) - 2) = E := by rw [IntKind.wrap_i64]; omega
  have hsz : w.heap.size < W.heap.size := b1.2.2
  obtain ⟨x1, x2, -⟩ := b1
  rw [hL] at x2
  have HF := Lib.hid (fun w' (h : Below (w.heap.size + 1) W w') => (⟨(h.cell (p := ⟨w.heap.size, 0, none⟩) (by simp)).trans x1, (h.cell (p := ⟨w.heap.size, 1, none⟩) (by simp)).trans x2, (h.cell (p := ⟨b, off + 1, none⟩) (by simp; omega)).trans hc1⟩ :
    w'.cell? ⟨w.heap.size, 0, none⟩ = some (.int .i64 m) ∧ w'.cell? ⟨w.heap.size, 1, none⟩ = some (.slice (some ⟨b, off, none⟩) L c) ∧ w'.cell? ⟨b, off + 1, none⟩ = some (.slice A' L1 c')))
  have X0 := Lib.hid (keepW HF.out (below_less (by omega) (below_drew0 W)))
  clear hwb hW hr hs hR hL1 hL hcell hri x1 x2 hc1 hln hd hE hf
  go_enter Try.func85, Try.ntmps85
  go_wp2
  rw [HW.out]
  go_region_held3 (fun w' => (w'.cell? ⟨w.heap.size, 0, none⟩ = some (.int .i64 m) ∧ w'.cell? ⟨w.heap.size, 1, none⟩ = some (.slice (some ⟨b, off, none⟩) L c) ∧ w'.cell? ⟨b, off + 1, none⟩ = some (.slice A' L1 c')) ∧ Below (w.heap.size + 1) W w') (first | exact X0.out | exact keepS HF.out (by omega) (by assumption) hb2) (first
    | (go_at_call 136; with_reducible refine Calls.mono (HI.out _ (below_drew0 _)) ?_; rintro e2 w2 ⟨s, rfl, ho, hb2⟩))
  all_goals
    have F2 := Lib.hid (OwnI.more (b' := w.heap.size) ho (show w.heap.size ≤ W.heap.size by omega))
    have F3 := Lib.hid (below_step HB.out (below_step (below_drew0 W) hb2))
    clear ho hb2
    go_wp2
    go_ret
    exact ⟨_, rfl, F2.out, F3.out⟩
set_option maxHeartbeats 4000000 in
set_option maxRecDepth 100000 in
theorem sDifferentialOf_any (m : Int) (A : Option Addr) (c : Nat) (t : List (List Int)) (w : World) (hz : szT t ≤ 1048576) (hr : RP w A t) :
    Calls Try.prog 39 #[.agg #[.int .i64 m, .slice A t.length c]] w fun e w' => ∃ s, e = .returned (.tuple #[.agg #[.int .i64 (difM m t).1, s], .int .i64 (difM m t).2.2]) ∧ OwnI w' w.heap.size s (difM m t).2.1 ∧ Below w.heap.size w w' := by
  obtain ⟨W, hW, b1, v3, hwb⟩ := spro1S w m A t.length c
  have B1 := Lib.hid b1
  have V3 := Lib.hid v3
  have HB := Lib.hid hwb
  have HW := Lib.hid hW
  have hc := l04Is_any m A c t W hz (hr.below hwb)
  by_cases h0 : isL m t = true
  · rw [h0] at hc
    obtain ⟨-, d, e1, ok, hf⟩ := isL_of h0
    have hd2 := ok.d2
    have hd1 := ok.d1
    by_cases hd : d = 1
    · have HA : Hid (difM m t = (0, [], 5)) := Lib.hid (by unfold difM; rw [if_pos h0, if_pos (by omega)])
      rw [HA.out]
      have HL2 := Lib.hid (show t.length = 2 by omega)
      rw [HL2.out] at hc HW B1 ⊢
      have HC0 := Lib.hid hc
      clear b1 v3 hwb hW hr hc h0 ok hf e1 hz HA hd HL2
      go_enter Try.func39, Try.ntmps39
      go_wp2_with fail
      rw [HW.out]
      refine HC0.out.mono ?_
      rintro e w1 ⟨rfl, hb1⟩
      obtain ⟨x1, x2, x3⟩ := B1.out.keep hb1
      have hv := V3.out.keep (hb1)
      obtain ⟨q0, q1, q2, q3⟩ := hv.tells2
      obtain ⟨f0, f1, f2, f3⟩ := fin_serC (w := w) hv (OwnI.nil _ (w.heap.size + 1 + 1)) (by omega) (by omega) (below_step HB.out (hb1)) (.int .i64 0) (.slice none 0 0)
      have F2 := Lib.hid (OwnI.more (b' := w.heap.size) f2 (by omega))
      have F3 := Lib.hid f3
      clear f2 f3 hv
      go_wp2
      exact bodyPost_ret (v := .tuple #[.agg #[.int .i64 0, .slice none 0 0], .int .i64 (5)]) (by simp [results, Try.results39, go_sem, f0, f1]) rfl ⟨_, rfl, F2.out, F3.out⟩
    · have HA : Hid (difM m t = (m, dffL m t, 0)) := Lib.hid (by unfold difM; rw [if_pos h0, if_neg (by omega)])
      rw [HA.out]
      have HI := Lib.hid (fun W0 (h : Below W.heap.size W W0) => l05Differential_any m d A c t W0 ok hf (by omega) ((hr.below hwb).below h))
      obtain ⟨T, hT⟩ : ∃ T, dffL m t = T := ⟨_, rfl⟩
      rw [hT] at HI ⊢
      obtain ⟨L, hL⟩ : ∃ L, t.length = L := ⟨_, rfl⟩
      rw [hL] at hc HI HW B1 ⊢
      have hLn : ¬ (L : Int) = 2 := by omega
      have n1 : ((L : Int) == 2) = false := by simpa using hLn
      have HC0 := Lib.hid hc
      clear b1 v3 hwb hW hr hc h0 ok hf e1 hz hT hL HA hd hLn
      go_enter Try.func39, Try.ntmps39
      go_wp2_with fail
      rw [HW.out]
      refine HC0.out.mono ?_
      rintro e w1 ⟨rfl, hb1⟩
      obtain ⟨x1, x2, x3⟩ := B1.out.keep hb1
      go_wp2
      go_region_held3 (fun w' => w'.cell? ⟨w.heap.size, 0, none⟩ = some (.int .i64 m) ∧ w'.cell? ⟨w.heap.size, 1, none⟩ = some (.slice A L c) ∧ w.heap.size < w'.heap.size) (first | exact ⟨x1, x2, x3⟩ | exact box_store (by omega) (by assumption) | exact box_call (by assumption) (by assumption)) (first
        | (go_at_call 85; refine (HI.out _ (below_step hb1 (below_drew0 _))).mono ?_; rintro e2 w2 ⟨s, rfl, ho, hb2⟩; obtain ⟨A2, c2, rfl, -⟩ := ho.form)
        | (go_at_call 60; refine (l02Make_any _ _ _ _ _).mono ?_; rintro e3 w3 ⟨rfl, hb3⟩; have hv := V3.out.keep (below_step (below_step (below_step hb1 (below_drew0 _)) hb2) hb3); obtain ⟨q0, q1, q2, q3⟩ := hv.tells2))
      all_goals
        have hw3 := below_step (below_step (below_step hb1 (below_drew0 _)) hb2) hb3
        have hz1 := (below_step hb1 (below_drew0 _)).size
        have hz2 := V3.out.lt
        obtain ⟨f0, f1, f2, f3⟩ := fin_serC (w := w) hv (ho.keep hb3) (by omega) (by omega) (below_step HB.out hw3) (.int .i64 m) (.slice A2 T.length c2)
        have F2 := Lib.hid (OwnI.more (b' := w.heap.size) f2 (by omega))
        have F3 := Lib.hid f3
        clear f2 f3 ho hb1 hb2 hb3 hv hw3
        go_wp2
        exact bodyPost_ret (v := .tuple #[.agg #[.int .i64 m, .slice A2 T.length c2], .int .i64 0]) (by simp [results, Try.results39, go_sem, f0, f1]) rfl ⟨_, rfl, F2.out, F3.out⟩
  · have h0' : isL m t = false := by simpa using h0
    rw [h0'] at hc
    have HC0 := Lib.hid hc
    have HA : Hid (difM m t = (0, [], 1)) := Lib.hid (by unfold difM; rw [if_neg h0])
    rw [HA.out]
    clear b1 v3 hwb hW hr hc h0 h0' hz
    go_enter Try.func39, Try.ntmps39
    go_wp2_with fail
    rw [HW.out]
    refine HC0.out.mono ?_
    rintro e w1 ⟨rfl, hb1⟩
    have hv := V3.out.keep (hb1)
    obtain ⟨q0, q1, q2, q3⟩ := hv.tells2
    obtain ⟨f0, f1, f2, f3⟩ := fin_serC (w := w) hv (OwnI.nil _ (w.heap.size + 1 + 1)) (by omega) (by omega) (below_step HB.out (hb1)) (.int .i64 0) (.slice none 0 0)
    have F2 := Lib.hid (OwnI.more (b' := w.heap.size) f2 (by omega))
    have F3 := Lib.hid f3
    clear f2 f3 hv
    go_wp2
    exact bodyPost_ret (v := .tuple #[.agg #[.int .i64 0, .slice none 0 0], .int .i64 (1)]) (by simp [results, Try.results39, go_sem, f0, f1]) rfl ⟨_, rfl, F2.out, F3.out⟩
end Go.Proofs.Ytpmbojbdppbkgaa

/- Contracts of the logarithm of a law and its passages, of the program. -/
namespace Go.Proofs.Ytpmbojbdppbkgaa
open Go.RowKit Go.WideShapes Go.ChangeShapes Go.ChangeAt

theorem SerOk.isS {m : Int} {d : Nat} {l : List Int} (h : SerOk m d l) : isS m l = true := by
  have h1 := h.len
  have h2 := h.d1
  have h3 := h.d2
  rw [isS_spec, (isM_iff m).2 ⟨h.m1, h.m2⟩, inB_yes (by omega) (by omega)]
  simp only [Bool.true_and]
  unfold allIn
  rw [List.all_eq_true]
  intro x hx
  obtain ⟨i, hi, rfl⟩ := List.getElem_of_mem hx
  have hr := h.red i
  unfold Ser.co at hr
  rw [List.getElem?_eq_getElem hi] at hr
  simp only [Option.getD_some] at hr
  exact inB_yes hr.1 (by omega)
/-- what the program's logarithm returns -/
def lgM (m : Int) (t : List (List Int)) : Int × List Int × Int := if allU m (t.length - 1) = true then (m, logL m t, 0) else (0, [], 5)
theorem ins_lg {m : Int} {d : Nat} {t : List (List Int)} (hs : Pl.Ok m d t) (hd : 2 ≤ d) : insM m (dffL m t) = lgM m t := by
  have h1 := dffL_length m t
  have h2 := hs.len
  have h3 := hs.d2
  have h4 : (dffL m t).length = t.length - 1 := by omega
  unfold insM lgM
  rw [if_pos (dffL_ok hs hd).isS, h4]
  by_cases h : allU m (t.length - 1) = true
  · rw [if_pos h, if_pos ⟨by omega, h⟩]; rfl
  · rw [if_neg h, if_neg (fun e => h e.2)]
theorem lg_one {m : Int} {t : List (List Int)} (hm : 2 ≤ m) (h : t.length = 2) : lgM m t = (m, Pl.lin m 1 1, 0) := by
  unfold lgM
  rw [h, if_pos (allU_one m), logL_lin hm h]
theorem logM_lg {m : Int} {t : List (List Int)} (h : isL m t = true) : logM m t = lgM m t := by unfold logM; rw [if_pos h]; rfl
theorem pro_lawQ (T : TypeId) (w : World) (m : Int) (d : Nat) (A : Option Addr) (n c : Nat) : ∃ W, (w.alloc (.cells #[.int .i64 m, .int .i64 d, .slice A n c] 68)).alloc (.cells #[.int .i64 0, .slice none 0 0] T) = W ∧
    GBox W w.heap.size m d A n c ∧ VarC T W (w.heap.size + 1) #[.int .i64 0, .slice none 0 0] ∧ Below w.heap.size w W := by
  refine ⟨_, rfl, (GBox.new _ _ _ _ _ _ _).keep (below_one _ _), ?_, below_alloc _ (below_one _ _)⟩
  have := VarC.new T (w.alloc (.cells #[.int .i64 m, .int .i64 d, .slice A n c] 68)) #[.int .i64 0, .slice none 0 0]
  simpa using this
theorem pro_serQ (T1 T2 : TypeId) (w : World) (m : Int) (A : Option Addr) (n c : Nat) : ∃ W, (w.alloc (.cells #[.int .i64 m, .slice A n c] T1)).alloc (.cells #[.int .i64 0, .slice none 0 0] T2) = W ∧
    Box W w.heap.size m A n c ∧ VarC T2 W (w.heap.size + 1) #[.int .i64 0, .slice none 0 0] ∧ Below w.heap.size w W := by
  refine ⟨_, rfl, (Box.newT _ _ _ _ _ _).keep (below_one _ _), ?_, below_alloc _ (below_one _ _)⟩
  have := VarC.new T2 (w.alloc (.cells #[.int .i64 m, .slice A n c] T1)) #[.int .i64 0, .slice none 0 0]
  simpa using this
theorem lcurve_any (m : Int) (A : Option Addr) (n c : Nat) (w : World) :
    Calls Try.prog 91 #[.agg #[.int .i64 m, .slice A n c]] w fun e w' => e = .returned (.agg #[.int .i64 m, .slice A n c]) ∧ Below w.heap.size w w' := by
  go_enter Try.func91, Try.ntmps91
  go_wp2
  exact bodyPost_ret (v := .agg #[.int .i64 m, .slice A n c]) (by simp [results, Try.results91, go_sem]) rfl ⟨rfl, below_alloc _ (below_one _ _)⟩
theorem ecurve_any (m : Int) (A : Option Addr) (n c : Nat) (w : World) :
    Calls Try.prog 94 #[.agg #[.int .i64 m, .slice A n c]] w fun e w' => e = .returned (.agg #[.int .i64 m, .slice A n c]) ∧ Below w.heap.size w w' := by
  go_enter Try.func94, Try.ntmps94
  go_wp2
  exact bodyPost_ret (v := .agg #[.int .i64 m, .slice A n c]) (by simp [results, Try.results94, go_sem]) rfl ⟨rfl, below_alloc _ (below_one _ _)⟩
set_option maxHeartbeats 4000000 in
set_option maxRecDepth 100000 in
theorem reversion_any (m : Int) (d : Nat) (A : Option Addr) (c : Nat) (l : List Int) (w : World) (hs : SerOk m d l) (hr : RI w A l) :
    Calls Try.prog 93 #[.agg #[.int .i64 m, .slice A l.length c]] w fun e w' => ∃ v, e = .returned (.agg #[.int .i64 m, v]) ∧ OwnI w' w.heap.size v (Ser.lagG m 1 (Ser.co l) d d).1 ∧ Below w.heap.size w w' := by
  obtain ⟨W, hW, b1, v2, hwb⟩ := pro_serQ 88 92 w m A l.length c
  have B1 := Lib.hid b1
  have V2 := Lib.hid v2
  have HB := Lib.hid hwb
  have HW := Lib.hid hW
  have m1 := hs.m1
  have HI := Lib.hid (reversed_any m d A c l 1 W hs (hr.below hwb) (by omega) (by omega))
  obtain ⟨R, hR⟩ : ∃ R, (Ser.lagG m 1 (Ser.co l) d d).1 = R := ⟨_, rfl⟩
  rw [hR] at HI ⊢
  have hsz : w.heap.size + 1 < W.heap.size := v2.lt
  obtain ⟨x1, x2, x3⟩ := b1
  clear v2 hwb hW hr hs hR
  go_enter Try.func93, Try.ntmps93
  go_wp2_with fail
  rw [HW.out]
  refine HI.out.mono ?_
  rintro e w1 ⟨s, rfl, ho, hb1⟩
  obtain ⟨A2, c2, rfl, -⟩ := ho.form
  have hv := V2.out.keep hb1
  obtain ⟨q0, q1, q2, q3⟩ := hv.tells2
  obtain ⟨f0, f1, f2, f3⟩ := fin_serC (w := w) hv ho hsz (by omega) (below_step HB.out hb1) (.int .i64 m) (.slice A2 R.length c2)
  have F2 := Lib.hid (OwnI.more (b' := w.heap.size) f2 (by omega))
  have F3 := Lib.hid f3
  clear f2 f3 ho hb1 hv x1 x2 x3
  go_wp2
  exact bodyPost_ret (v := .agg #[.int .i64 m, .slice A2 R.length c2]) (by simp [results, Try.results93, go_sem, f0, f1]) rfl ⟨_, rfl, F2.out, F3.out⟩
set_option maxHeartbeats 8000000 in
set_option maxRecDepth 100000 in
theorem logarithm_any (m : Int) (d : Nat) (A : Option Addr) (c : Nat) (t : List (List Int)) (w : World) (hs : Pl.Ok m d t) (hr : RP w A t) :
    Calls Try.prog 90 #[.agg #[.int .i64 m, .int .i64 d, .slice A t.length c]] w fun e w' => ∃ s, e = .returned (.tuple #[.agg #[.int .i64 (lgM m t).1, s], .int .i64 (lgM m t).2.2]) ∧ OwnI w' w.heap.size s (lgM m t).2.1 ∧ Below w.heap.size w w' := by
  obtain ⟨W, hW, b1, v2, hwb⟩ := pro_lawQ 88 w m d A t.length c
  have B1 := Lib.hid b1
  have V2 := Lib.hid v2
  have HB := Lib.hid hwb
  have HW := Lib.hid hW
  have m1 := hs.m1
  have m2 := hs.m2
  have hd1 := hs.d1
  have hd2 := hs.d2
  have hsz : w.heap.size + 1 < W.heap.size := v2.lt
  obtain ⟨D, hD⟩ : ∃ D : Int, D = (d : Int) := ⟨_, rfl⟩
  by_cases hd : d = 1
  · have HA : Hid (lgM m t = (m, Pl.lin m 1 1, 0)) := Lib.hid (lg_one m1 (by have := hs.len; omega))
    rw [HA.out]
    have HL := Lib.hid (fun W0 => line_any m d A t.length c 1 W0 m1 m2 hd2 (by omega) (by omega))
    rw [hd] at HL
    rw [← hd, ← hD] at HL
    rw [hd] at HL
    obtain ⟨R, hR⟩ : ∃ R, Pl.lin m 1 1 = R := ⟨_, rfl⟩
    rw [hR] at HL ⊢
    have n1 : (D == 1) = true := by rw [hD, hd]; rfl
    rw [← hD]
    obtain ⟨x1, x2, x3, x4⟩ := b1
    rw [← hD] at x2 HW
    obtain ⟨L, hL⟩ : ∃ L, t.length = L := ⟨_, rfl⟩
    rw [hL] at HL HW x3 ⊢
    clear v2 hwb hW hr hs hR hD hd HA B1 hL
    go_enter Try.func90, Try.ntmps90
    go_wp2_with fail
    rw [HW.out]
    refine (HL.out _).mono ?_
    rintro e w1 ⟨s, rfl, ho, hb1⟩
    obtain ⟨A2, c2, rfl, -⟩ := ho.form
    have hv := V2.out.keep hb1
    obtain ⟨q0, q1, q2, q3⟩ := hv.tells2
    obtain ⟨f0, f1, f2, f3⟩ := fin_serC (w := w) hv ho hsz (by omega) (below_step HB.out hb1) (.int .i64 m) (.slice A2 R.length c2)
    have F2 := Lib.hid (OwnI.more (b' := w.heap.size) f2 (by omega))
    have F3 := Lib.hid f3
    clear f2 f3 ho hb1 hv x1 x2 x3 x4
    go_wp2
    exact bodyPost_ret (v := .tuple #[.agg #[.int .i64 m, .slice A2 R.length c2], .int .i64 0]) (by simp [results, Try.results90, go_sem, f0, f1]) rfl ⟨_, rfl, F2.out, F3.out⟩
  · have HDF := Lib.hid (fun W0 (h : Below W.heap.size W W0) => differential_any m d A c t W0 hs (by omega) ((hr.below hwb).below h))
    have HIN := Lib.hid (fun W0 (A0 : Option Addr) (c0 : Nat) (h : RI W0 A0 (dffL m t)) => by
      have := IntegrateSeries_any m A0 c0 (dffL m t) W0 (by rw [dffL_length]; have := hs.len; omega) h
      rw [ins_lg hs (by omega)] at this
      exact this)
    obtain ⟨X, hX⟩ : ∃ X, lgM m t = X := ⟨_, rfl⟩
    rw [hX] at HIN ⊢
    obtain ⟨M, L0, C⟩ := X
    obtain ⟨T, hT⟩ : ∃ T, dffL m t = T := ⟨_, rfl⟩
    rw [hT] at HDF HIN
    have hDn : ¬ D = 1 := by omega
    have n1 : (D == 1) = false := by simpa using hDn
    obtain ⟨x1, x2, x3, x4⟩ := b1
    obtain ⟨L, hL⟩ : ∃ L, t.length = L := ⟨_, rfl⟩
    rw [hL] at HDF HW x3 ⊢
    rw [← hD] at HDF HW x2 ⊢
    clear v2 hwb hW hr hs hX hD hd hDn B1 hL hT
    go_enter Try.func90, Try.ntmps90
    go_wp2_with fail
    rw [HW.out]
    refine (HDF.out _ (Below.refl _ _)).mono ?_
    rintro e w1 ⟨s1, rfl, ho1, hb1⟩
    obtain ⟨A1, c1, rfl, -⟩ := ho1.form
    clear x1 x2 x3 x4
    go_wp2_with fail
    refine (HIN.out _ _ _ ho1.ri).mono ?_
    rintro e w2 ⟨s, rfl, ho, hb2⟩
    obtain ⟨A2, c2, rfl, -⟩ := ho.form
    have hb12 := below_step hb1 hb2
    have hb3 := below_alloc (.cells #[.int .i64 M, .slice A2 L0.length c2] 28) hb12
    have hvn := Var2.new w2 (.int .i64 M) (.slice A2 L0.length c2)
    have ho3 := ho.keep (below_one w2 (.cells #[.int .i64 M, .slice A2 L0.length c2] 28))
    have r0 := hvn.c0
    have r1 := hvn.c1
    have hv := V2.out.keep hb3
    obtain ⟨q0, q1, q2, q3⟩ := hv.tells2
    have hs1 := hb1.size
    obtain ⟨f0, f1, f2, f3⟩ := fin_serC (w := w) hv ho3 (by omega) (by omega) (below_step HB.out hb3) (.int .i64 M) (.slice A2 L0.length c2)
    have F2 := Lib.hid (OwnI.more (b' := w.heap.size) f2 (by omega))
    have F3 := Lib.hid f3
    clear f2 f3 ho ho1 ho3 hb1 hb2 hb3 hb12 hv hvn
    go_wp2
    exact bodyPost_ret (v := .tuple #[.agg #[.int .i64 M, .slice A2 L0.length c2], .int .i64 C]) (by simp [results, Try.results90, go_sem, f0, f1]) rfl ⟨_, rfl, F2.out, F3.out⟩
end Go.Proofs.Ytpmbojbdppbkgaa

/- Contracts of LogarithmOf and ExponentialOf, of the program. -/
namespace Go.Proofs.Ytpmbojbdppbkgaa
open Go.RowKit Go.WideShapes Go.ChangeShapes Go.ChangeAt

set_option maxHeartbeats 4000000 in
set_option maxRecDepth 100000 in
theorem LogarithmOf_any (m : Int) (A : Option Addr) (c : Nat) (t : List (List Int)) (w : World) (hz : szT t ≤ 1048576) (hr : RP w A t) :
    Calls Try.prog 42 #[.agg #[.int .i64 m, .slice A t.length c]] w fun e w' => ∃ s, e = .returned (.tuple #[.agg #[.int .i64 (logM m t).1, s], .int .i64 (logM m t).2.2]) ∧ OwnI w' w.heap.size s (logM m t).2.1 ∧ Below w.heap.size w w' := by
  obtain ⟨W, hW, b1, v3, b4, hwb⟩ := pro1S w m A t.length c
  have B1 := Lib.hid b1
  have V3 := Lib.hid v3
  have HB := Lib.hid hwb
  have HW := Lib.hid hW
  have hc := codeL1_any (w.heap.size + 1 + 1) m A c t W hz (hr.below hwb) b4
  unfold codeL1 at hc
  by_cases h0 : isL m t = true
  · rw [if_pos h0] at hc
    have HC0 := Lib.hid hc
    obtain ⟨-, d, e1, ok, hf⟩ := isL_of h0
    have hd2 := ok.d2
    have HG := Lib.hid (fun W0 => lawOf_nat m A t.length c d W0 e1 (by omega))
    have HI := Lib.hid (fun W0 (h : Below W.heap.size W W0) => logarithm_any m d A c t W0 ok ((hr.below hwb).below h))
    rw [logM_lg h0]
    obtain ⟨X, hX⟩ : ∃ X, lgM m t = X := ⟨_, rfl⟩
    rw [hX] at HI ⊢
    obtain ⟨M, L0, C⟩ := X
    have HLC := Lib.hid (fun A0 n c0 W0 => lcurve_any M A0 n c0 W0)
    obtain ⟨L, hL⟩ : ∃ L, t.length = L := ⟨_, rfl⟩
    rw [hL] at HG HI HW B1 ⊢
    clear b1 v3 b4 hwb hW hr hc h0 ok hf e1 hz hX hL
    go_enter Try.func42, Try.ntmps42
    go_wp2_with fail
    rw [HW.out]
    refine HC0.out.mono ?_
    rintro e w1 ⟨rfl, hb1⟩
    obtain ⟨x1, x2, x3⟩ := B1.out.keep hb1
    go_wp2_with fail
    refine (HG.out _).mono ?_
    rintro e w2 ⟨rfl, hb2⟩
    clear x1 x2 x3
    have hb12 := below_step hb1 hb2
    go_wp2_with fail
    refine (HI.out _ hb12).mono ?_
    rintro e w3 ⟨s, rfl, ho, hb3⟩
    obtain ⟨A2, c2, rfl, -⟩ := ho.form
    have hb13 := below_step hb12 hb3
    have hb4 := below_alloc (.cells #[.int .i64 M, .slice A2 L0.length c2] 88) hb13
    have ho4 := ho.keep (below_one w3 (.cells #[.int .i64 M, .slice A2 L0.length c2] 88))
    go_wp2_with fail
    refine (HLC.out _ _ _ _).mono ?_
    rintro e w5 ⟨rfl, hb5⟩
    have hb := below_step hb4 hb5
    have hv := V3.out.keep hb
    obtain ⟨q0, q1, q2, q3⟩ := hv.tells2
    have hsz := hb12.size
    have hz2 := V3.out.lt
    obtain ⟨f0, f1, f2, f3⟩ := fin_serC (w := w) hv (ho4.keep hb5) (by omega) (by omega) (below_step HB.out hb) (.int .i64 M) (.slice A2 L0.length c2)
    have F2 := Lib.hid (OwnI.more (b' := w.heap.size) f2 (by omega))
    have F3 := Lib.hid f3
    clear f2 f3 hv ho ho4 hb hb1 hb2 hb3 hb4 hb5 hb12 hb13
    go_wp2
    exact bodyPost_ret (v := .tuple #[.agg #[.int .i64 M, .slice A2 L0.length c2], .int .i64 C]) (by simp [results, Try.results42, go_sem, f0, f1]) rfl ⟨_, rfl, F2.out, F3.out⟩
  · rw [if_neg h0] at hc
    have HC0 := Lib.hid hc
    have HA : Hid (logM m t = (0, [], 1)) := Lib.hid (by unfold logM; rw [if_neg h0])
    rw [HA.out]
    clear b1 v3 b4 hwb hW hr hc h0 hz
    go_enter Try.func42, Try.ntmps42
    go_wp2_with fail
    rw [HW.out]
    refine HC0.out.mono ?_
    rintro e w1 ⟨rfl, hb1⟩
    have hv := V3.out.keep (hb1)
    obtain ⟨q0, q1, q2, q3⟩ := hv.tells2
    obtain ⟨f0, f1, f2, f3⟩ := fin_serC (w := w) hv (OwnI.nil _ (w.heap.size + 1 + 1)) (by omega) (by omega) (below_step HB.out (hb1)) (.int .i64 0) (.slice none 0 0)
    have F2 := Lib.hid (OwnI.more (b' := w.heap.size) f2 (by omega))
    have F3 := Lib.hid f3
    clear f2 f3 hv
    go_wp2
    exact bodyPost_ret (v := .tuple #[.agg #[.int .i64 0, .slice none 0 0], .int .i64 (1)]) (by simp [results, Try.results42, go_sem, f0, f1]) rfl ⟨_, rfl, F2.out, F3.out⟩
set_option maxHeartbeats 4000000 in
set_option maxRecDepth 100000 in
theorem ExponentialOf_any (m : Int) (A : Option Addr) (c : Nat) (t : List (List Int)) (w : World) (hz : szT t ≤ 1048576) (hr : RP w A t) :
    Calls Try.prog 44 #[.agg #[.int .i64 m, .slice A t.length c]] w fun e w' => ∃ s, e = .returned (.tuple #[.agg #[.int .i64 (expM m t).1, s], .int .i64 (expM m t).2.2]) ∧ OwnI w' w.heap.size s (expM m t).2.1 ∧ Below w.heap.size w w' := by
  obtain ⟨W, hW, b1, v3, b4, hwb⟩ := pro1S w m A t.length c
  have B1 := Lib.hid b1
  have V3 := Lib.hid v3
  have HB := Lib.hid hwb
  have HW := Lib.hid hW
  have hc := codeL1_any (w.heap.size + 1 + 1) m A c t W hz (hr.below hwb) b4
  unfold codeL1 at hc
  by_cases h0 : isL m t = true
  · rw [if_pos h0] at hc
    have HC0 := Lib.hid hc
    obtain ⟨-, d, e1, ok, hf⟩ := isL_of h0
    have hd2 := ok.d2
    have HG := Lib.hid (fun W0 => lawOf_nat m A t.length c d W0 e1 (by omega))
    have HI := Lib.hid (fun W0 (h : Below W.heap.size W W0) => logarithm_any m d A c t W0 ok ((hr.below hwb).below h))
    by_cases hu : allU m (t.length - 1) = true
    · have HA : Hid (expM m t = (m, exqL m t, 0)) := Lib.hid (by unfold expM; rw [if_pos h0, if_pos hu])
      rw [HA.out]
      rw [show lgM m t = (m, logL m t, 0) by unfold lgM; rw [if_pos hu]] at HI
      have HRV := Lib.hid (fun W0 A0 c0 (h : RI W0 A0 (logL m t)) => by
        have := reversion_any m d A0 c0 (logL m t) W0 (logL_ok ok) h
        rw [exq_lag ok] at this
        exact this)
      have HEC := Lib.hid (fun A0 n c0 W0 => ecurve_any m A0 n c0 W0)
      obtain ⟨T, hT⟩ : ∃ T, logL m t = T := ⟨_, rfl⟩
      obtain ⟨R, hR⟩ : ∃ R, exqL m t = R := ⟨_, rfl⟩
      rw [hT] at HI HRV
      rw [hR] at HRV ⊢
      obtain ⟨L, hL⟩ : ∃ L, t.length = L := ⟨_, rfl⟩
      rw [hL] at HG HI HW B1 ⊢
      clear b1 v3 b4 hwb hW hr hc h0 ok hf e1 hz hT hR hL hu HA
      go_enter Try.func44, Try.ntmps44
      go_wp2_with fail
      rw [HW.out]
      refine HC0.out.mono ?_
      rintro e w1 ⟨rfl, hb1⟩
      obtain ⟨x1, x2, x3⟩ := B1.out.keep hb1
      go_wp2_with fail
      refine (HG.out _).mono ?_
      rintro e w2 ⟨rfl, hb2⟩
      clear x1 x2 x3
      have hb12 := below_step hb1 hb2
      go_wp2_with fail
      refine (HI.out _ hb12).mono ?_
      rintro e w3 ⟨s, rfl, ho, hb3⟩
      obtain ⟨A2, c2, rfl, -⟩ := ho.form
      have hb13 := below_step hb12 hb3
      have hb4 := below_alloc (.cells #[.int .i64 m, .slice A2 T.length c2] 88) hb13
      have ho4 := ho.keep (below_one w3 (.cells #[.int .i64 m, .slice A2 T.length c2] 88))
      go_wp2_with fail
      refine (HRV.out _ _ _ ho4.ri).mono ?_
      rintro e w5 ⟨s5, rfl, ho5, hb5⟩
      obtain ⟨A5, c5, rfl, -⟩ := ho5.form
      have hb15 := below_step hb4 hb5
      go_wp2_with fail
      refine (HEC.out _ _ _ _).mono ?_
      rintro e w6 ⟨rfl, hb6⟩
      have hb := below_step hb15 hb6
      have hv := V3.out.keep hb
      obtain ⟨q0, q1, q2, q3⟩ := hv.tells2
      have hsz := hb4.size
      have hz2 := V3.out.lt
      obtain ⟨f0, f1, f2, f3⟩ := fin_serC (w := w) hv (ho5.keep hb6) (by omega) (by omega) (below_step HB.out hb) (.int .i64 m) (.slice A5 R.length c5)
      have F2 := Lib.hid (OwnI.more (b' := w.heap.size) f2 (by omega))
      have F3 := Lib.hid f3
      clear f2 f3 hv ho ho4 ho5 hb hb1 hb2 hb3 hb4 hb5 hb6 hb12 hb13 hb15
      go_wp2
      exact bodyPost_ret (v := .tuple #[.agg #[.int .i64 m, .slice A5 R.length c5], .int .i64 0]) (by simp [results, Try.results44, go_sem, f0, f1]) rfl ⟨_, rfl, F2.out, F3.out⟩
    · have HA : Hid (expM m t = (0, [], 5)) := Lib.hid (by unfold expM; rw [if_pos h0, if_neg hu])
      rw [HA.out]
      rw [show lgM m t = (0, [], 5) by unfold lgM; rw [if_neg hu]] at HI
      obtain ⟨L, hL⟩ : ∃ L, t.length = L := ⟨_, rfl⟩
      rw [hL] at HG HI HW B1 ⊢
      clear b1 v3 b4 hwb hW hr hc h0 ok hf e1 hz hL hu HA
      go_enter Try.func44, Try.ntmps44
      go_wp2_with fail
      rw [HW.out]
      refine HC0.out.mono ?_
      rintro e w1 ⟨rfl, hb1⟩
      obtain ⟨x1, x2, x3⟩ := B1.out.keep hb1
      go_wp2_with fail
      refine (HG.out _).mono ?_
      rintro e w2 ⟨rfl, hb2⟩
      clear x1 x2 x3
      have hb12 := below_step hb1 hb2
      go_wp2_with fail
      refine (HI.out _ hb12).mono ?_
      rintro e w3 ⟨s, rfl, ho, hb3⟩
      obtain ⟨A2, c2, rfl, -⟩ := ho.form
      have hb13 := below_alloc (.cells #[.int .i64 0, .slice A2 0 c2] 88) (below_step hb12 hb3)
      clear ho hb1 hb2 hb3 hb12
      have hv := V3.out.keep (hb13)
      obtain ⟨q0, q1, q2, q3⟩ := hv.tells2
      obtain ⟨f0, f1, f2, f3⟩ := fin_serC (w := w) hv (OwnI.nil _ (w.heap.size + 1 + 1)) (by omega) (by omega) (below_step HB.out (hb13)) (.int .i64 0) (.slice none 0 0)
      have F2 := Lib.hid (OwnI.more (b' := w.heap.size) f2 (by omega))
      have F3 := Lib.hid f3
      clear f2 f3 hv
      go_wp2
      exact bodyPost_ret (v := .tuple #[.agg #[.int .i64 0, .slice none 0 0], .int .i64 (5)]) (by simp [results, Try.results44, go_sem, f0, f1]) rfl ⟨_, rfl, F2.out, F3.out⟩
  · rw [if_neg h0] at hc
    have HC0 := Lib.hid hc
    have HA : Hid (expM m t = (0, [], 1)) := Lib.hid (by unfold expM; rw [if_neg h0])
    rw [HA.out]
    clear b1 v3 b4 hwb hW hr hc h0 hz
    go_enter Try.func44, Try.ntmps44
    go_wp2_with fail
    rw [HW.out]
    refine HC0.out.mono ?_
    rintro e w1 ⟨rfl, hb1⟩
    have hv := V3.out.keep (hb1)
    obtain ⟨q0, q1, q2, q3⟩ := hv.tells2
    obtain ⟨f0, f1, f2, f3⟩ := fin_serC (w := w) hv (OwnI.nil _ (w.heap.size + 1 + 1)) (by omega) (by omega) (below_step HB.out (hb1)) (.int .i64 0) (.slice none 0 0)
    have F2 := Lib.hid (OwnI.more (b' := w.heap.size) f2 (by omega))
    have F3 := Lib.hid f3
    clear f2 f3 hv
    go_wp2
    exact bodyPost_ret (v := .tuple #[.agg #[.int .i64 0, .slice none 0 0], .int .i64 (1)]) (by simp [results, Try.results44, go_sem, f0, f1]) rfl ⟨_, rfl, F2.out, F3.out⟩
end Go.Proofs.Ytpmbojbdppbkgaa

/- Contracts of the logarithm of a law, of the model. -/
namespace Go.Proofs.Ytpmbojbdppbkgaa
open Go.RowKit Go.WideShapes Go.ChangeShapes Go.ChangeAt

/-- the code of a law that has to have a logarithm -/
def codeLg (m : Int) (t : List (List Int)) : Int := if isL m t = true then (if allU m (t.length - 1) = true then 0 else 5) else 1
set_option maxHeartbeats 4000000 in
set_option maxRecDepth 100000 in
theorem l05Code_any (m : Int) (A : Option Addr) (c : Nat) (t : List (List Int)) (w : World) (hz : szT t ≤ 1048576) (hr : RP w A t) :
    Calls Try.prog 88 #[.agg #[.int .i64 m, .slice A t.length c]] w fun e w' => e = .returned (.int .i64 (codeLg m t)) ∧ Below w.heap.size w w' := by
  obtain ⟨W, hW, b1, hwb⟩ := start1 31 w m A t.length c
  have B1 := Lib.hid b1
  have HB := Lib.hid hwb
  have HW := Lib.hid hW
  have hc := l04Is_any m A c t W hz (hr.below hwb)
  by_cases h0 : isL m t = true
  · rw [h0] at hc
    have HC0 := Lib.hid hc
    obtain ⟨-, d, e1, ok, hf⟩ := isL_of h0
    have hd2 := ok.d2
    have hI := Lib.hid (fun W0 => l02Integers_any m d W0 ok.m1 ok.m2 (by omega))
    have HA : Hid (codeLg m t = if allU m d = true then 0 else 5) := Lib.hid (by unfold codeLg; rw [if_pos h0, e1]; rfl)
    obtain ⟨K, hK⟩ : ∃ K, codeLg m t = K := ⟨_, rfl⟩
    rw [hK] at HA ⊢
    obtain ⟨L, hL⟩ : ∃ L, t.length = L := ⟨_, rfl⟩
    rw [hL] at HC0 HW B1 ⊢
    obtain ⟨D, hD⟩ : ∃ D : Int, D = (d : Int) := ⟨_, rfl⟩
    rw [← hD] at hI
    have hLb : L ≤ 11 := by omega
    have hw : IntKind.i64.wrap ((L : Int) - 1) = D := by rw [IntKind.wrap_i64]; omega
    have hw2 : (L : Int) - 1 = D := by omega
    obtain ⟨b, hb⟩ : ∃ b, allU m d = b := ⟨_, rfl⟩
    rw [hb] at hI HA
    clear hwb hW hr hc h0 ok hf e1 hz hL hD hK hb b1
    cases b with
    | true =>
      have HK : Hid (K = 0) := Lib.hid (by rw [HA.out]; rfl)
      clear HA
      go_enter Try.func88, Try.ntmps88
      go_wp2_with fail
      rw [HW.out]
      refine HC0.out.mono ?_
      rintro e w1 ⟨rfl, hb1⟩
      obtain ⟨x1, x2, x3⟩ := B1.out.keep hb1
      go_wp2_with fail
      refine (hI.out _).mono ?_
      rintro e w2 ⟨rfl, rfl⟩
      have HB1 := Lib.hid (below_step HB.out hb1)
      clear hb1
      go_wp2
      go_ret
      exact ⟨ret_int HK.out.symm, HB1.out⟩
    | false =>
      have HK : Hid (K = 5) := Lib.hid (by rw [HA.out]; rfl)
      clear HA
      go_enter Try.func88, Try.ntmps88
      go_wp2_with fail
      rw [HW.out]
      refine HC0.out.mono ?_
      rintro e w1 ⟨rfl, hb1⟩
      obtain ⟨x1, x2, x3⟩ := B1.out.keep hb1
      go_wp2_with fail
      refine (hI.out _).mono ?_
      rintro e w2 ⟨rfl, rfl⟩
      have HB1 := Lib.hid (below_step HB.out hb1)
      clear hb1
      go_wp2
      go_ret
      exact ⟨ret_int HK.out.symm, HB1.out⟩
  · have h0' : isL m t = false := by simpa using h0
    rw [h0'] at hc
    have HC0 := Lib.hid hc
    have HA : Hid (codeLg m t = 1) := Lib.hid (by unfold codeLg; rw [if_neg h0])
    rw [HA.out]
    clear hwb hW hr hc h0 h0' hz b1
    go_enter Try.func88, Try.ntmps88
    go_wp2_with fail
    rw [HW.out]
    refine HC0.out.mono ?_
    rintro e w1 ⟨rfl, hb1⟩
    have HB1 := Lib.hid (below_step HB.out hb1)
    clear hb1
    go_wp2
    go_ret
    exact ⟨rfl, HB1.out⟩
set_option maxHeartbeats 4000000 in
set_option maxRecDepth 100000 in
theorem l02Inverse0_any (m : Int) (A : Option Addr) (c : Nat) (l : List Int) (w : World) (m2 : m ≤ 10000) (hl : 1 ≤ l.length) (hred : Ser.Red m l) (hr : RI w A l) :
    Calls Try.prog 136 #[.int .i64 m, .slice A l.length c, .int .i64 0] w fun e w' => ∃ v, e = .returned v ∧ OwnI w' w.heap.size v [(egI m (Ser.co l 0)).2] ∧ Below w.heap.size w w' := by
  obtain ⟨r1, r2⟩ := hred 0
  obtain ⟨b0, off0, rfl, hb0, hc0⟩ := hr.at 0 (by omega)
  have hc0' : w.cell? ⟨b0, off0, none⟩ = some (.int .i64 (Ser.co l 0)) := hc0
  obtain ⟨X, hX⟩ : ∃ X, Ser.co l 0 = X := ⟨_, rfl⟩
  rw [hX] at r1 r2 hc0' ⊢
  have HI := Lib.hid (fun W0 => l01Inv_any m X W0 r1 r2 m2)
  obtain ⟨u, hu⟩ : ∃ u, (egI m X).2 = u := ⟨_, rfl⟩
  rw [hu] at HI ⊢
  have z0 : (0 : Int) < (l.length : Int) := by omega
  obtain ⟨L, hL⟩ : ∃ L, l.length = L := ⟨_, rfl⟩
  rw [hL] at z0 hl ⊢
  clear hr hu hX hc0 hL hred
  go_enter Try.func136, Try.ntmps136
  go_wp2_with (go_at_call 138; refine (HI.out _).mono ?_; rintro e w' ⟨rfl, rfl⟩)
  clear hc0'
  go_loopw [8, 9, 10, 11] (fun s8 s9 _ _ wr => s9 = .int .i64 1 ∧ OwnI wr w.heap.size s8 [u] ∧ Below w.heap.size w wr) (fun _ _ _ _ _ => 1)
  case atStart => exact ⟨rfl, OwnI.one w u, below_one _ _⟩
  case round =>
    obtain ⟨rfl, own, hbl⟩ := hrel
    have OW := Lib.hid own
    have HB := Lib.hid hbl
    obtain ⟨Ao, co, rfl, -⟩ := own.form
    clear own hbl
    go_wp2
    go_ret
    exact ⟨_, rfl, OW.out, HB.out⟩
set_option maxHeartbeats 4000000 in
set_option maxRecDepth 100000 in
theorem l02IntegrateR_any (m : Int) (A : Option Addr) (c : Nat) (l : List Int) (w : World) (m1 : 2 ≤ m) (m2 : m ≤ 10000) (hll : l.length ≤ 11) (hred : Ser.Red m l) (hr : RI w A l) (hall : allU m l.length = true) :
    Calls Try.prog 111 #[.int .i64 m, .slice A l.length c] w fun e w' => ∃ v, e = .returned v ∧ OwnI w' w.heap.size v (insL m l) ∧ Below w.heap.size w w' := by
  have HS := Lib.hid hred
  have HR := Lib.hid hr
  have hm0 : ¬ m = 0 := by omega
  have hlm := allU_lt hall m1
  have h1 : (insL m l).take 1 = [0] := by
    have := Ser.cut_take_succ m l.length (insF m l) 0 (by omega)
    unfold insL
    rw [this]
    simp [insF]
  have HO1 := Lib.hid (show OwnI (w.alloc (.cells #[.int .i64 0] 2)) w.heap.size (.slice (some ⟨w.heap.size, 0, none⟩) 1 1) ((insL m l).take 1) by rw [h1]; exact OwnI.one w 0)
  clear hred hr hall h1
  go_enter Try.func111, Try.ntmps111
  go_wp2
  go_loopw [5, 6] (fun r i wr => ∃ k : Nat, k ≤ l.length ∧ i = .int .i64 k ∧ OwnI wr w.heap.size r ((insL m l).take (k + 1)) ∧ Below w.heap.size w wr) (fun _ i _ => l.length - (intOf i).toNat)
  case atStart => exact ⟨0, Nat.zero_le _, rfl, HO1.out, below_one _ _⟩
  case round =>
    obtain ⟨k, hk, rfl, hown, hbel⟩ := hrel
    have HB := Lib.hid hbel
    have HO := Lib.hid hown
    have hsz := hbel.size
    clear hown hbel HO1
    by_cases hlt : k < l.length
    · obtain ⟨b, off, rfl, hb, hc⟩ := HR.out.at k hlt
      have c1 := (HB.out.cell (p := ⟨b, off + k, none⟩) hb).trans hc
      obtain ⟨r1, r2⟩ := HS.out k
      have hst : (insL m l).take (k + 1 + 1) = (insL m l).take (k + 1) ++ [Ser.co l k * inv1 m (k + 1) % m] := by
        have := Ser.cut_take_succ m l.length (insF m l) (k + 1) (by omega)
        unfold insL
        rw [this]
        congr 2
      have hi : inv1 m (k + 1) = (egI m ((k : Int) + 1)).2 := by
        unfold inv1
        rw [show ((k + 1 : Nat) : Int) = (k : Int) + 1 by omega, Int.emod_eq_of_lt (by omega) (by omega)]
      obtain ⟨b2, b3⟩ := inv1_bd m1 (k + 1)
      rw [hi] at hst b2 b3
      obtain ⟨X, hX⟩ : ∃ X, Ser.co l k = X := ⟨_, rfl⟩
      rw [hX] at c1 r1 r2 hst hc
      obtain ⟨Y, hY⟩ : ∃ Y, (egI m ((k : Int) + 1)).2 = Y := ⟨_, rfl⟩
      have HI := Lib.hid (fun W0 => by have := l01Inv_any m ((k : Int) + 1) W0 (by omega) (by omega) m2; rw [hY] at this; exact this)
      rw [hY] at hst b2 b3
      have p1 := Int.mul_nonneg r1 b2
      have p2 := (mul_bd (x := X) (y := Y) r1 (by omega) (by omega) (by omega)).2
      have w1 : IntKind.i64.wrap (X * Y) = X * Y := by rw [IntKind.wrap_i64]; omega
      have w2 : IntKind.i64.wrap ((k : Int) + 1) = (k : Int) + 1 := by rw [IntKind.wrap_i64]; omega
      have j0 : (0 : Int) ≤ (k : Int) := by omega
      have j1 : (k : Int) < (l.length : Int) := by omega
      have HQ := Lib.hid (show (X * Y).tmod m = X * Y % m from Int.tmod_eq_emod_of_nonneg p1)
      have HLK := Lib.hid (take_cut_len m l.length (insF m l) (k + 1))
      have HST := Lib.hid hst
      have C1 := Lib.hid hc
      clear hX hY hst hc hi
      go_wp2
      go_region_held3 (fun w' => w'.cell? ⟨b, off + k, none⟩ = some (.int .i64 X) ∧ ¬ m = 0) (first | exact ⟨c1, hm0⟩ | exact (by assumption) | exact ⟨((((HB.out.alloc hsz _).drew).trans hpb).cell hb).trans C1.out, hm0⟩ | go_keep) (first
        | (go_at_call 138; refine (HI.out _).mono ?_; rintro e w' ⟨rfl, rfl⟩)
        | (refine step_push _ _ _ (by rfl) (by rfl) Try.underlying26 w.heap.size _ _ (by rfl) ((HO.out.alloc _).drew) wr.heap.size (X * Y % m) (by rfl) (by simp; exact HQ.out) (by have := HLK.out; unfold insL; omega) (by simp; omega) ?_; intro v' w1 ho1 hpb))
      all_goals
        have hb1 := (((HB.out.alloc hsz _).drew).trans hpb)
        have HB1 := Lib.hid hb1
        have HO2 := Lib.hid ho1
        clear hb1 ho1 hpb
        go_wp2
        go_roundw
        case rel => exact ⟨k + 1, by omega, by go_num, by rw [HST.out]; exact HO2.out, HB1.out⟩
        case measure => simp only [intOf]; omega
    · obtain rfl : k = l.length := by omega
      have ho := HO.out
      rw [List.take_of_length_le (by unfold insL; rw [Ser.cut_length]; exact Nat.le_refl _)] at ho
      have HF := Lib.hid ho
      clear ho
      go_wp2
      go_ret
      exact ⟨_, rfl, HF.out, HB.out⟩

/-- the model's inverse of the first row of a law -/
theorem l02InvRow_any (m : Int) (d : Nat) (A' : Option Addr) (c' : Nat) (t : List (List Int)) (w : World) (hs : Pl.Ok m d t) (hf : Pl.fau m d (Pl.pc t) = none) (hr : RI w A' (Pl.rw' t 1)) :
    Calls Try.prog 136 #[.int .i64 m, .slice A' (Pl.rw' t 1).length c', .int .i64 ((d - 1 : Nat) : Int)] w fun e w' => ∃ v, e = .returned v ∧ OwnI w' w.heap.size v (dffL m t) ∧ Below w.heap.size w w' := by
  have hln := hs.len
  have h1 := hs.row 1 hs.d1
  by_cases hd : d = 1
  · subst hd
    have := l02Inverse0_any m A' c' (Pl.rw' t 1) w hs.m2 (by omega) (hs.red 1) hr
    rw [row1_one hs hf, eg_one hs.m1] at this
    rw [show dffL m t = [1] by unfold dffL; rw [hln]; rfl]
    exact this
  · have := l02Inverse_any m (d - 1) A' c' (Pl.rw' t 1) w (hs.ser1 (by have := hs.d1; omega)) hr
    rw [row1_one hs hf, eg_one hs.m1] at this
    rw [show dffL m t = Ser.invC m 1 (Ser.co (Pl.rw' t 1)) (d - 1) by unfold dffL; rw [hln]; rfl]
    exact this
set_option maxHeartbeats 4000000 in
set_option maxRecDepth 100000 in
theorem l05Logarithm_any (m : Int) (d : Nat) (A : Option Addr) (c : Nat) (t : List (List Int)) (w : World) (hs : Pl.Ok m d t) (hf : Pl.fau m d (Pl.pc t) = none) (hu : allU m d = true) (hr : RP w A t) :
    Calls Try.prog 89 #[.agg #[.int .i64 m, .slice A t.length c]] w fun e w' => ∃ v, e = .returned v ∧ OwnI w' w.heap.size v (logL m t) ∧ Below w.heap.size w w' := by
  obtain ⟨W, hW, b1, hwb⟩ := start1 31 w m A t.length c
  have B1 := Lib.hid b1
  have HB := Lib.hid hwb
  have HW := Lib.hid hW
  have m1 := hs.m1
  have hln := hs.len
  have hd1 := hs.d1
  obtain ⟨b, off, A', c', rfl, hb, hcell, -, hri⟩ := hr.at 1 (by omega)
  have hc1 := (hwb.cell (p := ⟨b, off + 1, none⟩) hb).trans hcell
  have HI := Lib.hid (fun W0 (h : Below W.heap.size W W0) => l02InvRow_any m d A' c' t W0 hs hf ((hri.below hwb).below h))
  have HN := Lib.hid (fun W0 (A0 : Option Addr) (c0 : Nat) (h : RI W0 A0 (dffL m t)) => l02IntegrateR_any m A0 c0 (dffL m t) W0 hs.m1 hs.m2 (by rw [dffL_length]; have := hs.d2; omega) (dffL_red hs.m1 t) h (by rw [dffL_length, hln, show d + 1 - 2 + 1 = d by omega]; exact hu))
  obtain ⟨T, hT⟩ : ∃ T, dffL m t = T := ⟨_, rfl⟩
  obtain ⟨R, hR⟩ : ∃ R, logL m t = R := ⟨_, rfl⟩
  rw [show insL m (dffL m t) = R from hR, hT] at HN
  rw [hT] at HI
  rw [hR]
  obtain ⟨L1, hL1⟩ : ∃ L, (Pl.rw' t 1).length = L := ⟨_, rfl⟩
  rw [hL1] at HI hc1
  have z0 : (1 : Int) < (t.length : Int) := by omega
  have z1 : 1 < t.length := by omega
  obtain ⟨L, hL⟩ : ∃ L, t.length = L := ⟨_, rfl⟩
  rw [hL] at HW B1 z0 z1 ⊢
  obtain ⟨E, hE⟩ : ∃ E : Int, E = ((d - 1 : Nat) : Int) := ⟨_, rfl⟩
  rw [← hE] at HI
  have hLb : L ≤ 11 := by have := hs.d2; omega
  have hLE : IntKind.i64.wrap ((L : Int) - 2) = E := by rw [IntKind.wrap_i64]; omega
  have hsz : w.heap.size < W.heap.size := b1.2.2
  obtain ⟨x1, x2, -⟩ := b1
  rw [hL] at x2
  have HF := Lib.hid (fun w' (h : Below (w.heap.size + 1) W w') => (⟨(h.cell (p := ⟨w.heap.size, 0, none⟩) (by simp)).trans x1, (h.cell (p := ⟨w.heap.size, 1, none⟩) (by simp)).trans x2, (h.cell (p := ⟨b, off + 1, none⟩) (by simp; omega)).trans hc1⟩ :
    w'.cell? ⟨w.heap.size, 0, none⟩ = some (.int .i64 m) ∧ w'.cell? ⟨w.heap.size, 1, none⟩ = some (.slice (some ⟨b, off, none⟩) L c) ∧ w'.cell? ⟨b, off + 1, none⟩ = some (.slice A' L1 c')))
  have X0 := Lib.hid (keepW HF.out (below_less (by omega) (below_drew0 W)))
  clear hwb hW hr hs hR hL1 hL hcell hri x1 x2 hc1 hln hd1 hE hf hT hu
  go_enter Try.func89, Try.ntmps89
  go_wp2
  rw [HW.out]
  go_region_held3 (fun w' => (w'.cell? ⟨w.heap.size, 0, none⟩ = some (.int .i64 m) ∧ w'.cell? ⟨w.heap.size, 1, none⟩ = some (.slice (some ⟨b, off, none⟩) L c) ∧ w'.cell? ⟨b, off + 1, none⟩ = some (.slice A' L1 c')) ∧ Below (w.heap.size + 1) W w') (first | exact X0.out | exact keepS HF.out (by omega) (by assumption) hb3 | exact keepS HF.out (by omega) (by assumption) hb2) (first
    | (go_at_call 136; with_reducible refine Calls.mono (HI.out _ (below_drew0 _)) ?_; rintro e2 w2 ⟨s, rfl, ho, hb2⟩; obtain ⟨A2, c2, rfl, -⟩ := ho.form)
    | (go_at_call 111; with_reducible refine Calls.mono (HN.out _ _ _ ho.ri) ?_; rintro e3 w3 ⟨s3, rfl, ho3, hb3⟩))
  all_goals
    have hz2 := hb2.size
    have F2 := Lib.hid (OwnI.more (b' := w.heap.size) ho3 (show w.heap.size ≤ w2.heap.size from Nat.le_trans (Nat.le_of_lt hsz) hz2))
    have F3 := Lib.hid (below_step HB.out (below_step (below_step (below_drew0 W) hb2) hb3))
    clear ho ho3 hb2 hb3 hz2
    go_wp2
    go_ret
    exact ⟨_, rfl, F2.out, F3.out⟩
end Go.Proofs.Ytpmbojbdppbkgaa

