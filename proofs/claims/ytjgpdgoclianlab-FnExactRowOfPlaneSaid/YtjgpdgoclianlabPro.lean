/- Contracts of RowOfPlane, of the program and of the model. -/
import Derived.Test.YtjgpdgoclianlabGrd
import Derived.Test.YtjgpdgoclianlabCut
namespace Go.Proofs.Ytjgpdgoclianlab
open Go.RowKit Go.WideShapes Go.ChangeShapes Go.ChangeAt

theorem kp3_call {w w' : World} {a1 a2 a3 : Addr} {x y z : Value} (hb : Below w.heap.size w w') (hs : w.cell? a1 = some x ∧ w.cell? a2 = some y ∧ w.cell? a3 = some z) : w'.cell? a1 = some x ∧ w'.cell? a2 = some y ∧ w'.cell? a3 = some z :=
  ⟨(hb.cell (World.block_lt_of_cell? w a1 hs.1)).trans hs.1, (hb.cell (World.block_lt_of_cell? w a2 hs.2.1)).trans hs.2.1, (hb.cell (World.block_lt_of_cell? w a3 hs.2.2)).trans hs.2.2⟩
theorem kp3_store2 {w : World} {a1 a2 a3 : Addr} {g : Nat} {x y z u v : Value} (h1 : a1.block ≠ g) (h2 : a2.block ≠ g) (h3 : a3.block ≠ g) (hs : w.cell? a1 = some x ∧ w.cell? a2 = some y ∧ w.cell? a3 = some z) :
    ((w.setCell ⟨g, 0, none⟩ u).setCell ⟨g, 1, none⟩ v).cell? a1 = some x ∧ ((w.setCell ⟨g, 0, none⟩ u).setCell ⟨g, 1, none⟩ v).cell? a2 = some y ∧ ((w.setCell ⟨g, 0, none⟩ u).setCell ⟨g, 1, none⟩ v).cell? a3 = some z := by
  have k : ∀ (a : Addr), a.block ≠ g → ((w.setCell ⟨g, 0, none⟩ u).setCell ⟨g, 1, none⟩ v).heap[a.block]? = w.heap[a.block]? := fun a ha => (Below.heap_setCell _ _ _ _ ha).trans (Below.heap_setCell _ _ _ _ ha)
  exact ⟨(World.cell?_of_block (w := w) (k a1 h1)).trans hs.1, (World.cell?_of_block (w := w) (k a2 h2)).trans hs.2.1, (World.cell?_of_block (w := w) (k a3 h3)).trans hs.2.2⟩
/-- the model of RowOfPlane -/
def rowP (m : Int) (t : List (List Int)) (i : Int) : Int × List Int × Int :=
  if isP m t = true then (if inB i 0 ((t.length : Int) - 1 - 1) = true then (m, Pl.rw' t i.toNat, 0) else (0, [], 2)) else (0, [], 1)
theorem rowP_len (m : Int) (t : List (List Int)) (i : Int) : (rowP m t i).2.1.length ≤ 1048576 := by
  unfold rowP
  by_cases h : isP m t = true
  · rw [if_pos h]
    obtain ⟨d, e, ok⟩ := plOk_of h
    by_cases hi : inB i 0 ((t.length : Int) - 1 - 1) = true
    · rw [if_pos hi]
      have := (inB_iff _ _ _).1 hi
      have := ok.row i.toNat (by omega)
      have := ok.d2
      dsimp only
      omega
    · rw [if_neg hi]; exact Nat.zero_le _
  · rw [if_neg h]; exact Nat.zero_le _
theorem spro1S (w : World) (m : Int) (A : Option Addr) (n c : Nat) : ∃ W, (w.alloc (.cells #[.int .i64 m, .slice A n c] 31)).alloc (.cells #[.int .i64 0, .slice none 0 0] 28) = W ∧
    Box W w.heap.size m A n c ∧ VarC 28 W (w.heap.size + 1) #[.int .i64 0, .slice none 0 0] ∧ Below w.heap.size w W := by
  refine ⟨_, rfl, (Box.newT _ _ _ _ _ _).keep (below_one _ _), ?_, below_alloc _ (below_one _ _)⟩
  have := VarC.new 28 (w.alloc (.cells #[.int .i64 m, .slice A n c] 31)) #[.int .i64 0, .slice none 0 0]
  simpa using this
set_option maxHeartbeats 4000000 in
set_option maxRecDepth 100000 in
theorem RowOfPlane_any (m : Int) (A : Option Addr) (c : Nat) (t : List (List Int)) (i : Int) (w : World) (hz : szT t ≤ 1048576) (hr : RP w A t) :
    Calls Try.prog 12 #[.agg #[.int .i64 m, .slice A t.length c], .int .i64 i] w fun e w' => ∃ s, e = .returned (.tuple #[.agg #[.int .i64 (rowP m t i).1, s], .int .i64 (rowP m t i).2.2]) ∧ OwnI w' w.heap.size s (rowP m t i).2.1 ∧ Below w.heap.size w w' := by
  obtain ⟨W, hW, b1, v3, b4, hwb⟩ := pro1S w m A t.length c
  have B1 := Lib.hid b1
  have V3 := Lib.hid v3
  have HB := Lib.hid hwb
  have HW := Lib.hid hW
  have HC := Lib.hid (codeOfPlanes1_any (w.heap.size + 1 + 1) m A c t W hz (hr.below hwb) b4)
  have hfd := field_frame
  have hfd2 := fun (a b : Value) (W : World) => (show (Instr.field 74 (.agg #[a, b]) 1).run Try.prog W = .ok b W by kernel_rfl)
  by_cases h0 : isP m t = true
  · obtain ⟨d, e1, ok⟩ := plOk_of h0
    have hc := HC.out
    rw [codeP1_yes h0] at hc
    have HC0 := Lib.hid hc
    have HG := Lib.hid (fun W0 => gridOf_nat m A t.length c d W0 e1 (by have := ok.d2; omega))
    have he : (t.length : Int) - 1 - 1 = (d : Int) - 1 := by omega
    by_cases hk : inB i 0 ((d : Int) - 1) = true
    · obtain ⟨k1, k2⟩ := (inB_iff _ _ _).1 hk
      have HI := Lib.hid (fun W0 => by have := isWithin_any i 0 ((d : Int) - 1) W0; rw [hk] at this; exact this)
      obtain ⟨q, hq⟩ : ∃ q : Nat, (q : Int) = i := ⟨i.toNat, by omega⟩
      subst hq
      have HA : Hid (rowP m t (q : Int) = (m, Pl.rw' t q, 0)) := Lib.hid (by unfold rowP; rw [if_pos h0, he, if_pos hk, show (q : Int).toNat = q by omega])
      rw [HA.out]
      obtain ⟨b0, off, A1, c1, rfl, hb0, hc0, -, hri⟩ := hr.at q (by omega)
      have hne : Pl.rw' t q ≠ [] := by intro e; have := ok.row q (by omega); rw [e] at this; simp at this
      have HCP := Lib.hid (fun W0 (h : Below w.heap.size w W0) => copyOf_any A1 c1 (Pl.rw' t q) W0 hne (by have := ok.row q (by omega); have := ok.d2; omega) (hri.below h))
      obtain ⟨row, hrow⟩ : ∃ row, Pl.rw' t q = row := ⟨_, rfl⟩
      rw [hrow] at HCP hc0 ⊢
      have C0 := Lib.hid hc0
      have HL0 := Lib.hid hb0
      obtain ⟨N, hN⟩ : ∃ N, row.length = N := ⟨_, rfl⟩
      have HN := Lib.hid hN
      obtain ⟨L, hL⟩ : ∃ L, t.length = L := ⟨_, rfl⟩
      have hd2 := ok.d2
      have j0 : (0 : Int) ≤ (q : Int) := by omega
      have j1 : (q : Int) < (L : Int) := by omega
      rw [hL] at HG B1 HW ⊢
      rw [hN] at C0 HCP
      clear b1 v3 b4 hwb hW hr hc HC h0 ok e1 hk hc0 hb0 hri hne hrow hN hL he hz
      go_enter Try.func12, Try.ntmps12
      go_wp2_with fail
      rw [HW.out]
      refine HC0.out.mono ?_
      rintro e w1 ⟨rfl, hb1⟩
      obtain ⟨y1, y2, y3⟩ := B1.out.keep hb1
      go_wp2_with fail
      refine (HG.out _).mono ?_
      rintro e w2 ⟨rfl, hb2⟩
      go_wp2_with fail
      refine (HI.out _).mono ?_
      rintro e w' ⟨rfl, rfl⟩
      have hb12 := below_step hb1 hb2
      clear y1 y2 y3
      obtain ⟨x1, x2, x3⟩ := B1.out.keep hb12
      have x4 := ((below_step HB.out hb12).cell (p := ⟨b0, off + q, none⟩) HL0.out).trans C0.out
      have n1 : b0 ≠ w.heap.size + 1 := by have := HL0.out; omega
      have n2 : w.heap.size ≠ w.heap.size + 1 := by omega
      go_wp2
      go_region_held3 (fun w' => w'.cell? ⟨w.heap.size, 0, none⟩ = some (.int .i64 m) ∧ w'.cell? ⟨w.heap.size, 1, none⟩ = some (.slice (some ⟨b0, off, none⟩) L c) ∧ w'.cell? ⟨b0, off + q, none⟩ = some (.slice A1 N c1)) (first | exact ⟨x1, x2, x4⟩ | exact kp3_call hb5 ⟨x1, x2, x4⟩ | exact kp3_store2 n2 n2 n1 (by assumption)) (first
        | (go_at_call 82; refine (HCP.out _ (below_step HB.out (below_step hb12 (below_drew0 _)))).mono ?_; rintro e3 w5 ⟨u, rfl, ho, hb5⟩; obtain ⟨A2, c2, rfl, -⟩ := ho.form; have hv := V3.out.keep (below_step (below_step hb12 (below_drew0 _)) hb5); obtain ⟨q0, q1, q2, q3⟩ := hv.tells2))
      all_goals
        have hsz := (below_step hb12 (below_drew0 w2)).size
        have hz2 := V3.out.lt
        obtain ⟨f0, f1, f2, f3⟩ := fin_serC (w := w) hv ho (by omega) (by omega) (below_step HB.out (below_step (below_step hb12 (below_drew0 _)) hb5)) (.int .i64 m) (.slice A2 row.length c2)
        have F2 := Lib.hid (OwnI.more (b' := w.heap.size) f2 (by omega))
        have F3 := Lib.hid f3
        clear f2 f3 ho hv hb5
        go_wp2
        exact bodyPost_ret (v := .tuple #[.agg #[.int .i64 m, .slice A2 row.length c2], .int .i64 0]) (by simp [results, Try.results12, go_sem, f0, f1]) rfl ⟨_, rfl, F2.out, F3.out⟩
    · have HA : Hid (rowP m t i = (0, [], 2)) := Lib.hid (by unfold rowP; rw [if_pos h0, he, if_neg hk])
      rw [HA.out]
      have hk' : inB i 0 ((d : Int) - 1) = false := by simpa using hk
      have hd2 := ok.d2
      have HI := Lib.hid (fun W0 => by have := isWithin_any i 0 ((d : Int) - 1) W0; rw [hk'] at this; exact this)
      clear b1 v3 b4 hwb hW hr hc HC h0 ok e1 hk hk' he hz
      go_enter Try.func12, Try.ntmps12
      go_wp2_with fail
      rw [HW.out]
      refine HC0.out.mono ?_
      rintro e w1 ⟨rfl, hb1⟩
      obtain ⟨y1, y2, y3⟩ := B1.out.keep hb1
      go_wp2_with fail
      refine (HG.out _).mono ?_
      rintro e w2 ⟨rfl, hb2⟩
      go_wp2_with fail
      refine (HI.out _).mono ?_
      rintro e w' ⟨rfl, rfl⟩
      have hv := V3.out.keep (below_step hb1 hb2)
      obtain ⟨q0, q1, q2, q3⟩ := hv.tells2
      obtain ⟨f0, f1, f2, f3⟩ := fin_serC (w := w) hv (OwnI.nil _ (w.heap.size + 1 + 1)) (by omega) (by omega) (below_step HB.out (below_step hb1 hb2)) (.int .i64 0) (.slice none 0 0)
      have F2 := Lib.hid (OwnI.more (b' := w.heap.size) f2 (by omega))
      have F3 := Lib.hid f3
      clear f2 f3 hv
      go_wp2
      exact bodyPost_ret (v := .tuple #[.agg #[.int .i64 0, .slice none 0 0], .int .i64 (2)]) (by simp [results, Try.results12, go_sem, f0, f1]) rfl ⟨_, rfl, F2.out, F3.out⟩
  · have h0' : isP m t = false := by simpa using h0
    have hc := HC.out
    rw [codeP1_no h0'] at hc
    have HC0 := Lib.hid hc
    have HA : Hid (rowP m t i = (0, [], 1)) := Lib.hid (by unfold rowP; rw [if_neg h0])
    rw [HA.out]
    clear b1 v3 b4 hwb hW hr hc HC h0 h0' hz
    go_enter Try.func12, Try.ntmps12
    go_wp2_with fail
    rw [HW.out]
    refine HC0.out.mono ?_
    rintro e w1 ⟨rfl, hb1⟩
    have hv := V3.out.keep (hb1)
    obtain ⟨q0, q1, q2, q3⟩ := hv.tells2
    obtain ⟨f0, f1, f2, f3⟩ := fin_serC (w := w) hv (OwnI.nil _ (w.heap.size + 1 + 1)) (by omega) (by omega) (below_step HB.out (hb1)) (.int .i64 0) (.slice none 0 0)
    have F2 := Lib.hid (OwnI.more (b' := w.heap.size) f2 (by omega))
    have F3 := Lib.hid f3
    clear f2 f3 hv
    go_wp2
    exact bodyPost_ret (v := .tuple #[.agg #[.int .i64 0, .slice none 0 0], .int .i64 (1)]) (by simp [results, Try.results12, go_sem, f0, f1]) rfl ⟨_, rfl, F2.out, F3.out⟩
set_option maxHeartbeats 4000000 in
set_option maxRecDepth 100000 in
theorem sRowOfPlane_any (m : Int) (A : Option Addr) (c : Nat) (t : List (List Int)) (i : Int) (w : World) (hz : szT t ≤ 1048576) (hr : RP w A t) :
    Calls Try.prog 10 #[.agg #[.int .i64 m, .slice A t.length c], .int .i64 i] w fun e w' => ∃ s, e = .returned (.tuple #[.agg #[.int .i64 (rowP m t i).1, s], .int .i64 (rowP m t i).2.2]) ∧ OwnI w' w.heap.size s (rowP m t i).2.1 ∧ Below w.heap.size w w' := by
  obtain ⟨W, hW, b1, v3, hwb⟩ := spro1S w m A t.length c
  have B1 := Lib.hid b1
  have V3 := Lib.hid v3
  have HB := Lib.hid hwb
  have HW := Lib.hid hW
  have HC := Lib.hid (l03Is_z m A c t W hz (hr.below hwb))
  by_cases h0 : isP m t = true
  · obtain ⟨d, e1, ok⟩ := plOk_of h0
    have hc := HC.out
    rw [h0] at hc
    have HC0 := Lib.hid hc
    have HG := Lib.hid (fun W0 => l03Degree_any m A t.length c d W0 e1 (by have := ok.d2; omega))
    have he : (t.length : Int) - 1 - 1 = (d : Int) - 1 := by omega
    by_cases hk : inB i 0 ((d : Int) - 1) = true
    · obtain ⟨k1, k2⟩ := (inB_iff _ _ _).1 hk
      have HI := Lib.hid (fun W0 => by have := l01In_any i 0 ((d : Int) - 1) W0; rw [hk] at this; exact this)
      obtain ⟨q, hq⟩ : ∃ q : Nat, (q : Int) = i := ⟨i.toNat, by omega⟩
      subst hq
      have HA : Hid (rowP m t (q : Int) = (m, Pl.rw' t q, 0)) := Lib.hid (by unfold rowP; rw [if_pos h0, he, if_pos hk, show (q : Int).toNat = q by omega])
      rw [HA.out]
      obtain ⟨b0, off, A1, c1, rfl, hb0, hc0, -, hri⟩ := hr.at q (by omega)
      have hne : Pl.rw' t q ≠ [] := by intro e; have := ok.row q (by omega); rw [e] at this; simp at this
      have HCP := Lib.hid (fun W0 (h : Below w.heap.size w W0) => l01Own_any A1 c1 (Pl.rw' t q) W0 hne (by have := ok.row q (by omega); have := ok.d2; omega) (hri.below h))
      obtain ⟨row, hrow⟩ : ∃ row, Pl.rw' t q = row := ⟨_, rfl⟩
      rw [hrow] at HCP hc0 ⊢
      have C0 := Lib.hid hc0
      have HL0 := Lib.hid hb0
      obtain ⟨N, hN⟩ : ∃ N, row.length = N := ⟨_, rfl⟩
      have HN := Lib.hid hN
      obtain ⟨L, hL⟩ : ∃ L, t.length = L := ⟨_, rfl⟩
      have hd2 := ok.d2
      have j0 : (0 : Int) ≤ (q : Int) := by omega
      have j1 : (q : Int) < (L : Int) := by omega
      rw [hL] at HG B1 HW HC0 ⊢
      rw [hN] at C0 HCP
      clear b1 v3 hwb hW hr hc HC h0 ok e1 hk hc0 hb0 hri hne hrow hN hL he hz
      go_enter Try.func10, Try.ntmps10
      go_wp2_with fail
      rw [HW.out]
      refine HC0.out.mono ?_
      rintro e w1 ⟨rfl, hb1⟩
      obtain ⟨y1, y2, y3⟩ := B1.out.keep hb1
      go_wp2_with fail
      refine (HG.out _).mono ?_
      rintro e w2 ⟨rfl, hb2⟩
      go_wp2_with fail
      refine (HI.out _).mono ?_
      rintro e w' ⟨rfl, rfl⟩
      have hb12 := below_step hb1 hb2
      clear y1 y2 y3
      obtain ⟨x1, x2, x3⟩ := B1.out.keep hb12
      have x4 := ((below_step HB.out hb12).cell (p := ⟨b0, off + q, none⟩) HL0.out).trans C0.out
      have n1 : b0 ≠ w.heap.size + 1 := by have := HL0.out; omega
      have n2 : w.heap.size ≠ w.heap.size + 1 := by omega
      go_wp2
      go_region_held3 (fun w' => w'.cell? ⟨w.heap.size, 0, none⟩ = some (.int .i64 m) ∧ w'.cell? ⟨w.heap.size, 1, none⟩ = some (.slice (some ⟨b0, off, none⟩) L c) ∧ w'.cell? ⟨b0, off + q, none⟩ = some (.slice A1 N c1)) (first | exact ⟨x1, x2, x4⟩ | exact kp3_call hb6 (by assumption) | exact kp3_call hb5 ⟨x1, x2, x4⟩ | exact kp3_store2 n2 n2 n1 (by assumption)) (first
        | (go_at_call 77; refine (HCP.out _ (below_step HB.out (below_step hb12 (below_drew0 _)))).mono ?_; rintro e3 w5 ⟨u, rfl, ho, hb5⟩; obtain ⟨A2, c2, rfl, -⟩ := ho.form)
        | (go_at_call 76; refine (l02Make_any _ _ _ _ _).mono ?_; rintro e4 w6 ⟨rfl, hb6⟩; have hv := V3.out.keep (below_step (below_step (below_step hb12 (below_drew0 _)) hb5) hb6); obtain ⟨q0, q1, q2, q3⟩ := hv.tells2))
      all_goals
        have hsz := (below_step hb12 (below_drew0 w2)).size
        have hz2 := V3.out.lt
        obtain ⟨f0, f1, f2, f3⟩ := fin_serC (w := w) hv (ho.keep hb6) (by omega) (by omega) (below_step HB.out (below_step (below_step (below_step hb12 (below_drew0 _)) hb5) hb6)) (.int .i64 m) (.slice A2 row.length c2)
        have F2 := Lib.hid (OwnI.more (b' := w.heap.size) f2 (by omega))
        have F3 := Lib.hid f3
        clear f2 f3 ho hv hb5 hb6
        go_wp2
        exact bodyPost_ret (v := .tuple #[.agg #[.int .i64 m, .slice A2 row.length c2], .int .i64 0]) (by simp [results, Try.results10, go_sem, f0, f1]) rfl ⟨_, rfl, F2.out, F3.out⟩
    · have HA : Hid (rowP m t i = (0, [], 2)) := Lib.hid (by unfold rowP; rw [if_pos h0, he, if_neg hk])
      rw [HA.out]
      have hk' : inB i 0 ((d : Int) - 1) = false := by simpa using hk
      have hd2 := ok.d2
      have HI := Lib.hid (fun W0 => by have := l01In_any i 0 ((d : Int) - 1) W0; rw [hk'] at this; exact this)
      clear b1 v3 hwb hW hr hc HC h0 ok e1 hk hk' he hz
      go_enter Try.func10, Try.ntmps10
      go_wp2_with fail
      rw [HW.out]
      refine HC0.out.mono ?_
      rintro e w1 ⟨rfl, hb1⟩
      obtain ⟨y1, y2, y3⟩ := B1.out.keep hb1
      go_wp2_with fail
      refine (HG.out _).mono ?_
      rintro e w2 ⟨rfl, hb2⟩
      go_wp2_with fail
      refine (HI.out _).mono ?_
      rintro e w' ⟨rfl, rfl⟩
      have hv := V3.out.keep (below_step hb1 hb2)
      obtain ⟨q0, q1, q2, q3⟩ := hv.tells2
      obtain ⟨f0, f1, f2, f3⟩ := fin_serC (w := w) hv (OwnI.nil _ (w.heap.size + 1 + 1)) (by omega) (by omega) (below_step HB.out (below_step hb1 hb2)) (.int .i64 0) (.slice none 0 0)
      have F2 := Lib.hid (OwnI.more (b' := w.heap.size) f2 (by omega))
      have F3 := Lib.hid f3
      clear f2 f3 hv
      go_wp2
      exact bodyPost_ret (v := .tuple #[.agg #[.int .i64 0, .slice none 0 0], .int .i64 (2)]) (by simp [results, Try.results10, go_sem, f0, f1]) rfl ⟨_, rfl, F2.out, F3.out⟩
  · have h0' : isP m t = false := by simpa using h0
    have hc := HC.out
    rw [h0'] at hc
    have HC0 := Lib.hid hc
    have HA : Hid (rowP m t i = (0, [], 1)) := Lib.hid (by unfold rowP; rw [if_neg h0])
    rw [HA.out]
    clear b1 v3 hwb hW hr hc HC h0 h0' hz
    go_enter Try.func10, Try.ntmps10
    go_wp2_with fail
    rw [HW.out]
    refine HC0.out.mono ?_
    rintro e w1 ⟨rfl, hb1⟩
    have hv := V3.out.keep (hb1)
    obtain ⟨q0, q1, q2, q3⟩ := hv.tells2
    obtain ⟨f0, f1, f2, f3⟩ := fin_serC (w := w) hv (OwnI.nil _ (w.heap.size + 1 + 1)) (by omega) (by omega) (below_step HB.out (hb1)) (.int .i64 0) (.slice none 0 0)
    have F2 := Lib.hid (OwnI.more (b' := w.heap.size) f2 (by omega))
    have F3 := Lib.hid f3
    clear f2 f3 hv
    go_wp2
    exact bodyPost_ret (v := .tuple #[.agg #[.int .i64 0, .slice none 0 0], .int .i64 (1)]) (by simp [results, Try.results10, go_sem, f0, f1]) rfl ⟨_, rfl, F2.out, F3.out⟩
end Go.Proofs.Ytjgpdgoclianlab
