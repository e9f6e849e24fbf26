/- Contracts of CutSeries, of the program and of the model. -/
import Derived.Test.YtjgpdgoclianlabSok
import Derived.Laws.CopyOwn
namespace Go.Proofs.Ytjgpdgoclianlab
open Go.RowKit Go.WideShapes Go.ChangeShapes Go.ChangeAt

def cutM (m : Int) (l : List Int) (k : Int) : Int × List Int × Int :=
  if isS m l = true then (if inB k 1 ((l.length : Int) - 1) = true then (m, l.take (k.toNat + 1), 0) else (0, [], 2)) else (0, [], 1)
theorem cutM_len (m : Int) (l : List Int) (k : Int) : (cutM m l k).2.1.length ≤ 1048576 := by
  unfold cutM
  split
  · rename_i h
    obtain ⟨d, e, s⟩ := serOk_of h
    have := s.d2
    split
    · dsimp only; rw [List.length_take]; omega
    · simp
  · simp
theorem RI.take {w : World} {A : Option Addr} {l : List Int} (h : RI w A l) (n : Nat) : RI w A (l.take n) := by
  intro hl
  have hl2 : l ≠ [] := by rintro rfl; simp at hl
  obtain ⟨b, off, e, hlt, hc⟩ := h hl2
  refine ⟨b, off, e, hlt, fun k hk => ?_⟩
  rw [List.length_take] at hk
  rw [hc k (by omega), List.getElem?_take_of_lt (by omega)]

theorem OwnI.cap {w : World} {base : Nat} {A : Option Addr} {n c : Nat} {l : List Int} (h : OwnI w base (.slice A n c) l) : l.length ≤ c := by
  unfold OwnI at h
  rcases h.2 with ⟨hv, h0⟩ | ⟨g, cap, cur, hv, _, _, h1, _⟩
  · omega
  · injection hv with _ _ e
    subst e
    exact h1
theorem RI.news {w : World} {A : Option Addr} {l : List Int} (h : RI w A l) (hl : l ≠ []) : ∃ b off, A = some ⟨b, off, none⟩ ∧ ∀ j u, (l.map (Value.int .i64))[j]? = some u → w.cell? ((⟨b, off, none⟩ : Addr).add j) = some u := by
  obtain ⟨b, off, e, hlt, hc⟩ := h hl
  refine ⟨b, off, e, fun j u hj => ?_⟩
  rw [List.getElem?_map] at hj
  by_cases hjl : j < l.length
  · rw [List.getElem?_eq_getElem hjl] at hj
    simp only [Option.map_some, Option.some.injEq] at hj
    subst hj
    rw [add_plain, hc j hjl, List.getElem?_eq_getElem hjl]; rfl
  · rw [List.getElem?_eq_none (by omega)] at hj
    simp at hj
theorem cells1 (l : List Int) : ∀ v ∈ l.map (Value.int .i64), v.oneCell' = true := by
  intro v hv
  obtain ⟨x, _, rfl⟩ := List.mem_map.1 hv
  rfl
set_option maxHeartbeats 2000000 in
theorem copyOf_any (A : Option Addr) (c : Nat) (l : List Int) (w : World) (hne : l ≠ []) (hl : l.length ≤ 1000) (hr : RI w A l) :
    Calls Try.prog 82 #[.slice A l.length c] w fun e w' => ∃ v, e = .returned v ∧ OwnI w' w.heap.size v l ∧ Below w.heap.size w w' := by
  have hmk := fun W => run_make_row' (P := Try.prog) 26 2 (.int .i64 0) 8 Try.underlying26 info64 rfl .i64 .i64 l.length (by omega) (by omega) W
  obtain ⟨Z, hZ⟩ : ∃ Z, l.map (Value.int .i64) = Z := ⟨_, rfl⟩
  have hZl : Z.length = l.length := by rw [← hZ, List.length_map]
  have hZ1 : ∀ v ∈ Z, v.oneCell' = true := by rw [← hZ]; exact cells1 l
  obtain ⟨b, off, rfl, hn⟩ := (hr.below (below_one w (.cells (madeCells #[.int .i64 0] l.length) 2))).news hne
  rw [hZ] at hn
  have hcur : (w.alloc (.cells (madeCells #[.int .i64 0] l.length) 2)).heap[w.heap.size]? = some (.cells (List.replicate l.length (Value.int .i64 0)).toArray 2 (0, 0)) := by
    rw [heap_alloc_new]
    congr 2
    apply Array.ext'
    rw [toList_madeCells_one]
  have hsp : splice (List.replicate l.length (Value.int .i64 0)) 0 Z = Z := by
    unfold splice
    rw [List.take_zero, List.nil_append, Nat.zero_add, hZl, List.drop_of_length_le (by simp), List.append_nil]
  have HZ := Lib.hid hZ
  have HZL := Lib.hid hZl
  have HSP := Lib.hid hsp
  have HN := Lib.hid hn
  have HCU := Lib.hid hcur
  clear hZ hZl hsp hn hcur hr
  go_enter Try.func82, Try.ntmps82
  go_wp2_with (refine wpList_copy_splice (by rfl) _ _ _ _ (by rfl) 2 Try.underlying26 (by kernel_rfl) _ _ _ _ _ _ (by rfl) (by rfl) w.heap.size 0 _ 2 HCU.out Z (by rw [HZL.out]; exact (Nat.min_self _).symm) (fun _ => ⟨rfl, _, rfl, HN.out⟩) (by rw [HZL.out]; simp) hZ1 w.heap.size w (below_one _ _) (Nat.le_refl _) ?_; intro w2 HG2 hB2)
  have hg2 := HG2.out
  rw [HSP.out] at hg2
  have HF : Hid (OwnI w2 w.heap.size (.slice (some ⟨w.heap.size, 0, none⟩) l.length l.length) l) := by
    refine Lib.hid ⟨by simp, .inr ⟨w.heap.size, l.length, Z.toArray, rfl, Nat.le_refl _, hg2, Nat.le_refl _, by unfold maxLen; omega, by rw [List.size_toArray, HZL.out]; omega, ?_⟩⟩
    rw [Nat.mul_one, ← HZL.out]
    simp [HZ.out]
  have HB := Lib.hid hB2
  clear hg2 HG2 hB2
  go_wp2
  go_ret
  exact ⟨_, rfl, HF.out, HB.out⟩
theorem OwnI.empty' (w : World) : World.ownsRow (w.alloc (.cells #[] 2)) w.heap.size 2 1 (.slice (some ⟨w.heap.size, 0, none⟩) 0 0) 0 [] := OwnI.empty w
set_option maxHeartbeats 2000000 in
theorem l01Own_any (A : Option Addr) (c : Nat) (l : List Int) (w : World) (hne : l ≠ []) (hl : l.length ≤ 1000) (hr : RI w A l) :
    Calls Try.prog 77 #[.slice A l.length c] w fun e w' => ∃ v, e = .returned v ∧ OwnI w' w.heap.size v l ∧ Below w.heap.size w w' := by
  obtain ⟨Z, hZ⟩ : ∃ Z, l.map (Value.int .i64) = Z := ⟨_, rfl⟩
  have hZl : Z.length = l.length := by rw [← hZ, List.length_map]
  have hZ1 : ∀ v ∈ Z, v.oneCell' = true := by rw [← hZ]; exact cells1 l
  obtain ⟨b, off, rfl, hn⟩ := (hr.below (below_one w (.cells #[] 2))).news hne
  rw [hZ] at hn
  obtain ⟨i0, hi, hz0, hz1, hz2⟩ := info_parts info64
  have HZ := Lib.hid hZ
  have HZL := Lib.hid hZl
  have HN := Lib.hid hn
  have HO := Lib.hid (OwnI.empty' w)
  clear hZ hZl hn hr
  go_enter Try.func77, Try.ntmps77
  go_wp2_with (at_builtin; refine wpList_append_own _ (by rfl) _ _ _ (by rfl) w.heap.size 2 i0 (.int .i64 0) 1 8 Try.underlying26 hi hz0 hz1 hz2 rfl (by decide) _ 0 [] (by rfl) HO.out _ l.length _ Z (by rfl) (by rw [HZL.out]; omega) HN.out hZ1 (by unfold maxLen; omega) (by omega) (by simp) ?_; intro v' w2 h2 h3 _)
  have HF : Hid (OwnI w2 w.heap.size v' l) := by
    refine Lib.hid ?_
    unfold OwnI
    rw [HZ.out]
    simpa using h2
  have HB := Lib.hid ((below_one w (.cells #[] 2)).grown h3 (by simp) (fun k hk => by simp [Value.ownBlock] at hk; omega))
  clear h2 h3
  go_wp2
  go_ret
  exact ⟨_, rfl, HF.out, HB.out⟩

theorem l02DegB_any (m : Int) (A : Option Addr) (n c d : Nat) (w : World) (hn : n = d + 1) (hd : d ≤ 1000000) :
    Calls Try.prog 101 #[.agg #[.int .i64 m, .slice A n c]] w fun e w' => e = .returned (.int .i64 (d : Int)) ∧ Below w.heap.size w w' := by
  obtain ⟨h1, h2⟩ : (n : Int) - 1 = (d : Int) ∧ (n : Int) ≤ 9223372036854775807 := ⟨by omega, by omega⟩
  go_enter Try.func101, Try.ntmps101
  go_wp2
  go_ret
  exact ⟨rfl, below_one _ _⟩
set_option maxHeartbeats 4000000 in
set_option maxRecDepth 100000 in
theorem CutSeries_any (m : Int) (A : Option Addr) (c : Nat) (l : List Int) (k : Int) (w : World) (hl : l.length ≤ 1048576) (hcap : l.length ≤ c) (hr : RI w A l) :
    Calls Try.prog 46 #[.agg #[.int .i64 m, .slice A l.length c], .int .i64 k] w fun e w' => ∃ s, e = .returned (.tuple #[.agg #[.int .i64 (cutM m l k).1, s], .int .i64 (cutM m l k).2.2]) ∧ OwnI w' w.heap.size s (cutM m l k).2.1 ∧ Below w.heap.size w w' := by
  obtain ⟨W, hW, b1, v3, b4, hwb⟩ := pro1 w m A l.length c
  have B1 := Lib.hid b1
  have V3 := Lib.hid v3
  have HB := Lib.hid hwb
  have HW := Lib.hid hW
  have R1 := Lib.hid (hr.below hwb)
  have HC := Lib.hid (codeOfSeries1_any (w.heap.size + 1 + 1) m A c l W (by omega) R1.out b4)
  clear b1 v3 b4 hwb hW hr
  by_cases h0 : isS m l = true
  · obtain ⟨d, e1, s1⟩ := serOk_of h0
    have hc := HC.out
    rw [code1_isS h0] at hc
    have HC0 := Lib.hid hc
    have hd := s1.d2
    have HDG := Lib.hid (fun W0 => degree_nat m A l.length c d W0 e1 (by omega))
    clear hc HC
    have hel : (l.length : Int) - 1 = (d : Int) := by omega
    by_cases hk : inB k 1 (d : Int) = true
    · obtain ⟨k1, k2⟩ := (inB_iff _ _ _).1 hk
      obtain ⟨K, rfl⟩ := Int.eq_ofNat_of_zero_le (show 0 ≤ k by omega)
      have HA : Hid (cutM m l (K : Int) = (m, l.take (K + 1), 0)) := Lib.hid (by unfold cutM; rw [if_pos h0, hel, if_pos hk]; rfl)
      rw [HA.out]
      obtain ⟨L, hL⟩ : ∃ L, l.take (K + 1) = L := ⟨_, rfl⟩
      have hLl : L.length = K + 1 := by rw [← hL, List.length_take]; omega
      have HCP := Lib.hid (fun W0 (h : Below W.heap.size W W0) => copyOf_any A c L W0 (by intro e; rw [e] at hLl; simp at hLl) (by omega) (by rw [← hL]; exact (R1.out.below h).take _))
      rw [hLl] at HCP
      rw [hL]
      obtain ⟨b, off, rfl, -, -⟩ := R1.out.at 0 (by omega)
      have j0 : (0 : Int) ≤ (K : Int) + 1 := by omega
      have j1 : (K : Int) + 1 ≤ (c : Int) := by omega
      have j2 : ((K : Int) + 1).toNat = K + 1 := by omega
      have j3 : K + 1 ≤ c := by omega
      have w9 : IntKind.i64.wrap ((K : Int) + 1) = (K : Int) + 1 := by rw [IntKind.wrap_i64]; omega
      have HLL := Lib.hid hLl
      clear h0 e1 s1 hel hL hLl
      go_enter Try.func46, Try.ntmps46
      go_wp2_with fail
      rw [HW.out]
      refine HC0.out.mono ?_
      rintro e w0 ⟨rfl, hb0⟩
      obtain ⟨x1, x2⟩ := box_in B1.out hb0
      go_wp2_with fail
      refine (HDG.out _).mono ?_
      rintro e w1 ⟨rfl, hb1⟩
      have hb2 := below_step hb0 hb1
      clear x1 x2 hb0 hb1
      obtain ⟨x1, x2, x3⟩ := B1.out.keep hb2
      go_wp2_with (go_at_call 80; refine (isWithin_any _ _ _ _).mono ?_; rintro e w' ⟨rfl, rfl⟩)
      go_region_held3 (fun w' => w'.cell? ⟨w.heap.size, 0, none⟩ = some (.int .i64 m) ∧ w'.cell? ⟨w.heap.size, 1, none⟩ = some (.slice (some ⟨b, off, none⟩) l.length c) ∧ w.heap.size < w'.heap.size) (first | exact ⟨x1, x2, x3⟩ | exact (by assumption) | exact box_store (by omega) (by assumption) | exact box_call (by assumption) (by assumption)) (first
        | (go_at_call 82; refine (HCP.out _ (below_step hb2 (below_drew0 _))).mono ?_; rintro e4 w4 ⟨s, rfl, ho, hb4⟩; obtain ⟨A2, c2, rfl, _⟩ := ho.form; have hv := V3.out.keep (below_step (below_step hb2 (below_drew0 _)) hb4); have q0 := hv.c0; have q1 := hv.c1; have q2 := hv.fz 0; have q3 := hv.fz 1))
      all_goals
        have hw3 := below_step (below_step hb2 (below_drew0 _)) hb4
        have hz1 := (below_step hb2 (below_drew0 _)).size
        have hz2 := V3.out.lt
        obtain ⟨f0, f1, f2, f3⟩ := fin_var (w := w) hv ho (by omega) (by omega) (below_step HB.out hw3) (.int .i64 m) (.slice A2 L.length c2)
        have F2 := Lib.hid f2
        have F3 := Lib.hid f3
        clear f2 f3 ho hb2 hb4 hv hw3
        go_wp2
        exact bodyPost_ret (v := .tuple #[.agg #[.int .i64 m, .slice A2 L.length c2], .int .i64 0]) (by simp [results, Try.results46, go_sem, f0, f1]) rfl ⟨_, rfl, F2.out, F3.out⟩
    · have HA : Hid (cutM m l k = (0, [], 2)) := Lib.hid (by unfold cutM; rw [if_pos h0, hel, if_neg hk])
      rw [HA.out]
      have hk' : inB k 1 (d : Int) = false := by simpa using hk
      clear h0 e1 s1 hk hel
      go_enter Try.func46, Try.ntmps46
      go_wp2_with fail
      rw [HW.out]
      refine HC0.out.mono ?_
      rintro e w0 ⟨rfl, hb0⟩
      obtain ⟨x1, x2⟩ := box_in B1.out hb0
      go_wp2_with fail
      refine (HDG.out _).mono ?_
      rintro e w1 ⟨rfl, hb1⟩
      have hb2 := below_step hb0 hb1
      clear x1 x2
      have hv := V3.out.keep hb2
      have q0 := hv.c0
      have q1 := hv.c1
      have q2 := hv.fz 0
      have q3 := hv.fz 1
      obtain ⟨f0, f1, f2, f3⟩ := fin_var (w := w) hv (OwnI.nil _ (w.heap.size + 1 + 1 + 1)) (by omega) (by omega) (below_step HB.out hb2) (.int .i64 0) (.slice none 0 0)
      have F2 := Lib.hid f2
      have F3 := Lib.hid f3
      clear f2 f3 hv
      go_wp2_with (go_at_call 80; refine (isWithin_any _ _ _ _).mono ?_; rintro e w' ⟨rfl, rfl⟩)
      exact bodyPost_ret (v := .tuple #[.agg #[.int .i64 0, .slice none 0 0], .int .i64 2]) (by simp [results, Try.results46, go_sem, f0, f1]) rfl ⟨_, rfl, F2.out, F3.out⟩
  · have h0' : isS m l = false := by simpa using h0
    have HA : Hid (cutM m l k = (0, [], 1)) := Lib.hid (by unfold cutM; rw [if_neg h0])
    rw [HA.out]
    have hc := HC.out
    rw [code1_no h0'] at hc
    have HC0 := Lib.hid hc
    clear hc HC h0
    go_enter Try.func46, Try.ntmps46
    go_wp2_with fail
    rw [HW.out]
    refine HC0.out.mono ?_
    rintro e w1 ⟨rfl, hb1⟩
    have hv := V3.out.keep hb1
    have q0 := hv.c0
    have q1 := hv.c1
    have q2 := hv.fz 0
    have q3 := hv.fz 1
    obtain ⟨f0, f1, f2, f3⟩ := fin_var (w := w) hv (OwnI.nil _ (w.heap.size + 1 + 1 + 1)) (by omega) (by omega) (below_step HB.out hb1) (.int .i64 0) (.slice none 0 0)
    have F2 := Lib.hid f2
    have F3 := Lib.hid f3
    clear f2 f3 hv
    go_wp2
    exact bodyPost_ret (v := .tuple #[.agg #[.int .i64 0, .slice none 0 0], .int .i64 1]) (by simp [results, Try.results46, go_sem, f0, f1]) rfl ⟨_, rfl, F2.out, F3.out⟩
end Go.Proofs.Ytjgpdgoclianlab
