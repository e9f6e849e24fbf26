/- Contracts of the exact laws' helpers on planes: size, copying, comparing, marking, looking at the marks. -/
import Derived.Test.YtjgpdgoclianlaaRp
namespace Go.Proofs.Ytjgpdgoclianlaa
open Go.RowKit Go.WideShapes Go.ChangeShapes Go.ChangeAt

/-- the slice of slices at A, wherever they begin, holds the rows -/
def RQ (w : World) (A : Option Addr) (t : List (List Int)) : Prop :=
  t ≠ [] → ∃ ad : Addr, A = some ad ∧ ad.block < w.heap.size ∧ ∀ k, k < t.length → ∃ A' c', w.cell? (ad.add k) = some (.slice A' (Pl.rw' t k).length c') ∧ RA w A' (Pl.rw' t k)
theorem RQ.below {w w' : World} {A : Option Addr} {t : List (List Int)} (h : RQ w A t) (hb : Below w.heap.size w w') : RQ w' A t := by
  intro hl
  obtain ⟨ad, e, hlt, hc⟩ := h hl
  refine ⟨ad, e, Nat.lt_of_lt_of_le hlt hb.size, fun k hk => ?_⟩
  obtain ⟨A', c', h1, h3⟩ := hc k hk
  exact ⟨A', c', (hb.cell (p := ad.add k) (by rw [add_block]; exact hlt)).trans h1, h3.below hb⟩
theorem RQ.at {w : World} {A : Option Addr} {t : List (List Int)} (h : RQ w A t) (k : Nat) (hk : k < t.length) :
    ∃ (ad : Addr) (A' : Option Addr) (c' : Nat), A = some ad ∧ ad.block < w.heap.size ∧ w.cell? (ad.add k) = some (.slice A' (Pl.rw' t k).length c') ∧ RA w A' (Pl.rw' t k) := by
  obtain ⟨ad, e, hlt, hc⟩ := h (by rintro rfl; simp at hk)
  obtain ⟨A', c', h1, h3⟩ := hc k hk
  exact ⟨ad, A', c', e, hlt, h1, h3⟩

theorem take_tot (t : List (List Int)) (j : Nat) (h : j < t.length) : tot (t.take (j + 1)) = tot (t.take j) + (Pl.rw' t j).length := take_succ_tot t j h
/-- how many elements a table has on both levels -/
def szT (t : List (List Int)) : Nat := t.length + tot t
theorem tot_row (t : List (List Int)) (k : Nat) : (Pl.rw' t k).length ≤ tot t := by
  by_cases hk : k < t.length
  · have h1 := take_tot t k hk
    have h2 := tot_take_le t (k + 1)
    omega
  · rw [Pl.rw_over (by omega)]; exact Nat.zero_le _

set_option maxHeartbeats 1000000 in
theorem szInt64SS_any (A : Option Addr) (c : Nat) (t : List (List Int)) (left : Int) (w : World) (h1 : 0 ≤ left) (h2 : left ≤ 1048576) (hq : RQ w A t) (hl : t.length ≤ 9223372036854775807) (hrl : ∀ k, (Pl.rw' t k).length ≤ 9223372036854775807) :
    Calls Try.prog 52 #[.slice A t.length c, .int .i64 left] w fun e w' => e = .returned (.int .i64 (if ((szT t : Nat) : Int) ≤ left then left - (szT t : Nat) else -1)) ∧ w = w' := by
  obtain ⟨R, hR⟩ : ∃ R, (if ((szT t : Nat) : Int) ≤ left then left - (szT t : Nat) else -1) = R := ⟨_, rfl⟩
  rw [hR]
  have HRR := Lib.hid hR
  clear hR
  by_cases hz : (t.length : Int) ≤ left
  · have HR := Lib.hid hrl
    clear hrl
    go_enter Try.func52, Try.ntmps52
    go_wp2
    go_loop [5, 1] (fun i m => ∃ k : Nat, k ≤ t.length ∧ i = .int .i64 k ∧ m = .int .i64 (left - t.length - tot (t.take k)) ∧ 0 ≤ left - t.length - tot (t.take k)) (fun i _ => t.length - (intOf i).toNat)
    case atStart => exact ⟨0, Nat.zero_le _, rfl, by simp [tot], by simp [tot]; omega⟩
    case round =>
      obtain ⟨k, hk, rfl, rfl, hnn⟩ := hrel
      by_cases hlt : k < t.length
      · obtain ⟨ad, A', c', rfl, hb, hc, -⟩ := hq.at k hlt
        have hT := take_tot t k hlt
        have hT2 := tot_take_le t (k + 1)
        have hr := HR.out k
        obtain ⟨n, hn⟩ : ∃ n, (Pl.rw' t k).length = n := ⟨_, rfl⟩
        obtain ⟨T, hTT⟩ : ∃ T, tot (t.take k) = T := ⟨_, rfl⟩
        obtain ⟨T2, hTT2⟩ : ∃ T, tot (t.take (k + 1)) = T := ⟨_, rfl⟩
        rw [hn] at hc hT hr
        rw [hTT] at hT hnn ⊢
        rw [hTT2] at hT hT2
        have HTT2 := Lib.hid hTT2
        have HT := Lib.hid hT
        have HT2 := Lib.hid hT2
        have hj0 : (0 : Int) ≤ (k : Int) := by omega
        have hj1 : (k : Int) < (t.length : Int) := by omega
        have HS := Lib.hid (fun W => szInt64S_any A' n c' (left - t.length - T) W hnn (by omega) hr)
        by_cases hfit : (n : Int) ≤ left - t.length - T
        · rw [if_pos hfit] at HS
          clear hn hTT hTT2 hT hT2 hq
          go_wp2_with (go_at_call 83; refine (HS.out _).mono ?_; rintro e w2 ⟨rfl, rfl⟩)
          go_round
          case rel => exact ⟨k + 1, by omega, by go_num, by have := HT.out; rw [HTT2.out, this]; congr 1; push_cast; omega, by have := HT.out; rw [HTT2.out, this]; push_cast; omega⟩
          case measure => simp only [intOf]; omega
        · rw [if_neg hfit] at HS
          have hno : ¬ ((szT t : Nat) : Int) ≤ left := by unfold szT; omega
          have HNO := Lib.hid (show R = -1 by rw [← HRR.out, if_neg hno])
          clear hn hTT hTT2 hT hT2 hq hno
          go_wp2_with (go_at_call 83; refine (HS.out _).mono ?_; rintro e w2 ⟨rfl, rfl⟩)
          go_ret
          exact ⟨ret_int HNO.out.symm, rfl⟩
      · obtain rfl : k = t.length := by omega
        have hyes : ((szT t : Nat) : Int) ≤ left := by unfold szT; rw [List.take_length] at hnn; push_cast; omega
        have HY := Lib.hid (show R = left - t.length - tot (t.take t.length) by rw [← HRR.out, if_pos hyes, List.take_length]; unfold szT; push_cast; omega)
        clear hyes
        go_wp2
        go_ret
        exact ⟨ret_int (by have := HY.out; rw [List.take_length] at this; exact this.symm), rfl⟩
  · have hno : ¬ ((szT t : Nat) : Int) ≤ left := by unfold szT; omega
    have HNO := Lib.hid (show R = -1 by rw [← HRR.out, if_neg hno])
    clear hno
    go_enter Try.func52, Try.ntmps52
    go_wp2
    go_ret
    exact ⟨ret_int HNO.out.symm, rfl⟩
theorem szPlane_any (m : Int) (A : Option Addr) (c : Nat) (t : List (List Int)) (left : Int) (w : World) (h1 : 0 ≤ left) (h2 : left ≤ 1048576) (hq : RQ w A t) (hl : t.length ≤ 9223372036854775807) (hrl : ∀ k, (Pl.rw' t k).length ≤ 9223372036854775807) :
    Calls Try.prog 16 #[.agg #[.int .i64 m, .slice A t.length c], .int .i64 left] w fun e w' => e = .returned (.int .i64 (if ((szT t : Nat) : Int) ≤ left then left - (szT t : Nat) else -1)) ∧ Below w.heap.size w w' := by
  have hsz := fun W (h : Below w.heap.size w W) => szInt64SS_any A c t left W h1 h2 (hq.below h) hl hrl
  by_cases h : ((szT t : Nat) : Int) ≤ left
  · rw [if_pos h] at hsz ⊢
    have HS := Lib.hid hsz
    clear hsz
    go_enter Try.func16, Try.ntmps16
    go_wp2_with (go_at_call 52; refine (HS.out _ (below_one _ _)).mono ?_; rintro e w' ⟨rfl, rfl⟩)
    go_ret
    exact ⟨rfl, below_one _ _⟩
  · rw [if_neg h] at hsz ⊢
    have HS := Lib.hid hsz
    clear hsz
    go_enter Try.func16, Try.ntmps16
    go_wp2_with (go_at_call 52; refine (HS.out _ (below_one _ _)).mono ?_; rintro e w' ⟨rfl, rfl⟩)
    go_ret
    exact ⟨rfl, below_one _ _⟩
theorem szPlane_ok (m : Int) (A : Option Addr) (c : Nat) (t : List (List Int)) (left : Int) (w : World) (h : ((szT t : Nat) : Int) ≤ left) (h2 : left ≤ 1048576) (hq : RQ w A t) :
    Calls Try.prog 16 #[.agg #[.int .i64 m, .slice A t.length c], .int .i64 left] w fun e w' => e = .returned (.int .i64 (left - (szT t : Nat))) ∧ Below w.heap.size w w' := by
  have := szPlane_any m A c t left w (by omega) h2 hq (by unfold szT at h; omega) (fun k => by have := tot_row t k; unfold szT at h; omega)
  rwa [if_pos h] at this
theorem szPlane_no (m : Int) (A : Option Addr) (c : Nat) (t : List (List Int)) (left : Int) (w : World) (h : ¬ ((szT t : Nat) : Int) ≤ left) (h1 : 0 ≤ left) (h2 : left ≤ 1048576) (hq : RQ w A t) (hl : t.length ≤ 9223372036854775807) (hrl : ∀ k, (Pl.rw' t k).length ≤ 9223372036854775807) :
    Calls Try.prog 16 #[.agg #[.int .i64 m, .slice A t.length c], .int .i64 left] w fun e w' => e = .returned (.int .i64 (-1)) ∧ Below w.heap.size w w' := by
  have := szPlane_any m A c t left w h1 h2 hq hl hrl
  rwa [if_neg h] at this

theorem rows_step (t : List (List Int)) (k : Nat) (h : k < t.length) : (t.take k ++ List.replicate (t.length - k) []).set k (Pl.rw' t k) = t.take (k + 1) ++ List.replicate (t.length - (k + 1)) [] := by
  have e : t[k] = Pl.rw' t k := by unfold Pl.rw'; rw [List.getElem?_eq_getElem h]; rfl
  rw [List.set_append_right _ _ (by simp; omega), List.length_take, Nat.min_eq_left (by omega), Nat.sub_self, show t.length - k = (t.length - (k + 1)) + 1 by omega, List.replicate_succ, List.set_cons_zero, List.take_succ_eq_append_getElem h, e, List.append_assoc]
  rfl

set_option maxHeartbeats 1000000 in
theorem toInt64SS_any (A : Option Addr) (c : Nat) (t : List (List Int)) (w : World) (hl : t.length ≤ 1048576) (hrl : ∀ k, (Pl.rw' t k).length ≤ 1048576) (hq : RQ w A t) :
    Calls Try.prog 54 #[.slice A t.length c] w fun e w' => ∃ v, e = .returned v ∧ OwnR w' w.heap.size w'.heap.size v t ∧ Below w.heap.size w w' := by
  have hmk := fun W => run_make_row' (P := Try.prog) 22 45 (.slice none 0 0) 24 Try.underlying22 infoRow rfl .i64 .i64 t.length (by omega) (by omega) W
  have HR := Lib.hid hrl
  have HQ := Lib.hid hq
  clear hrl hq
  go_enter Try.func54, Try.ntmps54
  go_wp2
  go_loopw [4] (fun i wr => ∃ k : Nat, k ≤ t.length ∧ i = .int .i64 k ∧ OwnR wr w.heap.size wr.heap.size (.slice (some ⟨w.heap.size, 0, none⟩) t.length t.length) (t.take k ++ List.replicate (t.length - k) []) ∧ Below w.heap.size w wr) (fun i _ => t.length - (intOf i).toNat)
  case atStart => exact ⟨0, Nat.zero_le _, rfl, by simpa using OwnR.made w t.length (by unfold maxLen; omega), (Below.refl _ _).alloc (Nat.le_refl _) _⟩
  case round =>
    clear hmk
    obtain ⟨k, hk, rfl, hown, hbel⟩ := hrel
    have HB := Lib.hid hbel
    have HO := Lib.hid hown
    clear hown hbel
    by_cases hlt : k < t.length
    · obtain ⟨ad, A', c', rfl, hb, hc, hra⟩ := HQ.out.at k hlt
      have hck := (HB.out.cell (p := ad.add k) (by rw [add_block]; exact hb)).trans hc
      have hr := HR.out k
      have HST := Lib.hid (rows_step t k hlt)
      obtain ⟨r, hrr⟩ : ∃ r, Pl.rw' t k = r := ⟨_, rfl⟩
      rw [hrr] at hck hra hr HST
      have HA := Lib.hid (hra.below HB.out)
      have hj0 : (0 : Int) ≤ (k : Int) := by omega
      have hj1 : (k : Int) < (t.length : Int) := by omega
      have hlen : k < (t.take k ++ List.replicate (t.length - k) ([] : List Int)).length := by simp; omega
      clear hc hra hrr hb
      go_wp2_with fail
      refine (toInt64S_any _ _ r _ hr HA.out).mono ?_
      rintro e w1 ⟨u0, rfl, ho1, hb1⟩
      obtain ⟨Au, cu, rfl, _⟩ := ho1.form
      obtain ⟨u, hu⟩ : ∃ u, Value.slice Au r.length cu = u := ⟨_, rfl⟩
      rw [hu] at ho1
      have ho2 := HO.out.keep hb1
      obtain ⟨l0, _, _, hf, _, _, hcg, _⟩ := ho2.cell k hlen
      have hput := ho2.put k hlen u r (ho1.more HB.out.size) (hi' := w1.heap.size) (fun b hb => ho1.lt b hb) hb1.size
      rw [HST.out] at hput
      subst hu
      have HP := Lib.hid hput
      have HB1 := Lib.hid ((below_step HB.out hb1).setCell (p := ⟨w.heap.size, k, none⟩) (Nat.le_refl _) (.slice Au r.length cu))
      clear hput ho1 ho2 hb1
      go_wp2
      go_roundw
      case rel => exact ⟨k + 1, by omega, by go_num, HP.out.more (by simp [World.setCell]), HB1.out⟩
      case measure => simp only [intOf]; omega
    · obtain rfl : k = t.length := by omega
      have hfin := HO.out
      rw [Nat.sub_self, List.replicate_zero, List.append_nil, List.take_length] at hfin
      have HFin := Lib.hid hfin
      clear hfin
      go_wp2
      go_ret
      exact ⟨_, rfl, HFin.out, HB.out⟩

set_option maxHeartbeats 1000000 in
theorem toPlane_any (m : Int) (A : Option Addr) (c : Nat) (t : List (List Int)) (w : World) (hl : szT t ≤ 1048576) (hq : RQ w A t) :
    Calls Try.prog 18 #[.agg #[.int .i64 m, .slice A t.length c]] w fun e w' => ∃ s, e = .returned (.agg #[.int .i64 m, s]) ∧ OwnR w' w.heap.size w'.heap.size s t ∧ Below w.heap.size w w' := by
  obtain ⟨W, hW⟩ : ∃ W, (((w.alloc (.cells #[.int .i64 m, .slice A t.length c] 24)).alloc (.cells #[.int .i64 0, .slice none 0 0] 27)).alloc (.cells #[.int .i64 m, .slice none 0 0] 27)) = W := ⟨_, rfl⟩
  have hwb : Below w.heap.size w W := by rw [← hW]; exact below_alloc _ (below_alloc _ (below_one _ _))
  have v1 : VarC 27 W (w.heap.size + 1) #[.int .i64 0, .slice none 0 0] := by
    rw [← hW]
    have := (VarC.new 27 (w.alloc (.cells #[.int .i64 m, .slice A t.length c] 24)) #[.int .i64 0, .slice none 0 0]).keep (below_one _ (.cells #[.int .i64 m, .slice none 0 0] 27))
    simpa using this
  have v2 : VarC 27 W (w.heap.size + 1 + 1) #[.int .i64 m, .slice none 0 0] := by
    rw [← hW]
    have := VarC.new 27 ((w.alloc (.cells #[.int .i64 m, .slice A t.length c] 24)).alloc (.cells #[.int .i64 0, .slice none 0 0] 27)) #[.int .i64 m, .slice none 0 0]
    simpa using this
  have HT := Lib.hid (fun W' (h : Below W.heap.size W W') => toInt64SS_any A c t W' (by unfold szT at hl; omega) (fun k => by have := tot_row t k; unfold szT at hl; omega) ((hq.below hwb).below h))
  have HW := Lib.hid hW
  have HB := Lib.hid hwb
  have V1 := Lib.hid v1
  have V2 := Lib.hid v2
  clear hq hW hwb v1 v2
  go_enter Try.func18, Try.ntmps18
  go_wp2_with fail
  rw [HW.out]
  refine (HT.out _ (Below.refl _ _)).mono ?_
  rintro e w1 ⟨s, rfl, ho1, hb1⟩
  obtain ⟨A1, c1, rfl, _⟩ := ho1.len
  have hu := V2.out.keep hb1
  have q1 : w1.cell? ⟨w.heap.size + 1 + 1, 1, none⟩ = some (.slice none 0 0) := hu.cell 1 _ rfl
  have q2 := hu.fz 1
  have hu2 := hu.set 1 (.slice A1 t.length c1)
  have q3 : (w1.setCell ⟨w.heap.size + 1 + 1, 1, none⟩ (.slice A1 t.length c1)).cell? ⟨w.heap.size + 1 + 1, 0, none⟩ = some (.int .i64 m) := hu2.cell 0 _ rfl
  have q4 : (w1.setCell ⟨w.heap.size + 1 + 1, 1, none⟩ (.slice A1 t.length c1)).cell? ⟨w.heap.size + 1 + 1, 1, none⟩ = some (.slice A1 t.length c1) := hu2.cell 1 _ rfl
  have hr1 := (V1.out.keep hb1).far (w.heap.size + 1 + 1) 1 (.slice A1 t.length c1) (by omega)
  have q5 : (w1.setCell ⟨w.heap.size + 1 + 1, 1, none⟩ (.slice A1 t.length c1)).cell? ⟨w.heap.size + 1, 0, none⟩ = some (.int .i64 0) := hr1.cell 0 _ rfl
  have q6 : (w1.setCell ⟨w.heap.size + 1 + 1, 1, none⟩ (.slice A1 t.length c1)).cell? ⟨w.heap.size + 1, 1, none⟩ = some (.slice none 0 0) := hr1.cell 1 _ rfl
  have q7 := hr1.fz 0
  have q8 := hr1.fz 1
  have hlt := V2.out.lt
  have hw2 : Below w.heap.size w (w1.setCell ⟨w.heap.size + 1 + 1, 1, none⟩ (.slice A1 t.length c1)) := (below_step HB.out hb1).setCell (by show w.heap.size ≤ w.heap.size + 1 + 1; omega) _
  have ho2 := (ho1.far (Span.of_grown (lo := w.heap.size + 1 + 1) (hi := w.heap.size + 1 + 1 + 1) (grown_setCell w1 (w.heap.size + 1 + 1) 1 (.slice A1 t.length c1)) (fun b hb => by injection hb with hb; omega)) (by omega)).more (show w1.heap.size ≤ (w1.setCell ⟨w.heap.size + 1 + 1, 1, none⟩ (.slice A1 t.length c1)).heap.size by simp [World.setCell])
  have fin := hr1.set 0 (.int .i64 m)
  have fin2 := fin.set 1 (.slice A1 t.length c1)
  have f0 : (((w1.setCell ⟨w.heap.size + 1 + 1, 1, none⟩ (.slice A1 t.length c1)).setCell ⟨w.heap.size + 1, 0, none⟩ (.int .i64 m)).setCell ⟨w.heap.size + 1, 1, none⟩ (.slice A1 t.length c1)).cell? ⟨w.heap.size + 1, 0, none⟩ = some (.int .i64 m) := fin2.cell 0 _ rfl
  have f1 : (((w1.setCell ⟨w.heap.size + 1 + 1, 1, none⟩ (.slice A1 t.length c1)).setCell ⟨w.heap.size + 1, 0, none⟩ (.int .i64 m)).setCell ⟨w.heap.size + 1, 1, none⟩ (.slice A1 t.length c1)).cell? ⟨w.heap.size + 1, 1, none⟩ = some (.slice A1 t.length c1) := fin2.cell 1 _ rfl
  have hg2 := grown_set2 (w1.setCell ⟨w.heap.size + 1 + 1, 1, none⟩ (.slice A1 t.length c1)) (w.heap.size + 1) (.int .i64 m) (.slice A1 t.length c1)
  have f2a := ho2.far (Span.of_grown (lo := w.heap.size + 1) (hi := w.heap.size + 1 + 1) hg2 (fun b hb => by injection hb with hb; omega)) (by omega)
  have f2 := (f2a.more hg2.size).low (show w.heap.size ≤ W.heap.size by omega)
  have f3 := below_set2 hw2 (show w.heap.size ≤ w.heap.size + 1 by omega) (.int .i64 m) (.slice A1 t.length c1)
  have F2 := Lib.hid f2
  have F3 := Lib.hid f3
  clear f2 f2a hg2 f3 hw2 ho2 ho1 hb1 hu hu2 hr1 fin fin2
  go_wp2
  refine bodyPost_ret (v := .agg #[.int .i64 m, .slice A1 t.length c1]) (by simp [results, Try.results18, go_sem, f0, f1]) rfl ⟨_, rfl, F2.out, F3.out⟩

set_option maxHeartbeats 1000000 in
theorem eqPlane_any (m : Int) (v u : Value) (lo hi lo' hi' : Nat) (t : List (List Int)) (w : World) (hl : szT t ≤ 1048576) (ha : OwnR w lo hi v t) (hb : OwnR w lo' hi' u t) (h1 : hi ≤ w.heap.size) (h2 : hi' ≤ w.heap.size) :
    Calls Try.prog 20 #[.agg #[.int .i64 m, v], .agg #[.int .i64 m, u]] w fun e w' => e = .returned (.bool true) ∧ Below w.heap.size w w' := by
  have hb2 := (below_alloc (.cells #[.int .i64 m, u] 27) (below_one w (.cells #[.int .i64 m, v] 27)))
  have HA := Lib.hid (ha.keep (hb2.mono h1))
  have HB := Lib.hid (hb.keep (hb2.mono h2))
  have HE := Lib.hid (fun W0 a b => eqInt64SS_any v u lo hi lo' hi' t W0 (by unfold szT at hl; omega) (fun k => by have := tot_row t k; unfold szT at hl; unfold Pl.rw' at this; omega) a b)
  obtain ⟨A, c, rfl, -⟩ := ha.len
  obtain ⟨B, d, rfl, -⟩ := hb.len
  have H2 := Lib.hid hb2
  clear ha hb hb2
  go_enter Try.func20, Try.ntmps20
  go_wp2_with (go_at_call 59; refine (HE.out _ HA.out HB.out).mono ?_; rintro e w' ⟨rfl, hb3⟩)
  go_ret
  exact ⟨rfl, below_step H2.out hb3⟩

set_option maxHeartbeats 1000000 in
theorem markPlane_any (m : Int) (v : Value) (lo hi : Nat) (t : List (List Int)) (k : Int) (w : World) (hl : szT t ≤ 1048576) (hk : 0 ≤ k) (hk2 : k ≤ 500000000000) (hown : OwnR w lo hi v t) (h1 : hi ≤ w.heap.size) :
    Calls Try.prog 23 #[.agg #[.int .i64 m, v], .int .i64 k] w fun e w' => e = .returned (.int .i64 (k + tot t)) ∧ OwnR w' lo hi v (mkR k t) ∧ Span lo hi w w' := by
  obtain ⟨A, c, rfl, _⟩ := hown.len
  have HO := Lib.hid (hown.keep ((below_one w (.cells #[.int .i64 m, .slice A t.length c] 27)).mono h1))
  have HM := Lib.hid (fun W0 h => markInt64SS_any (.slice A t.length c) lo hi t k W0 (by unfold szT at hl; omega) (by unfold szT at hl; omega) hk hk2 h)
  clear hown
  go_enter Try.func23, Try.ntmps23
  go_wp2_with (go_at_call 66; refine (HM.out _ HO.out).mono ?_; rintro e w' ⟨rfl, ho2, hg2⟩)
  go_ret
  exact ⟨rfl, ho2, (Span.of_grown (grown_alloc w (.cells #[.int .i64 m, .slice A t.length c] 27) none) (fun g hg => by cases hg)).trans hg2⟩

set_option maxHeartbeats 1000000 in
theorem heldPlane_any (m : Int) (v : Value) (lo hi : Nat) (t : List (List Int)) (k : Int) (w : World) (hl : szT t ≤ 1048576) (hk : 0 ≤ k) (hk2 : k ≤ 500000000000) (hown : OwnR w lo hi v (mkR k t)) (h1 : hi ≤ w.heap.size) :
    Calls Try.prog 24 #[.agg #[.int .i64 m, v], .int .i64 k] w fun e w' => e = .returned (.int .i64 (k + tot t)) ∧ Below w.heap.size w w' := by
  obtain ⟨A, c, rfl, _⟩ := hown.len
  have HO := Lib.hid (hown.keep ((below_one w (.cells #[.int .i64 m, .slice A (mkR k t).length c] 27)).mono h1))
  have HM := Lib.hid (fun W0 h => heldInt64SS_any (.slice A (mkR k t).length c) lo hi t k W0 (by unfold szT at hl; omega) (by unfold szT at hl; omega) hk hk2 h)
  clear hown
  go_enter Try.func24, Try.ntmps24
  go_wp2_with (go_at_call 67; refine (HM.out _ HO.out).mono ?_; rintro e w' ⟨rfl, rfl⟩)
  go_ret
  exact ⟨rfl, below_one _ _⟩
end Go.Proofs.Ytjgpdgoclianlaa
