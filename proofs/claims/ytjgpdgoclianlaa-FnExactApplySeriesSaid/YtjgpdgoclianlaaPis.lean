/- Contracts of the looks at planes, of the program and of the model. -/
import Derived.Test.YtjgpdgoclianlaaFil
import Derived.Deep.QuietTactic
import Derived.BigQuiet
namespace Go.Proofs.Ytjgpdgoclianlaa
open Go.RowKit Go.WideShapes Go.ChangeShapes Go.ChangeAt

/-- row i of a table of n rows is as a plane's -/
def rowOk (m : Int) (n : Nat) (t : List (List Int)) (i : Nat) : Bool := decide ((Pl.rw' t i).length + i = n) && allIn 0 (m - 1) (Pl.rw' t i)
/-- a table with a modulus is a plane -/
def isP (m : Int) (t : List (List Int)) : Bool := isM m && (inB (t.length : Int) 2 11 && (List.range t.length).all (rowOk m t.length t))
theorem all_succ (f : Nat → Bool) (k : Nat) : (List.range (k + 1)).all f = ((List.range k).all f && f k) := by
  rw [List.range_succ, List.all_append]; simp
theorem all_no (f : Nat → Bool) (k n : Nat) (h : k < n) (hf : f k = false) : (List.range n).all f = false := by
  rw [← Bool.not_eq_true, List.all_eq_true]
  intro hh
  have := hh k (List.mem_range.2 h)
  rw [hf] at this
  exact absurd this (by decide)
theorem plOk_of {m : Int} {t : List (List Int)} (h : isP m t = true) : ∃ d, t.length = d + 1 ∧ Pl.Ok m d t := by
  unfold isP at h
  rw [Bool.and_eq_true, Bool.and_eq_true, isM_iff, inB_iff, List.all_eq_true] at h
  obtain ⟨⟨m1, m2⟩, ⟨n1, n2⟩, hr⟩ := h
  obtain ⟨d, hd⟩ : ∃ d, t.length = d + 1 := ⟨t.length - 1, by omega⟩
  have key : ∀ i, i ≤ d → (Pl.rw' t i).length + i = d + 1 ∧ allIn 0 (m - 1) (Pl.rw' t i) = true := by
    intro i hi
    have := hr i (List.mem_range.2 (by omega))
    unfold rowOk at this
    rw [Bool.and_eq_true, decide_eq_true_iff, hd] at this
    exact this
  refine ⟨d, hd, m1, m2, by omega, by omega, hd, fun i hi => by have := (key i hi).1; omega, fun i => ?_⟩
  by_cases hi : i ≤ d
  · intro j
    by_cases hj : j < (Pl.rw' t i).length
    · have h1 := List.all_eq_true.1 (key i hi).2 _ (List.getElem_mem hj)
      have h2 := (inB_iff _ _ _).1 h1
      unfold Ser.co
      rw [List.getElem?_eq_getElem hj]
      simp only [Option.getD_some]
      omega
    · rw [Ser.co_over (by omega)]; omega
  · rw [Pl.rw_over (by omega)]
    intro j; rw [Ser.co_over (Nat.zero_le _)]; omega
theorem isP_len {m : Int} {t : List (List Int)} (h : isP m t = true) : 2 ≤ t.length ∧ t.length ≤ 11 := by
  unfold isP at h
  rw [Bool.and_eq_true, Bool.and_eq_true, inB_iff] at h
  omega

set_option maxHeartbeats 1000000 in
theorem gridOf_any (m : Int) (A : Option Addr) (n c : Nat) (w : World) (hn : n ≤ 9223372036854775807) :
    Calls Try.prog 55 #[.agg #[.int .i64 m, .slice A n c]] w fun e w' => e = .returned (.agg #[.int .i64 m, .int .i64 ((n : Int) - 1), .slice A n c]) ∧ Below w.heap.size w w' := by
  go_enter Try.func55, Try.ntmps55
  go_wp2
  exact bodyPost_ret (v := .agg #[.int .i64 m, .int .i64 ((n : Int) - 1), .slice A n c]) (by simp [results, Try.results55, go_sem]) rfl ⟨rfl, below_alloc _ (below_one _ _)⟩
theorem gridOf_nat (m : Int) (A : Option Addr) (n c d : Nat) (w : World) (hn : n = d + 1) (hd : d ≤ 1000) :
    Calls Try.prog 55 #[.agg #[.int .i64 m, .slice A n c]] w fun e w' => e = .returned (.agg #[.int .i64 m, .int .i64 d, .slice A n c]) ∧ Below w.heap.size w w' :=
  (gridOf_any m A n c w (by omega)).mono fun e w' ⟨h1, h2⟩ => ⟨by rw [h1, show (n : Int) - 1 = (d : Int) by omega], h2⟩
set_option maxHeartbeats 1000000 in
theorem plane_any (m d : Int) (A : Option Addr) (n c : Nat) (w : World) :
    Calls Try.prog 65 #[.agg #[.int .i64 m, .int .i64 d, .slice A n c]] w fun e w' => e = .returned (.agg #[.int .i64 m, .slice A n c]) ∧ Below w.heap.size w w' := by
  go_enter Try.func65, Try.ntmps65
  go_wp2
  exact bodyPost_ret (v := .agg #[.int .i64 m, .slice A n c]) (by simp [results, Try.results65, go_sem]) rfl ⟨rfl, below_alloc _ (below_one _ _)⟩

/-- the frame of a grid's value -/
theorem field_frame (a b c : Value) (W : World) : (Instr.field 66 (.agg #[a, b, c]) 0).run Try.prog W = .ok (.agg #[a, b]) W := by kernel_rfl
theorem frm_in {w w1 : World} {m : Int} {d : Nat} {t1 t2 : TypeId} {A : Option Addr} {n c : Nat} (hb : Below (w.alloc (.cells #[.int .i64 m, .slice A n c] t1)).heap.size (w.alloc (.cells #[.int .i64 m, .slice A n c] t1)) w1) :
    ∃ W, w1.alloc (.cells #[.int .i64 m, .int .i64 d] t2) = W ∧ VarC t2 W w1.heap.size #[.int .i64 m, .int .i64 d] ∧ Box W w.heap.size m A n c ∧ Below w.heap.size w W :=
  ⟨_, rfl, VarC.new _ _ _, ((Box.newT t1 w m A n c).keep hb).keep (below_one _ _), below_alloc _ (below_step (below_one _ _) hb)⟩
set_option maxHeartbeats 2000000 in
set_option maxRecDepth 100000 in
theorem IsPlane_c (m : Int) (A : Option Addr) (c : Nat) (t : List (List Int)) (w : World) (hl : t.length ≤ 9223372036854775807) (hrl : ∀ k, (Pl.rw' t k).length ≤ 9223372036854775807) (hr : RP w A t) :
    Calls Try.prog 19 #[.agg #[.int .i64 m, .slice A t.length c]] w fun e w' => e = .returned (.bool (isP m t)) ∧ Below w.heap.size w w' := by
  have HR := Lib.hid hr
  have HRL := Lib.hid hrl
  clear hr hrl
  obtain ⟨R, hR⟩ : ∃ R, isP m t = R := ⟨_, rfl⟩
  rw [hR]
  have HRR := Lib.hid hR
  clear hR
  by_cases h1 : inB ((t.length : Int) - 1) 1 10 = true
  · obtain ⟨d, hd⟩ : ∃ d, t.length = d + 1 := ⟨t.length - 1, by have := (inB_iff _ _ _).1 h1; omega⟩
    have hd2 : d ≤ 10 := by have := (inB_iff _ _ _).1 h1; omega
    have HG := Lib.hid (fun W => gridOf_nat m A t.length c d W hd (by omega))
    have hw1 : inB (d : Int) 1 10 = true := by rw [← h1]; congr 1; omega
    have HD := Lib.hid hd
    have HI := Lib.hid h1
    obtain ⟨L, hL⟩ : ∃ L, t.length = L := ⟨_, rfl⟩
    rw [hL] at HG ⊢
    have HL := Lib.hid hL
    have HLd : Hid ((L : Int) = (d : Int) + 1) := Lib.hid (by omega)
    clear h1 hd hL hl
    go_enter Try.func19, Try.ntmps19
    go_wp2_with fail
    refine (HG.out _).mono ?_
    rintro e w1 ⟨rfl, hb1⟩
    obtain ⟨W, hW, v, hx, hwb⟩ := frm_in (d := d) (t2 := 64) hb1
    have HW := Lib.hid hW
    have HV := Lib.hid v
    have HX := Lib.hid hx
    have HB := Lib.hid hwb
    have hfd := field_frame
    clear hW v hx hwb hb1
    go_wp2_with fail
    rw [HW.out]
    refine (isWithin_any _ _ _ _).mono ?_
    rintro e w' ⟨rfl, rfl⟩
    rw [hw1]
    obtain ⟨g, hg⟩ : ∃ g, w1.heap.size = g := ⟨_, rfl⟩
    rw [hg] at HV ⊢
    clear hg HW hfd
    have v1 : W.cell? ⟨g, 1, none⟩ = some (.int .i64 d) := HV.out.cell 1 _ rfl
    go_wp2
    go_loopw [16] (fun i wr => ∃ k : Nat, k ≤ d + 1 ∧ i = .int .i64 k ∧ (List.range k).all (rowOk m (d + 1) t) = true ∧ (0 < k → isM m = true) ∧ VarC 64 wr g #[.int .i64 m, .int .i64 d] ∧ Box wr w.heap.size m A L c ∧ Below w.heap.size w wr) (fun i _ => d + 1 - (intOf i).toNat)
    case atStart => exact ⟨0, Nat.zero_le _, rfl, rfl, fun h => absurd h (Nat.lt_irrefl _), HV.out, HX.out, HB.out⟩
    case round =>
      clear HV HX HB v1
      obtain ⟨k, hk, rfl, hall, hmk, hv, hx, hb⟩ := hrel
      have HV := Lib.hid hv
      have HX := Lib.hid hx
      have HB := Lib.hid hb
      have HA := Lib.hid hall
      have HMK := Lib.hid hmk
      clear hmk
      by_cases hlt : k < d + 1
      · obtain ⟨bb, off, A', c', rfl, hbb, hc, _, hri⟩ := HR.out.at k (by have := HD.out; omega)
        have hck := (hb.cell (p := ⟨bb, off + k, none⟩) hbb).trans hc
        have hrl := HRL.out k
        have hst : rowOk m (d + 1) t k = (decide ((Pl.rw' t k).length + k = d + 1) && allIn 0 (m - 1) (Pl.rw' t k)) := rfl
        obtain ⟨r, hr⟩ : ∃ r, Pl.rw' t k = r := ⟨_, rfl⟩
        rw [hr] at hck hrl hst hri
        have HST := Lib.hid hst
        obtain ⟨N, hN⟩ : ∃ N, d - k + 1 = N := ⟨_, rfl⟩
        have HLR : Hid (∀ W, Calls Try.prog 57 #[.agg #[.int .i64 m, .int .i64 d], .int .i64 k] W fun e w' => e = .returned (.int .i64 (N : Int)) ∧ Below W.heap.size W w') := Lib.hid (fun W => by have := lenRow_any m d k W (by omega) (by omega); rw [hN] at this; exact this)
        have HRI := Lib.hid (hri.below hb)
        have hx1 : wr.cell? ⟨w.heap.size, 1, none⟩ = some (.slice (some ⟨bb, off, none⟩) L c) := hx.2.1
        have v0 : wr.cell? ⟨g, 0, none⟩ = some (.int .i64 m) := hv.cell 0 _ rfl
        have v1 : wr.cell? ⟨g, 1, none⟩ = some (.int .i64 d) := hv.cell 1 _ rfl
        have hkd : (k : Int) < (d : Int) + 1 := by omega
        have hk0 : (0 : Int) ≤ (k : Int) := by omega
        have hkL : (k : Int) < (L : Int) := by have := HLd.out; omega
        clear hall hv hx hb hc hri hst hbb
        by_cases hlen : r.length = N
        · obtain ⟨C, hC⟩ : ∃ C, codeN m r = C := ⟨_, rfl⟩
          have HC : Hid (∀ W, Below wr.heap.size wr W → Calls Try.prog 58 #[.int .i64 m, .slice A' r.length c'] W fun e w' => e = .returned (.int .i64 C) ∧ W = w') := Lib.hid (fun W hW => by have := codeOfNumbers_any m A' c' r W hrl (HRI.out.below hW); rw [hC] at this; exact this)
          rw [hlen] at hck HC
          have HN := Lib.hid hN
          have HLN := Lib.hid hlen
          by_cases hC0 : C = 0
          · subst hC0
            have hm : isM m = true := by
              by_cases hm : isM m = true
              · exact hm
              · unfold codeN at hC; rw [if_neg hm] at hC; exact absurd hC (by decide)
            have HMM := Lib.hid hm
            have hok : rowOk m (d + 1) t k = true := by
              have ha : allIn 0 (m - 1) r = true := by
                by_cases ha : allIn 0 (m - 1) r = true
                · exact ha
                · unfold codeN at hC; rw [if_pos hm, if_neg ha] at hC; exact absurd hC (by decide)
              rw [HST.out, ha, decide_eq_true (by omega)]; rfl
            have HOK := Lib.hid (show (List.range (k + 1)).all (rowOk m (d + 1) t) = true by rw [all_succ, HA.out, hok]; rfl)
            clear hC hok hlen hr hN hm
            go_wp2_with fail
            refine (HLR.out _).mono ?_
            rintro e w2 ⟨rfl, hb2⟩
            have x0 : w2.cell? ⟨g, 0, none⟩ = some (.int .i64 m) := (HV.out.keep hb2).cell 0 _ rfl
            go_wp2_with fail
            refine (HC.out _ hb2).mono ?_
            rintro e w3 ⟨rfl, rfl⟩
            go_wp2
            go_roundw
            case rel => exact ⟨k + 1, by omega, by go_num, HOK.out, fun _ => HMM.out, HV.out.keep hb2, HX.out.keep hb2, below_step HB.out hb2⟩
            case measure => simp only [intOf]; omega
          · obtain ⟨n1, n2⟩ := ne_facts hC0
            have hno : R = false := by
              rw [← HRR.out]
              unfold isP
              by_cases hm : isM m = true
              · have hf : rowOk m t.length t k = false := by
                  rw [HD.out, HST.out]
                  unfold codeN at hC
                  rw [if_pos hm] at hC
                  by_cases ha : allIn 0 (m - 1) r = true
                  · rw [if_pos ha] at hC; exact absurd hC.symm hC0
                  · rw [Bool.eq_false_iff.2 ha, Bool.and_false]
                rw [all_no _ k t.length (by have := HD.out; omega) hf, Bool.and_false, Bool.and_false]
              · rw [Bool.eq_false_iff.2 hm]; rfl
            have HNO := Lib.hid hno
            clear hC hno hlen hr hN hC0
            go_wp2_with fail
            refine (HLR.out _).mono ?_
            rintro e w2 ⟨rfl, hb2⟩
            have x0 : w2.cell? ⟨g, 0, none⟩ = some (.int .i64 m) := (HV.out.keep hb2).cell 0 _ rfl
            go_wp2_with fail
            refine (HC.out _ hb2).mono ?_
            rintro e w3 ⟨rfl, rfl⟩
            go_wp2
            go_ret
            exact ⟨ret_bool HNO.out.symm, below_step HB.out hb2⟩
        · have hlen2 : ¬ (r.length : Int) = (N : Int) := by omega
          obtain ⟨n1, n2⟩ : ((r.length : Int) == (N : Int)) = false ∧ ((r.length : Int) != (N : Int)) = true := ⟨by simpa using hlen2, by simpa using hlen2⟩
          have hno : R = false := by
            rw [← HRR.out]
            unfold isP
            have hf : rowOk m t.length t k = false := by rw [HD.out, HST.out, decide_eq_false (by omega)]; rfl
            rw [all_no _ k t.length (by have := HD.out; omega) hf, Bool.and_false, Bool.and_false]
          have HNO := Lib.hid hno
          obtain ⟨rl, hrl2⟩ : ∃ q, r.length = q := ⟨_, rfl⟩
          rw [hrl2] at hck n1 n2 hlen2 hrl
          clear hno hr hN hlen HRI hrl2
          go_wp2_with fail
          refine (HLR.out _).mono ?_
          rintro e w2 ⟨rfl, hb2⟩
          go_wp2
          go_ret
          exact ⟨ret_bool HNO.out.symm, below_step HB.out hb2⟩
      · obtain rfl : k = d + 1 := by omega
        have hyes : R = true := by
          rw [← HRR.out]
          unfold isP
          have := HI.out
          rw [inB_iff] at this
          rw [HMK.out (by omega), (inB_iff _ _ _).2 (show (2 : Int) ≤ t.length ∧ (t.length : Int) ≤ 11 by omega), HD.out, hall]; rfl
        have HY := Lib.hid hyes
        clear hyes hall hv hx hb
        go_wp2
        go_ret
        exact ⟨ret_bool HY.out.symm, HB.out⟩
  · have hw1 : inB ((t.length : Int) - 1) 1 10 = false := by simpa using h1
    have hno : R = false := by
      rw [← HRR.out]
      unfold isP
      rw [inB_no (show ¬ ((2 : Int) ≤ t.length ∧ (t.length : Int) ≤ 11) by intro h; exact h1 ((inB_iff _ _ _).2 (by omega))), Bool.false_and, Bool.and_false]
    have HNO := Lib.hid hno
    have HG := Lib.hid (fun W => gridOf_any m A t.length c W hl)
    have hfd := field_frame
    obtain ⟨D, hD⟩ : ∃ D, (t.length : Int) - 1 = D := ⟨_, rfl⟩
    rw [hD] at HG hw1
    clear h1 hno hD
    go_enter Try.func19, Try.ntmps19
    go_wp2_with fail
    refine (HG.out _).mono ?_
    rintro e w1 ⟨rfl, hb1⟩
    go_wp2_with fail
    refine (isWithin_any _ _ _ _).mono ?_
    rintro e w' ⟨rfl, rfl⟩
    rw [hw1]
    go_wp2
    go_ret
    exact ⟨ret_bool HNO.out.symm, below_alloc _ (below_step (below_one _ _) hb1)⟩
end Go.Proofs.Ytjgpdgoclianlaa
