/- Texts of contracts, joined. -/
import Derived.Test.YtfhdgcndiljjcabGreatMgaa
import Derived.Deep.QuietTactic
import Derived.BigQuiet
import Derived.StillTailTactics
import Derived.Deep.DeepCutAuto
/- Contracts of the looks at planes, of the program and of the model. -/
namespace Go.Proofs.YtfhdgcndiljjcabGreat
open Go.RowKit Go.WideShapes Go.ChangeShapes Go.ChangeAt
/-- row i of a table of n rows is as a plane's -/
def rowOk (m : Int) (n : Nat) (t : List (List Int)) (i : Nat) : Bool := decide ((Pl.rw' t i).length + i = n) && allIn 0 (m - 1) (Pl.rw' t i)
/-- a table with a modulus is a plane -/
def isP (m : Int) (t : List (List Int)) : Bool := isM m && (inB (t.length : Int) 2 11 && (List.range t.length).all (rowOk m t.length t))
theorem all_succ (f : Nat → Bool) (k : Nat) : (List.range (k + 1)).all f = ((List.range k).all f && f k) := by
  rw [List.range_succ, List.all_append]; simp
theorem all_no (f : Nat → Bool) (k n : Nat) (h : k < n) (hf : f k = false) : (List.range n).all f = false := by
  rw [← Bool.not_eq_true, List.all_eq_true]
  intro hh
  have := hh k (List.mem_range.2 h)
  rw [hf] at this
  exact absurd this (by decide)
theorem plOk_of {m : Int} {t : List (List Int)} (h : isP m t = true) : ∃ d, t.length = d + 1 ∧ Pl.Ok m d t := by
  unfold isP at h
  rw [Bool.and_eq_true, Bool.and_eq_true, isM_iff, inB_iff, List.all_eq_true] at h
  obtain ⟨⟨m1, m2⟩, ⟨n1, n2⟩, hr⟩ := h
  obtain ⟨d, hd⟩ : ∃ d, t.length = d + 1 := ⟨t.length - 1, by omega⟩
  have key : ∀ i, i ≤ d → (Pl.rw' t i).length + i = d + 1 ∧ allIn 0 (m - 1) (Pl.rw' t i) = true := by
    intro i hi
    have := hr i (List.mem_range.2 (by omega))
    unfold rowOk at this
    rw [Bool.and_eq_true, decide_eq_true_iff, hd] at this
    exact this
  refine ⟨d, hd, m1, m2, by omega, by omega, hd, fun i hi => by have := (key i hi).1; omega, fun i => ?_⟩
  by_cases hi : i ≤ d
  · intro j
    by_cases hj : j < (Pl.rw' t i).length
    · have h1 := List.all_eq_true.1 (key i hi).2 _ (List.getElem_mem hj)
      have h2 := (inB_iff _ _ _).1 h1
      unfold Ser.co
      rw [List.getElem?_eq_getElem hj]
      simp only [Option.getD_some]
      omega
    · rw [Ser.co_over (by omega)]; omega
  · rw [Pl.rw_over (by omega)]
    intro j; rw [Ser.co_over (Nat.zero_le _)]; omega
set_option maxHeartbeats 1000000 in
theorem gridOf_any (m : Int) (A : Option Addr) (n c : Nat) (w : World) (hn : n ≤ 9223372036854775807) :
    Calls Tryz.prog 59 #[.agg #[.int .i64 m, .slice A n c]] w fun e w' => e = .returned (.agg #[.int .i64 m, .int .i64 ((n : Int) - 1), .slice A n c]) ∧ Below w.heap.size w w' := by
  go_enter Tryz.func59, Tryz.ntmps59
  go_wp2
  exact bodyPost_ret (v := .agg #[.int .i64 m, .int .i64 ((n : Int) - 1), .slice A n c]) (by simp [results, Tryz.results59, go_sem]) rfl ⟨rfl, below_alloc _ (below_one _ _)⟩
theorem gridOf_nat (m : Int) (A : Option Addr) (n c d : Nat) (w : World) (hn : n = d + 1) (hd : d ≤ 1000) :
    Calls Tryz.prog 59 #[.agg #[.int .i64 m, .slice A n c]] w fun e w' => e = .returned (.agg #[.int .i64 m, .int .i64 d, .slice A n c]) ∧ Below w.heap.size w w' :=
  (gridOf_any m A n c w (by omega)).mono fun e w' ⟨h1, h2⟩ => ⟨by rw [h1, show (n : Int) - 1 = (d : Int) by omega], h2⟩
/-- the frame of a grid's value -/
theorem field_frame (a b c : Value) (W : World) : (Instr.field 55 (.agg #[a, b, c]) 0).run Tryz.prog W = .ok (.agg #[a, b]) W := by kernel_rfl
theorem frm_in {w w1 : World} {m : Int} {d : Nat} {t1 t2 : TypeId} {A : Option Addr} {n c : Nat} (hb : Below (w.alloc (.cells #[.int .i64 m, .slice A n c] t1)).heap.size (w.alloc (.cells #[.int .i64 m, .slice A n c] t1)) w1) :
    ∃ W, w1.alloc (.cells #[.int .i64 m, .int .i64 d] t2) = W ∧ VarC t2 W w1.heap.size #[.int .i64 m, .int .i64 d] ∧ Box W w.heap.size m A n c ∧ Below w.heap.size w W :=
  ⟨_, rfl, VarC.new _ _ _, ((Box.newT t1 w m A n c).keep hb).keep (below_one _ _), below_alloc _ (below_step (below_one _ _) hb)⟩
set_option maxHeartbeats 2000000 in
set_option maxRecDepth 100000 in
theorem IsPlane_c (m : Int) (A : Option Addr) (c : Nat) (t : List (List Int)) (w : World) (hl : t.length ≤ 9223372036854775807) (hrl : ∀ k, (Pl.rw' t k).length ≤ 9223372036854775807) (hr : RP w A t) :
    Calls Tryz.prog 125 #[.agg #[.int .i64 m, .slice A t.length c]] w fun e w' => e = .returned (.bool (isP m t)) ∧ Below w.heap.size w w' := by
  have HR := Lib.hid hr
  have HRL := Lib.hid hrl
  clear hr hrl
  obtain ⟨R, hR⟩ : ∃ R, isP m t = R := ⟨_, rfl⟩
  rw [hR]
  have HRR := Lib.hid hR
  clear hR
  by_cases h1 : inB ((t.length : Int) - 1) 1 10 = true
  · obtain ⟨d, hd⟩ : ∃ d, t.length = d + 1 := ⟨t.length - 1, by have := (inB_iff _ _ _).1 h1; omega⟩
    have hd2 : d ≤ 10 := by have := (inB_iff _ _ _).1 h1; omega
    have HG := Lib.hid (fun W => gridOf_nat m A t.length c d W hd (by omega))
    have hw1 : inB (d : Int) 1 10 = true := by rw [← h1]; congr 1; omega
    have HD := Lib.hid hd
    have HI := Lib.hid h1
    obtain ⟨L, hL⟩ : ∃ L, t.length = L := ⟨_, rfl⟩
    rw [hL] at HG ⊢
    have HL := Lib.hid hL
    have HLd : Hid ((L : Int) = (d : Int) + 1) := Lib.hid (by omega)
    clear h1 hd hL hl
    go_enter Tryz.func125, Tryz.ntmps125
    go_wp2_with fail
    refine (HG.out _).mono ?_
    rintro e w1 ⟨rfl, hb1⟩
    obtain ⟨W, hW, v, hx, hwb⟩ := frm_in (d := d) (t2 := 53) hb1
    have HW := Lib.hid hW
    have HV := Lib.hid v
    have HX := Lib.hid hx
    have HB := Lib.hid hwb
    have hfd := field_frame
    clear hW v hx hwb hb1
    go_wp2_with fail
    rw [HW.out]
    refine (isWithin_any _ _ _ _).mono ?_
    rintro e w' ⟨rfl, rfl⟩
    rw [hw1]
    obtain ⟨g, hg⟩ : ∃ g, w1.heap.size = g := ⟨_, rfl⟩
    rw [hg] at HV ⊢
    clear hg HW hfd
    have v1 : W.cell? ⟨g, 1, none⟩ = some (.int .i64 d) := HV.out.cell 1 _ rfl
    go_wp2
    go_loopw [16] (fun i wr => ∃ k : Nat, k ≤ d + 1 ∧ i = .int .i64 k ∧ (List.range k).all (rowOk m (d + 1) t) = true ∧ (0 < k → isM m = true) ∧ VarC 53 wr g #[.int .i64 m, .int .i64 d] ∧ Box wr w.heap.size m A L c ∧ Below w.heap.size w wr) (fun i _ => d + 1 - (intOf i).toNat)
    case atStart => exact ⟨0, Nat.zero_le _, rfl, rfl, fun h => absurd h (Nat.lt_irrefl _), HV.out, HX.out, HB.out⟩
    case round =>
      clear HV HX HB v1
      obtain ⟨k, hk, rfl, hall, hmk, hv, hx, hb⟩ := hrel
      have HV := Lib.hid hv
      have HX := Lib.hid hx
      have HB := Lib.hid hb
      have HA := Lib.hid hall
      have HMK := Lib.hid hmk
      clear hmk
      by_cases hlt : k < d + 1
      · obtain ⟨bb, off, A', c', rfl, hbb, hc, _, hri⟩ := HR.out.at k (by have := HD.out; omega)
        have hck := (hb.cell (p := ⟨bb, off + k, none⟩) hbb).trans hc
        have hrl := HRL.out k
        have hst : rowOk m (d + 1) t k = (decide ((Pl.rw' t k).length + k = d + 1) && allIn 0 (m - 1) (Pl.rw' t k)) := rfl
        obtain ⟨r, hr⟩ : ∃ r, Pl.rw' t k = r := ⟨_, rfl⟩
        rw [hr] at hck hrl hst hri
        have HST := Lib.hid hst
        obtain ⟨N, hN⟩ : ∃ N, d - k + 1 = N := ⟨_, rfl⟩
        have HLR : Hid (∀ W, Calls Tryz.prog 148 #[.agg #[.int .i64 m, .int .i64 d], .int .i64 k] W fun e w' => e = .returned (.int .i64 (N : Int)) ∧ Below W.heap.size W w') := Lib.hid (fun W => by have := lenRow_any m d k W (by omega) (by omega); rw [hN] at this; exact this)
        have HRI := Lib.hid (hri.below hb)
        have hx1 : wr.cell? ⟨w.heap.size, 1, none⟩ = some (.slice (some ⟨bb, off, none⟩) L c) := hx.2.1
        have v0 : wr.cell? ⟨g, 0, none⟩ = some (.int .i64 m) := hv.cell 0 _ rfl
        have v1 : wr.cell? ⟨g, 1, none⟩ = some (.int .i64 d) := hv.cell 1 _ rfl
        have hkd : (k : Int) < (d : Int) + 1 := by omega
        have hk0 : (0 : Int) ≤ (k : Int) := by omega
        have hkL : (k : Int) < (L : Int) := by have := HLd.out; omega
        clear hall hv hx hb hc hri hst hbb
        by_cases hlen : r.length = N
        · obtain ⟨C, hC⟩ : ∃ C, codeN m r = C := ⟨_, rfl⟩
          have HC : Hid (∀ W, Below wr.heap.size wr W → Calls Tryz.prog 106 #[.int .i64 m, .slice A' r.length c'] W fun e w' => e = .returned (.int .i64 C) ∧ W = w') := Lib.hid (fun W hW => by have := codeOfNumbers_any m A' c' r W hrl (HRI.out.below hW); rw [hC] at this; exact this)
          rw [hlen] at hck HC
          have HN := Lib.hid hN
          have HLN := Lib.hid hlen
          by_cases hC0 : C = 0
          · subst hC0
            have hm : isM m = true := by
              by_cases hm : isM m = true
              · exact hm
              · unfold codeN at hC; rw [if_neg hm] at hC; exact absurd hC (by decide)
            have HMM := Lib.hid hm
            have hok : rowOk m (d + 1) t k = true := by
              have ha : allIn 0 (m - 1) r = true := by
                by_cases ha : allIn 0 (m - 1) r = true
                · exact ha
                · unfold codeN at hC; rw [if_pos hm, if_neg ha] at hC; exact absurd hC (by decide)
              rw [HST.out, ha, decide_eq_true (by omega)]; rfl
            have HOK := Lib.hid (show (List.range (k + 1)).all (rowOk m (d + 1) t) = true by rw [all_succ, HA.out, hok]; rfl)
            clear hC hok hlen hr hN hm
            go_wp2_with fail
            refine (HLR.out _).mono ?_
            rintro e w2 ⟨rfl, hb2⟩
            have x0 : w2.cell? ⟨g, 0, none⟩ = some (.int .i64 m) := (HV.out.keep hb2).cell 0 _ rfl
            go_wp2_with fail
            refine (HC.out _ hb2).mono ?_
            rintro e w3 ⟨rfl, rfl⟩
            go_wp2
            go_roundw
            case rel => exact ⟨k + 1, by omega, by go_num, HOK.out, fun _ => HMM.out, HV.out.keep hb2, HX.out.keep hb2, below_step HB.out hb2⟩
            case measure => simp only [intOf]; omega
          · obtain ⟨n1, n2⟩ := ne_facts hC0
            have hno : R = false := by
              rw [← HRR.out]
              unfold isP
              by_cases hm : isM m = true
              · have hf : rowOk m t.length t k = false := by
                  rw [HD.out, HST.out]
                  unfold codeN at hC
                  rw [if_pos hm] at hC
                  by_cases ha : allIn 0 (m - 1) r = true
                  · rw [if_pos ha] at hC; exact absurd hC.symm hC0
                  · rw [Bool.eq_false_iff.2 ha, Bool.and_false]
                rw [all_no _ k t.length (by have := HD.out; omega) hf, Bool.and_false, Bool.and_false]
              · rw [Bool.eq_false_iff.2 hm]; rfl
            have HNO := Lib.hid hno
            clear hC hno hlen hr hN hC0
            go_wp2_with fail
            refine (HLR.out _).mono ?_
            rintro e w2 ⟨rfl, hb2⟩
            have x0 : w2.cell? ⟨g, 0, none⟩ = some (.int .i64 m) := (HV.out.keep hb2).cell 0 _ rfl
            go_wp2_with fail
            refine (HC.out _ hb2).mono ?_
            rintro e w3 ⟨rfl, rfl⟩
            go_wp2
            go_ret
            exact ⟨ret_bool HNO.out.symm, below_step HB.out hb2⟩
        · have hlen2 : ¬ (r.length : Int) = (N : Int) := by omega
          obtain ⟨n1, n2⟩ : ((r.length : Int) == (N : Int)) = false ∧ ((r.length : Int) != (N : Int)) = true := ⟨by simpa using hlen2, by simpa using hlen2⟩
          have hno : R = false := by
            rw [← HRR.out]
            unfold isP
            have hf : rowOk m t.length t k = false := by rw [HD.out, HST.out, decide_eq_false (by omega)]; rfl
            rw [all_no _ k t.length (by have := HD.out; omega) hf, Bool.and_false, Bool.and_false]
          have HNO := Lib.hid hno
          obtain ⟨rl, hrl2⟩ : ∃ q, r.length = q := ⟨_, rfl⟩
          rw [hrl2] at hck n1 n2 hlen2 hrl
          clear hno hr hN hlen HRI hrl2
          go_wp2_with fail
          refine (HLR.out _).mono ?_
          rintro e w2 ⟨rfl, hb2⟩
          go_wp2
          go_ret
          exact ⟨ret_bool HNO.out.symm, below_step HB.out hb2⟩
      · obtain rfl : k = d + 1 := by omega
        have hyes : R = true := by
          rw [← HRR.out]
          unfold isP
          have := HI.out
          rw [inB_iff] at this
          rw [HMK.out (by omega), (inB_iff _ _ _).2 (show (2 : Int) ≤ t.length ∧ (t.length : Int) ≤ 11 by omega), HD.out, hall]; rfl
        have HY := Lib.hid hyes
        clear hyes hall hv hx hb
        go_wp2
        go_ret
        exact ⟨ret_bool HY.out.symm, HB.out⟩
  · have hw1 : inB ((t.length : Int) - 1) 1 10 = false := by simpa using h1
    have hno : R = false := by
      rw [← HRR.out]
      unfold isP
      rw [inB_no (show ¬ ((2 : Int) ≤ t.length ∧ (t.length : Int) ≤ 11) by intro h; exact h1 ((inB_iff _ _ _).2 (by omega))), Bool.false_and, Bool.and_false]
    have HNO := Lib.hid hno
    have HG := Lib.hid (fun W => gridOf_any m A t.length c W hl)
    have hfd := field_frame
    obtain ⟨D, hD⟩ : ∃ D, (t.length : Int) - 1 = D := ⟨_, rfl⟩
    rw [hD] at HG hw1
    clear h1 hno hD
    go_enter Tryz.func125, Tryz.ntmps125
    go_wp2_with fail
    refine (HG.out _).mono ?_
    rintro e w1 ⟨rfl, hb1⟩
    go_wp2_with fail
    refine (isWithin_any _ _ _ _).mono ?_
    rintro e w' ⟨rfl, rfl⟩
    rw [hw1]
    go_wp2
    go_ret
    exact ⟨ret_bool HNO.out.symm, below_alloc _ (below_step (below_one _ _) hb1)⟩
end Go.Proofs.YtfhdgcndiljjcabGreat

/- Contracts of the looks at planes, of the model; of the codes of planes. -/
namespace Go.Proofs.YtfhdgcndiljjcabGreat
open Go.RowKit Go.WideShapes Go.ChangeShapes Go.ChangeAt
theorem l03Degree_any (m : Int) (A : Option Addr) (n c d : Nat) (w : World) (hn : n = d + 1) (hd : d ≤ 1000000) :
    Calls Tryz.prog 48 #[.agg #[.int .i64 m, .slice A n c]] w fun e w' => e = .returned (.int .i64 (d : Int)) ∧ Below w.heap.size w w' := by
  obtain ⟨h1, h2⟩ : (n : Int) - 1 = (d : Int) ∧ (n : Int) ≤ 9223372036854775807 := ⟨by omega, by omega⟩
  go_enter Tryz.func48, Tryz.ntmps48
  go_wp2
  go_ret
  exact ⟨rfl, below_one _ _⟩
set_option maxHeartbeats 2000000 in
set_option maxRecDepth 100000 in
theorem l03Is_any (m : Int) (A : Option Addr) (c : Nat) (t : List (List Int)) (w : World) (hl : t.length ≤ 9223372036854775807) (hrl : ∀ k, (Pl.rw' t k).length ≤ 9223372036854775807) (hr : RP w A t) :
    Calls Tryz.prog 79 #[.agg #[.int .i64 m, .slice A t.length c]] w fun e w' => e = .returned (.bool (isP m t)) ∧ Below w.heap.size w w' := by
  obtain ⟨W, hW, hx, hwb⟩ := start1 29 w m A t.length c
  have HR := Lib.hid (hr.below hwb)
  have HRL := Lib.hid hrl
  have HX := Lib.hid hx
  have HB := Lib.hid hwb
  have HW := Lib.hid hW
  clear hr hrl hwb hx hW
  obtain ⟨R, hR⟩ : ∃ R, isP m t = R := ⟨_, rfl⟩
  rw [hR]
  have HRR := Lib.hid hR
  clear hR
  by_cases hm : isM m = true
  · obtain ⟨m1, m2⟩ := (isM_iff m).1 hm
    have HM := Lib.hid hm
    have hlm := fun W => l01Modulus_any m W
    rw [hm] at hlm
    have HLM := Lib.hid hlm
    clear hm hlm
    by_cases h1 : 2 ≤ t.length ∧ t.length ≤ 11
    · obtain ⟨L, hL⟩ : ∃ L, t.length = L := ⟨_, rfl⟩
      have HL := Lib.hid hL
      rw [hL] at h1 HW HX ⊢
      obtain ⟨h1, h2⟩ := h1
      have z1 : (2 : Int) ≤ (L : Int) := by omega
      have z2 : (L : Int) ≤ 11 := by omega
      clear hL hl
      go_enter Tryz.func79, Tryz.ntmps79
      go_wp2_with fail
      rw [HW.out]
      refine (HLM.out _).mono ?_
      rintro e w' ⟨rfl, rfl⟩
      go_wp2
      go_loopw [4] (fun i wr => ∃ k : Nat, k ≤ L ∧ i = .int .i64 k ∧ (List.range k).all (rowOk m L t) = true ∧ Box wr w.heap.size m A L c ∧ Below W.heap.size W wr) (fun i _ => L - (intOf i).toNat)
      case atStart => exact ⟨0, Nat.zero_le _, rfl, rfl, HX.out, Below.refl _ _⟩
      case round =>
        obtain ⟨k, hk, rfl, hall, hx, hb⟩ := hrel
        have HB' := Lib.hid hb
        have HX' := Lib.hid hx
        have HA := Lib.hid hall
        by_cases hlt : k < L
        · obtain ⟨bb, off, A', c', rfl, hbb, hc, _, hri⟩ := HR.out.at k (by have := HL.out; omega)
          have hck := (hb.cell (p := ⟨bb, off + k, none⟩) hbb).trans hc
          have hrl := HRL.out k
          have hst : rowOk m L t k = (decide ((Pl.rw' t k).length + k = L) && allIn 0 (m - 1) (Pl.rw' t k)) := rfl
          obtain ⟨r, hr⟩ : ∃ r, Pl.rw' t k = r := ⟨_, rfl⟩
          rw [hr] at hck hrl hst hri
          have HST := Lib.hid hst
          have HRI := Lib.hid (hri.below hb)
          obtain ⟨x1, x2, _⟩ := hx
          have j0 : (0 : Int) ≤ (k : Int) := by omega
          have j1 : (k : Int) < (L : Int) := by omega
          clear hall hb hc hri hst hbb hr
          by_cases hlen : r.length + k = L
          · have hle : (L : Int) - (k : Int) = (r.length : Int) := by omega
            obtain ⟨q, hq⟩ : ∃ q, allIn 0 (m - 1) r = q := ⟨_, rfl⟩
            have HN : Hid (∀ n, Calls Tryz.prog 119 #[.int .i64 m, .slice A' r.length c'] (wr.drewN n) fun e w' => e = .returned (.bool q) ∧ w' = wr.drewN n) :=
              Lib.hid (fun n => by have := l01Numbers_any m A' c' r (wr.drewN n) m1 m2 hrl HRI.out; rw [hq] at this; exact this.mono fun e w' ⟨p1, p2⟩ => ⟨p1, p2.symm⟩)
            obtain ⟨rl, hrl2⟩ : ∃ q, r.length = q := ⟨_, rfl⟩
            have HQ := Lib.hid hq
            have HLN := Lib.hid hlen
            have HR2 := Lib.hid hrl2
            rw [hrl2] at hck hrl hle HN
            clear hq hlen hrl2
            cases q with
            | true =>
              have HOK := Lib.hid (show (List.range (k + 1)).all (rowOk m L t) = true by rw [all_succ, HA.out, HST.out, HQ.out, decide_eq_true HLN.out]; rfl)
              go_wp2
              go_quiet ((go_at_call 119; exact Calls.quiet_of_same (HN.out _)))
              go_wp2
              go_roundw
              case rel => exact ⟨k + 1, by omega, by go_num, HOK.out, HX'.out, below_drewN HB'.out _⟩
              case measure => simp only [intOf]; omega
            | false =>
              have hno : R = false := by
                rw [← HRR.out]
                unfold isP
                have hf : rowOk m t.length t k = false := by rw [HL.out, HST.out, HQ.out, Bool.and_false]
                rw [all_no _ k t.length (by have := HL.out; omega) hf, Bool.and_false, Bool.and_false]
              have HNO := Lib.hid hno
              clear hno
              go_wp2
              go_quiet ((go_at_call 119; exact Calls.quiet_of_same (HN.out _)))
              go_wp2
              go_ret
              exact ⟨ret_bool HNO.out.symm, below_drewN (below_step HB.out HB'.out) _⟩
          · have hno : R = false := by
              rw [← HRR.out]
              unfold isP
              have hf : rowOk m t.length t k = false := by rw [HL.out, HST.out, decide_eq_false hlen, Bool.false_and]
              rw [all_no _ k t.length (by have := HL.out; omega) hf, Bool.and_false, Bool.and_false]
            have HNO := Lib.hid hno
            obtain ⟨rl, hrl2⟩ : ∃ q, r.length = q := ⟨_, rfl⟩
            have hle : ¬ (r.length : Int) = (L : Int) - (k : Int) := by omega
            rw [hrl2] at hck hrl hle
            obtain ⟨n1, n2⟩ : ((rl : Int) == (L : Int) - (k : Int)) = false ∧ ((rl : Int) != (L : Int) - (k : Int)) = true := ⟨by simpa using hle, by simpa using hle⟩
            clear hno hlen hrl2 HRI
            go_wp2
            go_quiet (fail)
            go_wp2
            go_ret
            exact ⟨ret_bool HNO.out.symm, below_drewN (below_step HB.out HB'.out) _⟩
        · obtain rfl : k = L := by omega
          have hyes : R = true := by
            rw [← HRR.out]
            unfold isP
            rw [HM.out, HL.out, (inB_iff _ _ _).2 ⟨z1, z2⟩, hall]; rfl
          have HY := Lib.hid hyes
          clear hyes hall hx hb
          go_wp2
          go_ret
          exact ⟨ret_bool HY.out.symm, below_step HB.out HB'.out⟩
    · have hno : R = false := by
        rw [← HRR.out]
        unfold isP
        rw [inB_no (show ¬ ((2 : Int) ≤ t.length ∧ (t.length : Int) ≤ 11) by omega), Bool.false_and, Bool.and_false]
      have HNO := Lib.hid hno
      clear hno
      by_cases h2 : t.length < 2
      · go_enter Tryz.func79, Tryz.ntmps79
        go_wp2_with fail
        rw [HW.out]
        refine (HLM.out _).mono ?_
        rintro e w' ⟨rfl, rfl⟩
        go_wp2
        go_ret
        exact ⟨ret_bool HNO.out.symm, HB.out⟩
      · have h3 : (11 : Int) < (t.length : Int) := by omega
        clear h1
        go_enter Tryz.func79, Tryz.ntmps79
        go_wp2_with fail
        rw [HW.out]
        refine (HLM.out _).mono ?_
        rintro e w' ⟨rfl, rfl⟩
        go_wp2
        go_ret
        exact ⟨ret_bool HNO.out.symm, HB.out⟩
  · have hm' : isM m = false := by simpa using hm
    have HNO := Lib.hid (show R = false by rw [← HRR.out]; unfold isP; rw [hm']; rfl)
    have hlm := fun W => l01Modulus_any m W
    rw [hm'] at hlm
    have HLM := Lib.hid hlm
    clear hm hm' hlm
    go_enter Tryz.func79, Tryz.ntmps79
    go_wp2_with fail
    rw [HW.out]
    refine (HLM.out _).mono ?_
    rintro e w' ⟨rfl, rfl⟩
    go_wp2
    go_ret
    exact ⟨ret_bool HNO.out.symm, HB.out⟩
end Go.Proofs.YtfhdgcndiljjcabGreat

/- Contracts of the exact laws' helpers on planes: size, copying, comparing, marking, looking at the marks. -/
namespace Go.Proofs.YtfhdgcndiljjcabGreat
open Go.RowKit Go.WideShapes Go.ChangeShapes Go.ChangeAt
/-- the slice of slices at A, wherever they begin, holds the rows -/
def RQ (w : World) (A : Option Addr) (t : List (List Int)) : Prop :=
  t ≠ [] → ∃ ad : Addr, A = some ad ∧ ad.block < w.heap.size ∧ ∀ k, k < t.length → ∃ A' c', w.cell? (ad.add k) = some (.slice A' (Pl.rw' t k).length c') ∧ RA w A' (Pl.rw' t k)
theorem RQ.below {w w' : World} {A : Option Addr} {t : List (List Int)} (h : RQ w A t) (hb : Below w.heap.size w w') : RQ w' A t := by
  intro hl
  obtain ⟨ad, e, hlt, hc⟩ := h hl
  refine ⟨ad, e, Nat.lt_of_lt_of_le hlt hb.size, fun k hk => ?_⟩
  obtain ⟨A', c', h1, h3⟩ := hc k hk
  exact ⟨A', c', (hb.cell (p := ad.add k) (by rw [add_block]; exact hlt)).trans h1, h3.below hb⟩
theorem RQ.at {w : World} {A : Option Addr} {t : List (List Int)} (h : RQ w A t) (k : Nat) (hk : k < t.length) :
    ∃ (ad : Addr) (A' : Option Addr) (c' : Nat), A = some ad ∧ ad.block < w.heap.size ∧ w.cell? (ad.add k) = some (.slice A' (Pl.rw' t k).length c') ∧ RA w A' (Pl.rw' t k) := by
  obtain ⟨ad, e, hlt, hc⟩ := h (by rintro rfl; simp at hk)
  obtain ⟨A', c', h1, h3⟩ := hc k hk
  exact ⟨ad, A', c', e, hlt, h1, h3⟩
theorem take_tot (t : List (List Int)) (j : Nat) (h : j < t.length) : tot (t.take (j + 1)) = tot (t.take j) + (Pl.rw' t j).length := take_succ_tot t j h
/-- how many elements a table has on both levels -/
def szT (t : List (List Int)) : Nat := t.length + tot t
theorem tot_row (t : List (List Int)) (k : Nat) : (Pl.rw' t k).length ≤ tot t := by
  by_cases hk : k < t.length
  · have h1 := take_tot t k hk
    have h2 := tot_take_le t (k + 1)
    omega
  · rw [Pl.rw_over (by omega)]; exact Nat.zero_le _
set_option maxHeartbeats 1000000 in
theorem szInt64SS_any (A : Option Addr) (c : Nat) (t : List (List Int)) (left : Int) (w : World) (h1 : 0 ≤ left) (h2 : left ≤ 1048576) (hq : RQ w A t) (hl : t.length ≤ 9223372036854775807) (hrl : ∀ k, (Pl.rw' t k).length ≤ 9223372036854775807) :
    Calls Tryz.prog 26 #[.slice A t.length c, .int .i64 left] w fun e w' => e = .returned (.int .i64 (if ((szT t : Nat) : Int) ≤ left then left - (szT t : Nat) else -1)) ∧ w = w' := by
  obtain ⟨R, hR⟩ : ∃ R, (if ((szT t : Nat) : Int) ≤ left then left - (szT t : Nat) else -1) = R := ⟨_, rfl⟩
  rw [hR]
  have HRR := Lib.hid hR
  clear hR
  by_cases hz : (t.length : Int) ≤ left
  · have HR := Lib.hid hrl
    clear hrl
    go_enter Tryz.func26, Tryz.ntmps26
    go_wp2
    go_loop [5, 1] (fun i m => ∃ k : Nat, k ≤ t.length ∧ i = .int .i64 k ∧ m = .int .i64 (left - t.length - tot (t.take k)) ∧ 0 ≤ left - t.length - tot (t.take k)) (fun i _ => t.length - (intOf i).toNat)
    case atStart => exact ⟨0, Nat.zero_le _, rfl, by simp [tot], by simp [tot]; omega⟩
    case round =>
      obtain ⟨k, hk, rfl, rfl, hnn⟩ := hrel
      by_cases hlt : k < t.length
      · obtain ⟨ad, A', c', rfl, hb, hc, -⟩ := hq.at k hlt
        have hT := take_tot t k hlt
        have hT2 := tot_take_le t (k + 1)
        have hr := HR.out k
        obtain ⟨n, hn⟩ : ∃ n, (Pl.rw' t k).length = n := ⟨_, rfl⟩
        obtain ⟨T, hTT⟩ : ∃ T, tot (t.take k) = T := ⟨_, rfl⟩
        obtain ⟨T2, hTT2⟩ : ∃ T, tot (t.take (k + 1)) = T := ⟨_, rfl⟩
        rw [hn] at hc hT hr
        rw [hTT] at hT hnn ⊢
        rw [hTT2] at hT hT2
        have HTT2 := Lib.hid hTT2
        have HT := Lib.hid hT
        have HT2 := Lib.hid hT2
        have hj0 : (0 : Int) ≤ (k : Int) := by omega
        have hj1 : (k : Int) < (t.length : Int) := by omega
        have HS := Lib.hid (fun W => szInt64S_any A' n c' (left - t.length - T) W hnn (by omega) hr)
        by_cases hfit : (n : Int) ≤ left - t.length - T
        · rw [if_pos hfit] at HS
          clear hn hTT hTT2 hT hT2 hq
          go_wp2_with (go_at_call 45; refine (HS.out _).mono ?_; rintro e w2 ⟨rfl, rfl⟩)
          go_round
          case rel => exact ⟨k + 1, by omega, by go_num, by have := HT.out; rw [HTT2.out, this]; congr 1; push_cast; omega, by have := HT.out; rw [HTT2.out, this]; push_cast; omega⟩
          case measure => simp only [intOf]; omega
        · rw [if_neg hfit] at HS
          have hno : ¬ ((szT t : Nat) : Int) ≤ left := by unfold szT; omega
          have HNO := Lib.hid (show R = -1 by rw [← HRR.out, if_neg hno])
          clear hn hTT hTT2 hT hT2 hq hno
          go_wp2_with (go_at_call 45; refine (HS.out _).mono ?_; rintro e w2 ⟨rfl, rfl⟩)
          go_ret
          exact ⟨ret_int HNO.out.symm, rfl⟩
      · obtain rfl : k = t.length := by omega
        have hyes : ((szT t : Nat) : Int) ≤ left := by unfold szT; rw [List.take_length] at hnn; push_cast; omega
        have HY := Lib.hid (show R = left - t.length - tot (t.take t.length) by rw [← HRR.out, if_pos hyes, List.take_length]; unfold szT; push_cast; omega)
        clear hyes
        go_wp2
        go_ret
        exact ⟨ret_int (by have := HY.out; rw [List.take_length] at this; exact this.symm), rfl⟩
  · have hno : ¬ ((szT t : Nat) : Int) ≤ left := by unfold szT; omega
    have HNO := Lib.hid (show R = -1 by rw [← HRR.out, if_neg hno])
    clear hno
    go_enter Tryz.func26, Tryz.ntmps26
    go_wp2
    go_ret
    exact ⟨ret_int HNO.out.symm, rfl⟩
theorem szPlane_any (m : Int) (A : Option Addr) (c : Nat) (t : List (List Int)) (left : Int) (w : World) (h1 : 0 ≤ left) (h2 : left ≤ 1048576) (hq : RQ w A t) (hl : t.length ≤ 9223372036854775807) (hrl : ∀ k, (Pl.rw' t k).length ≤ 9223372036854775807) :
    Calls Tryz.prog 7 #[.agg #[.int .i64 m, .slice A t.length c], .int .i64 left] w fun e w' => e = .returned (.int .i64 (if ((szT t : Nat) : Int) ≤ left then left - (szT t : Nat) else -1)) ∧ Below w.heap.size w w' := by
  have hsz := fun W (h : Below w.heap.size w W) => szInt64SS_any A c t left W h1 h2 (hq.below h) hl hrl
  by_cases h : ((szT t : Nat) : Int) ≤ left
  · rw [if_pos h] at hsz ⊢
    have HS := Lib.hid hsz
    clear hsz
    go_enter Tryz.func7, Tryz.ntmps7
    go_wp2_with (go_at_call 26; refine (HS.out _ (below_one _ _)).mono ?_; rintro e w' ⟨rfl, rfl⟩)
    go_ret
    exact ⟨rfl, below_one _ _⟩
  · rw [if_neg h] at hsz ⊢
    have HS := Lib.hid hsz
    clear hsz
    go_enter Tryz.func7, Tryz.ntmps7
    go_wp2_with (go_at_call 26; refine (HS.out _ (below_one _ _)).mono ?_; rintro e w' ⟨rfl, rfl⟩)
    go_ret
    exact ⟨rfl, below_one _ _⟩
theorem szPlane_ok (m : Int) (A : Option Addr) (c : Nat) (t : List (List Int)) (left : Int) (w : World) (h : ((szT t : Nat) : Int) ≤ left) (h2 : left ≤ 1048576) (hq : RQ w A t) :
    Calls Tryz.prog 7 #[.agg #[.int .i64 m, .slice A t.length c], .int .i64 left] w fun e w' => e = .returned (.int .i64 (left - (szT t : Nat))) ∧ Below w.heap.size w w' := by
  have := szPlane_any m A c t left w (by omega) h2 hq (by unfold szT at h; omega) (fun k => by have := tot_row t k; unfold szT at h; omega)
  rwa [if_pos h] at this
theorem szPlane_no (m : Int) (A : Option Addr) (c : Nat) (t : List (List Int)) (left : Int) (w : World) (h : ¬ ((szT t : Nat) : Int) ≤ left) (h1 : 0 ≤ left) (h2 : left ≤ 1048576) (hq : RQ w A t) (hl : t.length ≤ 9223372036854775807) (hrl : ∀ k, (Pl.rw' t k).length ≤ 9223372036854775807) :
    Calls Tryz.prog 7 #[.agg #[.int .i64 m, .slice A t.length c], .int .i64 left] w fun e w' => e = .returned (.int .i64 (-1)) ∧ Below w.heap.size w w' := by
  have := szPlane_any m A c t left w h1 h2 hq hl hrl
  rwa [if_neg h] at this
theorem rows_step (t : List (List Int)) (k : Nat) (h : k < t.length) : (t.take k ++ List.replicate (t.length - k) []).set k (Pl.rw' t k) = t.take (k + 1) ++ List.replicate (t.length - (k + 1)) [] := by
  have e : t[k] = Pl.rw' t k := by unfold Pl.rw'; rw [List.getElem?_eq_getElem h]; rfl
  rw [List.set_append_right _ _ (by simp; omega), List.length_take, Nat.min_eq_left (by omega), Nat.sub_self, show t.length - k = (t.length - (k + 1)) + 1 by omega, List.replicate_succ, List.set_cons_zero, List.take_succ_eq_append_getElem h, e, List.append_assoc]
  rfl
set_option maxHeartbeats 1000000 in
theorem toInt64SS_any (A : Option Addr) (c : Nat) (t : List (List Int)) (w : World) (hl : t.length ≤ 1048576) (hrl : ∀ k, (Pl.rw' t k).length ≤ 1048576) (hq : RQ w A t) :
    Calls Tryz.prog 29 #[.slice A t.length c] w fun e w' => ∃ v, e = .returned v ∧ OwnR w' w.heap.size w'.heap.size v t ∧ Below w.heap.size w w' := by
  have hmk := fun W => run_make_row' (P := Tryz.prog) 22 26 (.slice none 0 0) 24 Tryz.underlying22 infoRow rfl .i64 .i64 t.length (by omega) (by omega) W
  have HR := Lib.hid hrl
  have HQ := Lib.hid hq
  clear hrl hq
  go_enter Tryz.func29, Tryz.ntmps29
  go_wp2
  go_loopw [4] (fun i wr => ∃ k : Nat, k ≤ t.length ∧ i = .int .i64 k ∧ OwnR wr w.heap.size wr.heap.size (.slice (some ⟨w.heap.size, 0, none⟩) t.length t.length) (t.take k ++ List.replicate (t.length - k) []) ∧ Below w.heap.size w wr) (fun i _ => t.length - (intOf i).toNat)
  case atStart => exact ⟨0, Nat.zero_le _, rfl, by simpa using OwnR.made w t.length (by unfold maxLen; omega), (Below.refl _ _).alloc (Nat.le_refl _) _⟩
  case round =>
    clear hmk
    obtain ⟨k, hk, rfl, hown, hbel⟩ := hrel
    have HB := Lib.hid hbel
    have HO := Lib.hid hown
    clear hown hbel
    by_cases hlt : k < t.length
    · obtain ⟨ad, A', c', rfl, hb, hc, hra⟩ := HQ.out.at k hlt
      have hck := (HB.out.cell (p := ad.add k) (by rw [add_block]; exact hb)).trans hc
      have hr := HR.out k
      have HST := Lib.hid (rows_step t k hlt)
      obtain ⟨r, hrr⟩ : ∃ r, Pl.rw' t k = r := ⟨_, rfl⟩
      rw [hrr] at hck hra hr HST
      have HA := Lib.hid (hra.below HB.out)
      have hj0 : (0 : Int) ≤ (k : Int) := by omega
      have hj1 : (k : Int) < (t.length : Int) := by omega
      have hlen : k < (t.take k ++ List.replicate (t.length - k) ([] : List Int)).length := by simp; omega
      clear hc hra hrr hb
      go_wp2_with fail
      refine (toInt64S_any _ _ r _ hr HA.out).mono ?_
      rintro e w1 ⟨u0, rfl, ho1, hb1⟩
      obtain ⟨Au, cu, rfl, _⟩ := ho1.form
      obtain ⟨u, hu⟩ : ∃ u, Value.slice Au r.length cu = u := ⟨_, rfl⟩
      rw [hu] at ho1
      have ho2 := HO.out.keep hb1
      obtain ⟨l0, _, _, hf, _, _, hcg, _⟩ := ho2.cell k hlen
      have hput := ho2.put k hlen u r (ho1.more HB.out.size) (hi' := w1.heap.size) (fun b hb => ho1.lt b hb) hb1.size
      rw [HST.out] at hput
      subst hu
      have HP := Lib.hid hput
      have HB1 := Lib.hid ((below_step HB.out hb1).setCell (p := ⟨w.heap.size, k, none⟩) (Nat.le_refl _) (.slice Au r.length cu))
      clear hput ho1 ho2 hb1
      go_wp2
      go_roundw
      case rel => exact ⟨k + 1, by omega, by go_num, HP.out.more (by simp [World.setCell]), HB1.out⟩
      case measure => simp only [intOf]; omega
    · obtain rfl : k = t.length := by omega
      have hfin := HO.out
      rw [Nat.sub_self, List.replicate_zero, List.append_nil, List.take_length] at hfin
      have HFin := Lib.hid hfin
      clear hfin
      go_wp2
      go_ret
      exact ⟨_, rfl, HFin.out, HB.out⟩
set_option maxHeartbeats 1000000 in
theorem toPlane_any (m : Int) (A : Option Addr) (c : Nat) (t : List (List Int)) (w : World) (hl : szT t ≤ 1048576) (hq : RQ w A t) :
    Calls Tryz.prog 9 #[.agg #[.int .i64 m, .slice A t.length c]] w fun e w' => ∃ s, e = .returned (.agg #[.int .i64 m, s]) ∧ OwnR w' w.heap.size w'.heap.size s t ∧ Below w.heap.size w w' := by
  obtain ⟨W, hW⟩ : ∃ W, (((w.alloc (.cells #[.int .i64 m, .slice A t.length c] 24)).alloc (.cells #[.int .i64 0, .slice none 0 0] 29)).alloc (.cells #[.int .i64 m, .slice none 0 0] 29)) = W := ⟨_, rfl⟩
  have hwb : Below w.heap.size w W := by rw [← hW]; exact below_alloc _ (below_alloc _ (below_one _ _))
  have v1 : VarC 29 W (w.heap.size + 1) #[.int .i64 0, .slice none 0 0] := by
    rw [← hW]
    have := (VarC.new 29 (w.alloc (.cells #[.int .i64 m, .slice A t.length c] 24)) #[.int .i64 0, .slice none 0 0]).keep (below_one _ (.cells #[.int .i64 m, .slice none 0 0] 29))
    simpa using this
  have v2 : VarC 29 W (w.heap.size + 1 + 1) #[.int .i64 m, .slice none 0 0] := by
    rw [← hW]
    have := VarC.new 29 ((w.alloc (.cells #[.int .i64 m, .slice A t.length c] 24)).alloc (.cells #[.int .i64 0, .slice none 0 0] 29)) #[.int .i64 m, .slice none 0 0]
    simpa using this
  have HT := Lib.hid (fun W' (h : Below W.heap.size W W') => toInt64SS_any A c t W' (by unfold szT at hl; omega) (fun k => by have := tot_row t k; unfold szT at hl; omega) ((hq.below hwb).below h))
  have HW := Lib.hid hW
  have HB := Lib.hid hwb
  have V1 := Lib.hid v1
  have V2 := Lib.hid v2
  clear hq hW hwb v1 v2
  go_enter Tryz.func9, Tryz.ntmps9
  go_wp2_with fail
  rw [HW.out]
  refine (HT.out _ (Below.refl _ _)).mono ?_
  rintro e w1 ⟨s, rfl, ho1, hb1⟩
  obtain ⟨A1, c1, rfl, _⟩ := ho1.len
  have hu := V2.out.keep hb1
  have q1 : w1.cell? ⟨w.heap.size + 1 + 1, 1, none⟩ = some (.slice none 0 0) := hu.cell 1 _ rfl
  have q2 := hu.fz 1
  have hu2 := hu.set 1 (.slice A1 t.length c1)
  have q3 : (w1.setCell ⟨w.heap.size + 1 + 1, 1, none⟩ (.slice A1 t.length c1)).cell? ⟨w.heap.size + 1 + 1, 0, none⟩ = some (.int .i64 m) := hu2.cell 0 _ rfl
  have q4 : (w1.setCell ⟨w.heap.size + 1 + 1, 1, none⟩ (.slice A1 t.length c1)).cell? ⟨w.heap.size + 1 + 1, 1, none⟩ = some (.slice A1 t.length c1) := hu2.cell 1 _ rfl
  have hr1 := (V1.out.keep hb1).far (w.heap.size + 1 + 1) 1 (.slice A1 t.length c1) (by omega)
  have q5 : (w1.setCell ⟨w.heap.size + 1 + 1, 1, none⟩ (.slice A1 t.length c1)).cell? ⟨w.heap.size + 1, 0, none⟩ = some (.int .i64 0) := hr1.cell 0 _ rfl
  have q6 : (w1.setCell ⟨w.heap.size + 1 + 1, 1, none⟩ (.slice A1 t.length c1)).cell? ⟨w.heap.size + 1, 1, none⟩ = some (.slice none 0 0) := hr1.cell 1 _ rfl
  have q7 := hr1.fz 0
  have q8 := hr1.fz 1
  have hlt := V2.out.lt
  have hw2 : Below w.heap.size w (w1.setCell ⟨w.heap.size + 1 + 1, 1, none⟩ (.slice A1 t.length c1)) := (below_step HB.out hb1).setCell (by show w.heap.size ≤ w.heap.size + 1 + 1; omega) _
  have ho2 := (ho1.far (Span.of_grown (lo := w.heap.size + 1 + 1) (hi := w.heap.size + 1 + 1 + 1) (grown_setCell w1 (w.heap.size + 1 + 1) 1 (.slice A1 t.length c1)) (fun b hb => by injection hb with hb; omega)) (by omega)).more (show w1.heap.size ≤ (w1.setCell ⟨w.heap.size + 1 + 1, 1, none⟩ (.slice A1 t.length c1)).heap.size by simp [World.setCell])
  have fin := hr1.set 0 (.int .i64 m)
  have fin2 := fin.set 1 (.slice A1 t.length c1)
  have f0 : (((w1.setCell ⟨w.heap.size + 1 + 1, 1, none⟩ (.slice A1 t.length c1)).setCell ⟨w.heap.size + 1, 0, none⟩ (.int .i64 m)).setCell ⟨w.heap.size + 1, 1, none⟩ (.slice A1 t.length c1)).cell? ⟨w.heap.size + 1, 0, none⟩ = some (.int .i64 m) := fin2.cell 0 _ rfl
  have f1 : (((w1.setCell ⟨w.heap.size + 1 + 1, 1, none⟩ (.slice A1 t.length c1)).setCell ⟨w.heap.size + 1, 0, none⟩ (.int .i64 m)).setCell ⟨w.heap.size + 1, 1, none⟩ (.slice A1 t.length c1)).cell? ⟨w.heap.size + 1, 1, none⟩ = some (.slice A1 t.length c1) := fin2.cell 1 _ rfl
  have hg2 := grown_set2 (w1.setCell ⟨w.heap.size + 1 + 1, 1, none⟩ (.slice A1 t.length c1)) (w.heap.size + 1) (.int .i64 m) (.slice A1 t.length c1)
  have f2a := ho2.far (Span.of_grown (lo := w.heap.size + 1) (hi := w.heap.size + 1 + 1) hg2 (fun b hb => by injection hb with hb; omega)) (by omega)
  have f2 := (f2a.more hg2.size).low (show w.heap.size ≤ W.heap.size by omega)
  have f3 := below_set2 hw2 (show w.heap.size ≤ w.heap.size + 1 by omega) (.int .i64 m) (.slice A1 t.length c1)
  have F2 := Lib.hid f2
  have F3 := Lib.hid f3
  clear f2 f2a hg2 f3 hw2 ho2 ho1 hb1 hu hu2 hr1 fin fin2
  go_wp2
  refine bodyPost_ret (v := .agg #[.int .i64 m, .slice A1 t.length c1]) (by simp [results, Tryz.results9, go_sem, f0, f1]) rfl ⟨_, rfl, F2.out, F3.out⟩
set_option maxHeartbeats 1000000 in
theorem eqPlane_any (m : Int) (v u : Value) (lo hi lo' hi' : Nat) (t : List (List Int)) (w : World) (hl : szT t ≤ 1048576) (ha : OwnR w lo hi v t) (hb : OwnR w lo' hi' u t) (h1 : hi ≤ w.heap.size) (h2 : hi' ≤ w.heap.size) :
    Calls Tryz.prog 12 #[.agg #[.int .i64 m, v], .agg #[.int .i64 m, u]] w fun e w' => e = .returned (.bool true) ∧ Below w.heap.size w w' := by
  have hb2 := (below_alloc (.cells #[.int .i64 m, u] 29) (below_one w (.cells #[.int .i64 m, v] 29)))
  have HA := Lib.hid (ha.keep (hb2.mono h1))
  have HB := Lib.hid (hb.keep (hb2.mono h2))
  have HE := Lib.hid (fun W0 a b => eqInt64SS_any v u lo hi lo' hi' t W0 (by unfold szT at hl; omega) (fun k => by have := tot_row t k; unfold szT at hl; unfold Pl.rw' at this; omega) a b)
  obtain ⟨A, c, rfl, -⟩ := ha.len
  obtain ⟨B, d, rfl, -⟩ := hb.len
  have H2 := Lib.hid hb2
  clear ha hb hb2
  go_enter Tryz.func12, Tryz.ntmps12
  go_wp2_with (go_at_call 33; refine (HE.out _ HA.out HB.out).mono ?_; rintro e w' ⟨rfl, hb3⟩)
  go_ret
  exact ⟨rfl, below_step H2.out hb3⟩
set_option maxHeartbeats 1000000 in
theorem markPlane_any (m : Int) (v : Value) (lo hi : Nat) (t : List (List Int)) (k : Int) (w : World) (hl : szT t ≤ 1048576) (hk : 0 ≤ k) (hk2 : k ≤ 500000000000) (hown : OwnR w lo hi v t) (h1 : hi ≤ w.heap.size) :
    Calls Tryz.prog 13 #[.agg #[.int .i64 m, v], .int .i64 k] w fun e w' => e = .returned (.int .i64 (k + tot t)) ∧ OwnR w' lo hi v (mkR k t) ∧ Span lo hi w w' := by
  obtain ⟨A, c, rfl, _⟩ := hown.len
  have HO := Lib.hid (hown.keep ((below_one w (.cells #[.int .i64 m, .slice A t.length c] 29)).mono h1))
  have HM := Lib.hid (fun W0 h => markInt64SS_any (.slice A t.length c) lo hi t k W0 (by unfold szT at hl; omega) (by unfold szT at hl; omega) hk hk2 h)
  clear hown
  go_enter Tryz.func13, Tryz.ntmps13
  go_wp2_with (go_at_call 34; refine (HM.out _ HO.out).mono ?_; rintro e w' ⟨rfl, ho2, hg2⟩)
  go_ret
  exact ⟨rfl, ho2, (Span.of_grown (grown_alloc w (.cells #[.int .i64 m, .slice A t.length c] 29) none) (fun g hg => by cases hg)).trans hg2⟩
end Go.Proofs.YtfhdgcndiljjcabGreat

/- Helpers of the exact laws over planes and series. -/
namespace Go.Proofs.YtfhdgcndiljjcabGreat
open Go.RowKit Go.WideShapes Go.ChangeShapes Go.ChangeAt
theorem lenT {t : List (List Int)} (h : szT t ≤ 1048576) : t.length ≤ 9223372036854775807 := by unfold szT at h; omega
theorem rowT {t : List (List Int)} (h : szT t ≤ 1048576) (k : Nat) : (Pl.rw' t k).length ≤ 9223372036854775807 := by have := tot_row t k; unfold szT at h; omega
theorem Box.span {w w' : World} {g lo hi : Nat} {m : Int} {A : Option Addr} {n c : Nat} (hx : Box w g m A n c) (hs : Span lo hi w w') (hd : g < lo ∨ hi ≤ g) : Box w' g m A n c := by
  obtain ⟨h1, h2, h3⟩ := hx
  have hb := hs.block g h3 hd
  exact ⟨by rw [← h1]; simp only [World.cell?, hb], by rw [← h2]; simp only [World.cell?, hb], Nat.lt_of_lt_of_le h3 hs.size⟩
theorem varC_keep {t : TypeId} {cur wd : World} {g : Nat} {cs : Array Value} (h : VarC t cur g cs) (hb : Below cur.heap.size cur wd) : VarC t wd g cs ∧ g < cur.heap.size := ⟨h.keep hb, h.lt⟩
theorem varC_at {t : TypeId} {w : World} {g k : Nat} {cs : Array Value} (_h : VarC t w g cs) (hk : k ≤ g) : k ≤ g := hk
theorem startB2 (t t' : TypeId) (w : World) (m : Int) (A : Option Addr) (n c : Nat) (m' : Int) (A' : Option Addr) (n' c' : Nat) :
    ∃ W, (w.alloc (.cells #[.int .i64 m, .slice A n c] t)).alloc (.cells #[.int .i64 m', .slice A' n' c'] t') = W ∧ Box W w.heap.size m A n c ∧ Box W (w.heap.size + 1) m' A' n' c' ∧ Below w.heap.size w W := by
  refine ⟨_, rfl, (Box.newT t w m A n c).keep (below_one _ _), ?_, below_alloc _ (below_one _ _)⟩
  have := Box.newT t' (w.alloc (.cells #[.int .i64 m, .slice A n c] t)) m' A' n' c'
  simpa using this
theorem reg_end2 {wk cur wd : World} {p q : Prop} (hs : p ∧ q ∧ Below wk.heap.size wk cur) (hb : Below cur.heap.size cur wd) : Below wk.heap.size wk wd ∧ wk.heap.size ≤ cur.heap.size := reg_end hs hb
end Go.Proofs.YtfhdgcndiljjcabGreat

/- Contracts of IsPlane at planes of bounded size. -/
namespace Go.Proofs.YtfhdgcndiljjcabGreat
open Go.RowKit Go.WideShapes Go.ChangeShapes Go.ChangeAt
theorem IsPlane_any (m : Int) (A : Option Addr) (c : Nat) (t : List (List Int)) (w : World) (hz : szT t ≤ 1048576) (hr : RP w A t) :
    Calls Tryz.prog 125 #[.agg #[.int .i64 m, .slice A t.length c]] w fun e w' => e = .returned (.bool (isP m t)) ∧ Below w.heap.size w w' := IsPlane_c m A c t w (lenT hz) (rowT hz) hr
theorem l03Is_z (m : Int) (A : Option Addr) (c : Nat) (t : List (List Int)) (w : World) (hz : szT t ≤ 1048576) (hr : RP w A t) :
    Calls Tryz.prog 79 #[.agg #[.int .i64 m, .slice A t.length c]] w fun e w' => e = .returned (.bool (isP m t)) ∧ Below w.heap.size w w' := l03Is_any m A c t w (lenT hz) (rowT hz) hr
end Go.Proofs.YtfhdgcndiljjcabGreat

/- Contracts of the codes of planes: one, two; of the program and of the model. -/
namespace Go.Proofs.YtfhdgcndiljjcabGreat
open Go.RowKit Go.WideShapes Go.ChangeShapes Go.ChangeAt
/-- the code of one plane, of two -/
def codeP1 (m : Int) (t : List (List Int)) : Int := if isP m t = true then 0 else 1
theorem var_inT {T : TypeId} {w w' : World} {g : Nat} {m m' : Int} {A A' : Option Addr} {n c n' c' : Nat} (hx : Box w g m A n c) (hb : Below w.heap.size w w') :
    ∃ W, (w'.alloc (.cells #[.int .i64 m', .slice A' n' c'] T)) = W ∧ Box W w'.heap.size m' A' n' c' ∧ Box W g m A n c ∧ Below w.heap.size w W :=
  ⟨_, rfl, Box.newT _ _ _ _ _ _, hx.keep (below_alloc _ hb), below_alloc _ hb⟩
set_option maxHeartbeats 4000000 in
set_option maxRecDepth 100000 in
theorem codeOfPlanes1_any (g : Nat) (m : Int) (A : Option Addr) (c : Nat) (t : List (List Int)) (w : World) (hz : szT t ≤ 1048576) (hr : RP w A t) (hx : Box w g m A t.length c) :
    Calls Tryz.prog 92 #[.slice (some ⟨g, 0, none⟩) 1 1] w fun e w' => e = .returned (.int .i64 (codeP1 m t)) ∧ Below w.heap.size w w' := by
  have HR := Lib.hid hr
  have HX := Lib.hid hx
  have HIP := Lib.hid (fun W (h : Below w.heap.size w W) => IsPlane_any m A c t W hz (hr.below h))
  have HG := Lib.hid (fun W => gridOf_any m A t.length c W (lenT hz))
  have hfd := field_frame
  obtain ⟨x1, x2, x3⟩ := hx
  obtain ⟨L, hL⟩ : ∃ L, t.length = L := ⟨_, rfl⟩
  rw [hL] at HX HIP HG x2
  clear hr x3 hL
  by_cases h1 : isP m t = true
  · have HF := Lib.hid (show codeP1 m t = 0 by unfold codeP1; rw [if_pos h1])
    rw [h1] at HIP
    go_enter Tryz.func92, Tryz.ntmps92
    go_wp2
    refine wp_loop_rounds 2 ?_
    rw [rounds_succ]
    go_wp2_with fail
    refine (HIP.out _ (below_one _ _)).mono ?_
    rintro e w1 ⟨rfl, hb1⟩
    have hb2 := (below_one w (.cells #[.int .i64 m, .slice A L c] 29)).trans (hb1.mono (by simp))
    obtain ⟨y1, y2, y3⟩ := HX.out.keep hb2
    go_wp2
    rw [rounds_succ]
    go_wp2
    refine wp_loop_rounds 2 ?_
    rw [rounds_succ]
    go_wp2
    obtain ⟨W, hW, b1, b2, hwb⟩ := var_inT (T := 29) (m' := m) (A' := A) (n' := L) (c' := c) HX.out hb2
    rw [hW]
    have B1 := Lib.hid b1
    have B2 := Lib.hid b2
    have HB := Lib.hid hwb
    clear hW b1 b2 hwb hb1 hb2
    go_region_held3 (fun w' => (w'.cell? ⟨w1.heap.size, 0, none⟩ = some (.int .i64 m) ∧ w'.cell? ⟨w1.heap.size, 1, none⟩ = some (.slice A L c)) ∧ (w'.cell? ⟨g, 0, none⟩ = some (.int .i64 m) ∧ w'.cell? ⟨g, 1, none⟩ = some (.slice A L c)) ∧ Below W.heap.size W w') (first | exact box2_in B1.out B2.out (below_drew0 _) | exact box2_next B1.out B2.out (by assumption) (by assumption)) (first
      | (go_at_call 59; refine (HG.out _).mono ?_; rintro e1 w2 ⟨rfl, hb3⟩))
    all_goals
      go_wp2
      rw [rounds_succ]
      go_wp2
      go_ret
      exact ⟨ret_int HF.out.symm, HB.out.trans ((box2_next B1.out B2.out (Below.refl _ _) (by assumption)).2.2.mono HB.out.size)⟩
  · have h1' : isP m t = false := by simpa using h1
    have HF := Lib.hid (show codeP1 m t = 1 by unfold codeP1; rw [if_neg h1])
    rw [h1'] at HIP
    clear h1 h1'
    go_enter Tryz.func92, Tryz.ntmps92
    go_wp2
    refine wp_loop_rounds 2 ?_
    rw [rounds_succ]
    go_wp2_with fail
    refine (HIP.out _ (below_one _ _)).mono ?_
    rintro e w1 ⟨rfl, hb1⟩
    have hb2 := (below_one w (.cells #[.int .i64 m, .slice A L c] 29)).trans (hb1.mono (by simp))
    go_wp2
    go_ret
    exact ⟨ret_int HF.out.symm, hb2⟩
end Go.Proofs.YtfhdgcndiljjcabGreat

/- What the methods of grids share: their boxes, their results; planes with one code. -/
namespace Go.Proofs.YtfhdgcndiljjcabGreat
open Go.RowKit Go.WideShapes Go.ChangeShapes Go.ChangeAt
/-- the block of a grid in a variable of its own -/
def GBox (w : World) (g : Nat) (m : Int) (d : Nat) (A : Option Addr) (n c : Nat) : Prop :=
  w.cell? ⟨g, 0, none⟩ = some (.int .i64 m) ∧ w.cell? ⟨g, 1, none⟩ = some (.int .i64 d) ∧ w.cell? ⟨g, 2, none⟩ = some (.slice A n c) ∧ g < w.heap.size
theorem GBox.new (T : TypeId) (w : World) (m : Int) (d : Nat) (A : Option Addr) (n c : Nat) : GBox (w.alloc (.cells #[.int .i64 m, .int .i64 d, .slice A n c] T)) w.heap.size m d A n c := by
  have h := VarC.new T w #[.int .i64 m, .int .i64 d, .slice A n c]
  exact ⟨h.cell 0 _ rfl, h.cell 1 _ rfl, h.cell 2 _ rfl, h.lt⟩
theorem GBox.keep {w w' : World} {g : Nat} {m : Int} {d : Nat} {A : Option Addr} {n c : Nat} (h : GBox w g m d A n c) (hb : Below w.heap.size w w') : GBox w' g m d A n c :=
  ⟨(hb.cell (p := ⟨g, 0, none⟩) h.2.2.2).trans h.1, (hb.cell (p := ⟨g, 1, none⟩) h.2.2.2).trans h.2.1, (hb.cell (p := ⟨g, 2, none⟩) h.2.2.2).trans h.2.2.1, Nat.lt_of_lt_of_le h.2.2.2 hb.size⟩
/-- a grid's box and its result's variable -/
theorem gpro1 (w : World) (m : Int) (d : Nat) (A : Option Addr) (n c : Nat) : ∃ W, (w.alloc (.cells #[.int .i64 m, .int .i64 d, .slice A n c] 55)).alloc (.cells #[.int .i64 0, .int .i64 0, .slice none 0 0] 55) = W ∧
    GBox W w.heap.size m d A n c ∧ VarC 55 W (w.heap.size + 1) #[.int .i64 0, .int .i64 0, .slice none 0 0] ∧ Below w.heap.size w W := by
  refine ⟨_, rfl, (GBox.new _ _ _ _ _ _ _).keep (below_one _ _), ?_, below_alloc _ (below_one _ _)⟩
  have := VarC.new 55 (w.alloc (.cells #[.int .i64 m, .int .i64 d, .slice A n c] 55)) #[.int .i64 0, .int .i64 0, .slice none 0 0]
  simpa using this
/-- two grids' boxes and the result's variable -/
theorem gpro2 (w : World) (m : Int) (d : Nat) (A : Option Addr) (n c : Nat) (m' : Int) (d' : Nat) (A' : Option Addr) (n' c' : Nat) : ∃ W, ((w.alloc (.cells #[.int .i64 m, .int .i64 d, .slice A n c] 55)).alloc (.cells #[.int .i64 m', .int .i64 d', .slice A' n' c'] 55)).alloc (.cells #[.int .i64 0, .int .i64 0, .slice none 0 0] 55) = W ∧
    GBox W w.heap.size m d A n c ∧ GBox W (w.heap.size + 1) m' d' A' n' c' ∧ VarC 55 W (w.heap.size + 1 + 1) #[.int .i64 0, .int .i64 0, .slice none 0 0] ∧ Below w.heap.size w W := by
  refine ⟨_, rfl, ((GBox.new _ _ _ _ _ _ _).keep (below_one _ _)).keep (below_one _ _), ?_, ?_, below_alloc _ (below_alloc _ (below_one _ _))⟩
  · have := (GBox.new 55 (w.alloc (.cells #[.int .i64 m, .int .i64 d, .slice A n c] 55)) m' d' A' n' c').keep (below_one _ (.cells #[.int .i64 0, .int .i64 0, .slice none 0 0] 55))
    simpa using this
  · have := VarC.new 55 ((w.alloc (.cells #[.int .i64 m, .int .i64 d, .slice A n c] 55)).alloc (.cells #[.int .i64 m', .int .i64 d', .slice A' n' c'] 55)) #[.int .i64 0, .int .i64 0, .slice none 0 0]
    simpa using this
/-- what a grid's variable tells the walk -/
theorem VarC.tells3 {T : TypeId} {w : World} {g : Nat} {a b c : Value} (h : VarC T w g #[a, b, c]) : w.cell? ⟨g, 0, none⟩ = some a ∧ w.cell? ⟨g, 1, none⟩ = some b ∧ w.cell? ⟨g, 2, none⟩ = some c ∧ w.frozen? ⟨g, 0, none⟩ = false ∧ w.frozen? ⟨g, 1, none⟩ = false ∧ w.frozen? ⟨g, 2, none⟩ = false :=
  ⟨h.cell 0 _ rfl, h.cell 1 _ rfl, h.cell 2 _ rfl, h.fz 0, h.fz 1, h.fz 2⟩
theorem VarC.tells2 {T : TypeId} {w : World} {g : Nat} {a b : Value} (h : VarC T w g #[a, b]) : w.cell? ⟨g, 0, none⟩ = some a ∧ w.cell? ⟨g, 1, none⟩ = some b ∧ w.frozen? ⟨g, 0, none⟩ = false ∧ w.frozen? ⟨g, 1, none⟩ = false :=
  ⟨h.cell 0 _ rfl, h.cell 1 _ rfl, h.fz 0, h.fz 1⟩
/-- a series is -/
theorem fin_serC {T : TypeId} {w w2 : World} {g base : Nat} {v x y : Value} {l : List Int} (hv : VarC T w2 g #[x, y]) (ho : OwnI w2 base v l) (hg : g < base) (hwg : w.heap.size ≤ g) (hb : Below w.heap.size w w2) (p q : Value) :
    ((w2.setCell ⟨g, 0, none⟩ p).setCell ⟨g, 1, none⟩ q).cell? ⟨g, 0, none⟩ = some p ∧ ((w2.setCell ⟨g, 0, none⟩ p).setCell ⟨g, 1, none⟩ q).cell? ⟨g, 1, none⟩ = some q ∧
    OwnI ((w2.setCell ⟨g, 0, none⟩ p).setCell ⟨g, 1, none⟩ q) base v l ∧ Below w.heap.size w ((w2.setCell ⟨g, 0, none⟩ p).setCell ⟨g, 1, none⟩ q) := by
  have h := (hv.set 0 p).set 1 q
  refine ⟨h.cell 0 _ rfl, h.cell 1 _ rfl, ho.other (grown_set2 w2 g p q) ?_, (hb.setCell hwg _).setCell hwg _⟩
  rcases hc : v.ownBlock with _ | b
  · exact .inl rfl
  · refine .inr (fun e => ?_)
    injection e with e
    have := (ho.lt b hc).1
    omega
end Go.Proofs.YtfhdgcndiljjcabGreat

/- Contract of a grid with its variables exchanged. -/
namespace Go.Proofs.YtfhdgcndiljjcabGreat
open Go.RowKit Go.WideShapes Go.ChangeShapes Go.ChangeAt
set_option maxHeartbeats 1000000 in
theorem turnedC_any (i j g : Nat) (m : Int) (d : Nat) (A : Option Addr) (c : Nat) (t : List (List Int)) (W : World) (hb : GBox W g m d A t.length c) (hs : Pl.Ok m d t) (hr : RP W A t) (hij : i + j ≤ d) :
    Calls Tryz.prog 146 #[.int .i64 i, .int .i64 j, .pointer (some ⟨g, 0, none⟩)] W fun e w' => e = .returned (.int .i64 (Pl.pc t j i)) ∧ Below W.heap.size W w' := by
  obtain ⟨_, _, x2, _⟩ := hb
  obtain ⟨b, off, b', off', c', rfl, -, k1, -, k2⟩ := hr.num j i (by rw [hs.len]; omega) (by rw [hs.row j (by omega)]; omega)
  have hl := hs.len
  have hrw := hs.row j (by omega)
  obtain ⟨N, hN⟩ : ∃ N, d - j + 1 = N := ⟨_, rfl⟩
  obtain ⟨L, hL⟩ : ∃ L, t.length = L := ⟨_, rfl⟩
  obtain ⟨X, hX⟩ : ∃ X, Pl.pc t j i = X := ⟨_, rfl⟩
  rw [hrw, hN] at k1
  rw [hX] at k2 ⊢
  rw [hL] at x2
  have j1 : (0 : Int) ≤ (j : Int) := by omega
  have j2 : (j : Int) < (L : Int) := by omega
  have j3 : (0 : Int) ≤ (i : Int) := by omega
  have j4 : (i : Int) < (N : Int) := by omega
  clear hl hrw hN hL hX hr hs
  go_enter Tryz.func146, Tryz.ntmps146
  go_wp2
  go_ret
  exact ⟨rfl, Below.refl _ _⟩
set_option maxHeartbeats 2000000 in
set_option maxRecDepth 100000 in
theorem turned_any (m : Int) (d : Nat) (A : Option Addr) (c : Nat) (t : List (List Int)) (w : World) (hs : Pl.Ok m d t) (hr : RP w A t) :
    Calls Tryz.prog 114 #[.agg #[.int .i64 m, .int .i64 d, .slice A t.length c]] w fun e w' => ∃ v, e = .returned (.agg #[.int .i64 m, .int .i64 d, v]) ∧ OwnR w' w.heap.size w'.heap.size v (Pl.tab m d (fun i j => Pl.pc t j i)) ∧ Below w.heap.size w w' := by
  obtain ⟨W, hW, b1, v3, hwb⟩ := gpro1 w m d A t.length c
  have HS := Lib.hid (filled_any m d 146 #[.pointer (some ⟨w.heap.size, 0, none⟩)] (fun i j => Pl.pc t j i) W (by have := hs.m1; omega) hs.m2 (by have := hs.d2; omega)
    (fun i j hij => by have := hs.pc j i; have := hs.m2; omega) (enters_fn Tryz.func146 (of_decide_eq_true (by kernel_rfl)) rfl)
    (fun i j W1 hij hb => turnedC_any i j _ m d A c t W1 (b1.keep hb) hs ((hr.below hwb).below hb) hij))
  have HB := Lib.hid hwb
  have HW := Lib.hid hW
  have V3 := Lib.hid v3
  obtain ⟨T, hT⟩ : ∃ T, Pl.tab m d (fun i j => Pl.pc t j i) = T := ⟨_, rfl⟩
  rw [hT] at HS ⊢
  obtain ⟨L, hL⟩ : ∃ L, t.length = L := ⟨_, rfl⟩
  rw [hL] at HW ⊢
  clear b1 v3 hwb hW hr hs hT hL
  go_enter Tryz.func114, Tryz.ntmps114
  go_wp2_with fail
  rw [HW.out]
  refine HS.out.mono ?_
  rintro e w2 ⟨v, rfl, ho, hb⟩
  obtain ⟨A2, c2, rfl, -⟩ := ho.len
  have hv := V3.out.keep hb
  obtain ⟨q0, q1, q2, q3, q4, q5⟩ := hv.tells3
  obtain ⟨f0, f1, f2, f3, f4⟩ := fin_grid (w := w) hv ho (by have := V3.out.lt; omega) (by omega) (Nat.le_refl _) (below_step HB.out hb) (.int .i64 m) (.int .i64 d) (.slice A2 T.length c2)
  have F3 := Lib.hid (f3.low (show w.heap.size ≤ W.heap.size from HB.out.size))
  have F4 := Lib.hid f4
  unfold set3 at f0 f1 f2
  clear f3 f4 ho hv hb
  go_wp2
  exact bodyPost_ret (v := .agg #[.int .i64 m, .int .i64 d, .slice A2 T.length c2]) (by simp [results, Tryz.results114, go_sem, f0, f1, f2]) rfl ⟨_, rfl, F3.out, F4.out⟩
end Go.Proofs.YtfhdgcndiljjcabGreat

/- Contracts of sums and multiples of series, of the program. -/
namespace Go.Proofs.YtfhdgcndiljjcabGreat
open Go.RowKit Go.WideShapes Go.ChangeShapes Go.ChangeAt
/-- the world behind the boxes and the result's variable -/
theorem box3_new (w : World) (m m' : Int) (A A' : Option Addr) (n c n' c' : Nat) (W : World) (hW : (((w.alloc (.cells #[.int .i64 m, .slice A n c] 39)).alloc (.cells #[.int .i64 m', .slice A' n' c'] 39)).alloc (.cells #[.int .i64 0, .slice none 0 0] 39)) = W) :
    Box W w.heap.size m A n c ∧ Box W (w.heap.size + 1) m' A' n' c' ∧ Var2 W (w.heap.size + 1 + 1) (.int .i64 0) (.slice none 0 0) ∧ Below w.heap.size w W := by
  subst hW
  obtain ⟨h1, h2, h3⟩ := box2_new w m m' A A' n c n' c' _ rfl
  refine ⟨h1.keep (below_one _ _), h2.keep (below_one _ _), ?_, below_alloc _ h3⟩
  have := Var2.new ((w.alloc (.cells #[.int .i64 m, .slice A n c] 39)).alloc (.cells #[.int .i64 m', .slice A' n' c'] 39)) (.int .i64 0) (.slice none 0 0)
  simpa using this
end Go.Proofs.YtfhdgcndiljjcabGreat

/- Powers, compositions by Horner's rule and reversions as lists of coefficients. Plain: no program in sight. -/
namespace Go.Proofs.YtfhdgcndiljjcabGreat
namespace Ser
def mulL (m : Int) (d : Nat) (a b : List Int) : List Int := cut m d (mul (co a) (co b))
theorem mulL_length (m : Int) (d : Nat) (a b : List Int) : (mulL m d a b).length = d + 1 := cut_length _ _ _
def one (m : Int) (d : Nat) : List Int := cut m d (mon 0 1)
/-- Horner's rule over lists: after j steps -/
def horC (m : Int) (d : Nat) (a f : Nat → Int) : Nat → List Int
  | 0 => List.replicate (d + 1) 0
  | j + 1 => (cut m d (mul (co (horC m d a f j)) f)).set 0 (a (d - j))
theorem horC_length (m : Int) (d : Nat) (a f : Nat → Int) : ∀ j, (horC m d a f j).length = d + 1 := by
  intro j
  cases j with
  | zero => simp [horC]
  | succ j => simp [horC, cut_length]
theorem horC_red {m : Int} (hm : 0 < m) (d : Nat) (a f : Nat → Int) (ha : ∀ i, 0 ≤ a i ∧ a i < m) : ∀ j, Red m (horC m d a f j) := by
  intro j i
  cases j with
  | zero => rw [horC, co_zeros]; omega
  | succ j =>
    rw [horC, co_set (by rw [cut_length]; omega)]
    split
    · exact ha _
    · exact cut_red hm _ _ i
theorem horC_hor {m : Int} {d : Nat} {a f : Nat → Int} (hf : f 0 = 0) : ∀ j, j ≤ d → Eq m d (co (horC m d a f (j + 1))) (hor j (fun i => a (d - j + i)) f) := by
  intro j
  induction j with
  | zero =>
    intro _ i hi
    rw [horC, co_set (by rw [cut_length]; omega), hor_zero]
    unfold mon
    by_cases h : i = 0
    · rw [if_pos h, if_pos h]; rfl
    · have z : co (horC m d a f 0) = fun _ => 0 := by funext i; rw [horC, co_zeros]
      rw [if_neg h, if_neg h, co_cut hi, mul_at, z, cv_zero_left]; simp
  | succ j ih =>
    intro hj i hi
    rw [horC, co_set (by rw [cut_length]; omega), hor_succ]
    dsimp only
    have e : (sh fun i => a (d - (j + 1) + i)) = fun i => a (d - j + i) := by
      funext i
      simp only [sh]
      congr 1
      omega
    rw [e, mul_at]
    by_cases h : i = 0
    · subst h
      rw [if_pos rfl, cv_zero, hf]
      simp [mon]
    · rw [if_neg h, co_cut hi, mul_at, Int.emod_emod, cv_comm]
      unfold mon
      rw [if_neg h, Int.zero_add]
      exact cv_congr i (Eq.refl _ _ _) ((ih (by omega)).less hi)
theorem horC_comp {m : Int} {d : Nat} {a f : Nat → Int} (hf : f 0 = 0) : Eq m d (co (horC m d a f (d + 1))) (comp a f) := by
  intro i hi
  rw [horC_hor hf d (Nat.le_refl _) i hi]
  have e : (fun i => a (d - d + i)) = a := by funext i; rw [Nat.sub_self, Nat.zero_add]
  rw [e, hor_comp hf a d i hi]
/-- composition of lists -/
def cmpL (m : Int) (d : Nat) (a f : List Int) : List Int := horC m d (co a) (co f) (d + 1)
theorem cmpL_length (m : Int) (d : Nat) (a f : List Int) : (cmpL m d a f).length = d + 1 := horC_length _ _ _ _ _
theorem cmpL_eq {m : Int} {d : Nat} {a f : List Int} (hf : co f 0 = 0) : Eq m d (co (cmpL m d a f)) (comp (co a) (co f)) := horC_comp hf
theorem cmpL_red {m : Int} (hm : 0 < m) (d : Nat) {a : List Int} (ha : Red m a) (f : List Int) : Red m (cmpL m d a f) := horC_red hm _ _ _ ha _
theorem comp_ext {a a' f : Nat → Int} (hf : f 0 = 0) : ∀ n, (∀ i, i ≤ n → a i = a' i) → comp a f n = comp a' f n := by
  intro n
  induction n using Nat.strongRecOn generalizing a a' with
  | ind n ih =>
    intro h
    rw [comp_eq hf a, comp_eq hf a', h 0 (Nat.zero_le _)]
    dsimp only
    rw [mul_at, mul_at]
    congr 1
    exact cv_ext_curve hf (fun j hj => ih j hj (fun i hi => h (i + 1) (by omega)))
/-! the model's reversion: number by number -/
/-! the program's reversion: the powers of f take t apart -/
def pw (f : Nat → Int) : Nat → Nat → Int
  | 0 => mon 0 1
  | n + 1 => mul (pw f n) f
theorem pw_low {f : Nat → Int} (hf : f 0 = 0) : ∀ n i, i < n → pw f n i = 0 := by
  intro n
  induction n with
  | zero => intro i h; omega
  | succ n ih =>
    intro i hi
    have e : cv i (pw f n) f = cv i f (fun _ => 0) := by
      rw [cv_comm]
      exact cv_ext_curve hf (fun j hj => ih j (by omega))
    rw [pw, mul_at, e, cv_comm, cv_zero_left]
def ipow (x : Int) : Nat → Int
  | 0 => 1
  | n + 1 => ipow x n * x
theorem cv_low {p f : Nat → Int} : ∀ n, (∀ i, i < n → p i = 0) → f 0 = 0 → cv (n + 1) p f = p n * f 1 := by
  intro n
  induction n generalizing p with
  | zero => intro _ hf; rw [cv_succ, cv_zero, hf]; simp
  | succ n ih =>
    intro hp hf
    rw [cv_succ, hp 0 (by omega), ih (p := sh p) (fun i hi => hp (i + 1) (by omega)) hf]
    simp [sh]
theorem pw_lead {f : Nat → Int} (hf : f 0 = 0) : ∀ n, pw f n n = ipow (f 1) n := by
  intro n
  induction n with
  | zero => simp [pw, mon, ipow]
  | succ n ih => rw [pw, mul_at, cv_low n (fun i hi => pw_low hf n i hi) hf, ih]; rfl
theorem ipow_unit {m x u : Int} (h : (x * u) % m = 1 % m) : ∀ n, (ipow x n * ipow u n) % m = 1 % m := by
  intro n
  induction n with
  | zero => rfl
  | succ n ih =>
    rw [ipow, ipow, show ipow x n * x * (ipow u n * u) = (ipow x n * ipow u n) * (x * u) by
      rw [Int.mul_assoc, Int.mul_left_comm x, ← Int.mul_assoc]]
    have := mul_cong ih h
    rw [this]; rfl
theorem comp_mon {f : Nat → Int} (hf : f 0 = 0) : ∀ n, comp (mon n 1) f = pw f n := by
  intro n
  induction n with
  | zero => rw [comp_const hf]; rfl
  | succ n ih =>
    have e : mon (n + 1) 1 = mul (mon n 1) (mon 1 1) := by
      funext i
      rw [mul_comm, mul_at, cv_t]
      unfold mon
      cases i with
      | zero => simp
      | succ i => simp
    funext i
    rw [e, comp_mul hf, ih, t_comp hf]; rfl
/-- the state after n rounds: the reversion so far and what is left over -/
def lagG (m u : Int) (f : Nat → Int) (d : Nat) : Nat → List Int × List Int
  | 0 => (cut m d (mon 0 0), cut m d (mon 1 1))
  | n + 1 =>
    let s := lagG m u f d n
    let g := co s.2 (n + 1) * (ipow u (n + 1) % m) % m
    (s.1.set (n + 1) g, cut m d fun i => co s.2 i + (co (cut m d fun i => pw f (n + 1) i * -g) i))
theorem lagG_len1 (m u : Int) (f : Nat → Int) (d : Nat) : ∀ n, (lagG m u f d n).1.length = d + 1 := by
  intro n
  induction n with
  | zero => exact cut_length _ _ _
  | succ n ih => simp [lagG, ih]
theorem lagG_len2 (m u : Int) (f : Nat → Int) (d : Nat) : ∀ n, (lagG m u f d n).2.length = d + 1 := by
  intro n
  cases n with
  | zero => exact cut_length _ _ _
  | succ n => exact cut_length _ _ _
theorem lagG_red1 {m : Int} (hm : 0 < m) (u : Int) (f : Nat → Int) (d : Nat) : ∀ n, n ≤ d → Red m (lagG m u f d n).1 := by
  intro n
  induction n with
  | zero => intro _; exact cut_red hm _ _
  | succ n ih =>
    intro hn i
    simp only [lagG]
    rw [co_set (by rw [lagG_len1]; omega)]
    split
    · exact ⟨Int.emod_nonneg _ (by omega), Int.emod_lt_of_pos _ hm⟩
    · exact ih (by omega) i
theorem lagG_red2 {m : Int} (hm : 0 < m) (u : Int) (f : Nat → Int) (d : Nat) : ∀ n, Red m (lagG m u f d n).2 := by
  intro n
  cases n with
  | zero => exact cut_red hm _ _
  | succ n => exact cut_red hm _ _
theorem lagG_over {m u : Int} {f : Nat → Int} {d : Nat} : ∀ n i, n ≤ d → n < i → co (lagG m u f d n).1 i = 0 := by
  intro n
  induction n with
  | zero =>
    intro i _ hi
    by_cases h : i ≤ d
    · simp only [lagG]; rw [co_cut h]; simp [mon]
    · exact co_over (by simp only [lagG]; rw [cut_length]; omega)
  | succ n ih =>
    intro i hn hi
    simp only [lagG]
    rw [co_set (by rw [lagG_len1]; omega), if_neg (by omega), ih i (by omega) (by omega)]
theorem lagG_inv {m u : Int} {f : Nat → Int} (hf : f 0 = 0) (hu : (f 1 * u) % m = 1 % m) (d : Nat) : ∀ n, n ≤ d →
    co (lagG m u f d n).1 0 = 0 ∧ Eq m d (fun i => co (lagG m u f d n).2 i + comp (co (lagG m u f d n).1) f i) (mon 1 1) ∧ (∀ i, i ≤ n → co (lagG m u f d n).2 i % m = 0) := by
  intro n
  induction n with
  | zero =>
    intro _
    have z : co (lagG m u f d 0).1 = fun _ => 0 := by
      funext i
      by_cases h : i ≤ d
      · simp only [lagG]; rw [co_cut h]; simp [mon]
      · exact co_over (by simp only [lagG]; rw [cut_length]; omega)
    have c0 : ∀ i, comp (fun _ => 0) f i = 0 := by
      intro i
      have := comp_smul hf 0 i (fun _ => 0)
      simpa using this
    refine ⟨by rw [z], ?_, ?_⟩
    · intro i hi
      dsimp only
      rw [z, c0, Int.add_zero]
      exact co_cut_eq m d (mon 1 1) i hi
    · intro i hi
      obtain rfl : i = 0 := by omega
      simp only [lagG]
      rw [co_cut (by omega)]; simp [mon]
  | succ n ih =>
    intro hn
    obtain ⟨h1, h2, h3⟩ := ih (by omega)
    have l1 := lagG_len1 m u f d n
    have ov : co (lagG m u f d n).1 (n + 1) = 0 := lagG_over n (n + 1) (by omega) (by omega)
    simp only [lagG]
    generalize hR : (lagG m u f d n).2 = R at *
    generalize hG : (lagG m u f d n).1 = G at *
    obtain ⟨g, hg⟩ : ∃ g, co R (n + 1) * (ipow u (n + 1) % m) % m = g := ⟨_, rfl⟩
    rw [hg]
    have hgm : g % m = (co R (n + 1) * ipow u (n + 1)) % m := by
      rw [← hg, Int.emod_emod]; exact mul_cong rfl (Int.emod_emod _ _)
    have hset : co (G.set (n + 1) g) = fun i => co G i + g * mon (n + 1) 1 i := by
      funext i
      rw [co_set (by omega)]
      unfold mon
      by_cases h : i = n + 1
      · subst h; rw [if_pos rfl, if_pos rfl, ov]; omega
      · rw [if_neg h, if_neg h]; omega
    have hcomp : ∀ i, comp (co (G.set (n + 1) g)) f i = comp (co G) f i + g * pw f (n + 1) i := by
      intro i
      rw [hset, comp_add hf, comp_smul hf, comp_mon hf]
    have hrest : ∀ i, i ≤ d → co (cut m d fun i => co R i + co (cut m d fun i => pw f (n + 1) i * -g) i) i % m = (co R i - g * pw f (n + 1) i) % m := by
      intro i hi
      rw [co_cut hi, Int.emod_emod, co_cut hi, Int.sub_eq_add_neg]
      refine add_cong rfl ?_
      rw [Int.emod_emod, Int.mul_comm, Int.neg_mul]
    refine ⟨?_, ?_, ?_⟩
    · rw [hset]
      dsimp only
      rw [h1]
      simp [mon]
    · intro i hi
      have a := h2 i hi
      dsimp only at a ⊢
      rw [hcomp, ← a]
      have b : (co (cut m d fun i => co R i + co (cut m d fun i => pw f (n + 1) i * -g) i) i + (comp (co G) f i + g * pw f (n + 1) i)) % m = ((co R i - g * pw f (n + 1) i) + (comp (co G) f i + g * pw f (n + 1) i)) % m :=
        add_cong (hrest i hi) rfl
      rw [b]
      congr 1
      omega
    · intro i hi
      rw [hrest i (by omega)]
      by_cases hi' : i ≤ n
      · rw [pw_low hf (n + 1) i (by omega), Int.mul_zero, Int.sub_zero]
        exact h3 i hi'
      · obtain rfl : i = n + 1 := by omega
        rw [pw_lead hf]
        have k1 : (g * ipow (f 1) (n + 1)) % m = (co R (n + 1) * 1) % m := by
          have : (g * ipow (f 1) (n + 1)) % m = (co R (n + 1) * ipow u (n + 1) * ipow (f 1) (n + 1)) % m := mul_cong hgm rfl
          rw [this, Int.mul_assoc, Int.mul_comm (ipow u _)]
          exact mul_cong rfl (ipow_unit hu (n + 1))
        have k2 := sub_cong (m := m) (x := co R (n + 1)) (y := co R (n + 1)) rfl k1
        rw [k2, Int.mul_one, Int.sub_self]
        simp
/-- the program's list is the reversion from the left -/
theorem lagG_left {m u : Int} {f : Nat → Int} (hf : f 0 = 0) (hu : (f 1 * u) % m = 1 % m) (d : Nat) : co (lagG m u f d d).1 0 = 0 ∧ Eq m d (comp (co (lagG m u f d d).1) f) (mon 1 1) := by
  obtain ⟨h1, h2, h3⟩ := lagG_inv hf hu d d (Nat.le_refl _)
  refine ⟨h1, fun i hi => ?_⟩
  rw [← h2 i hi]
  dsimp only
  have := add_cong (m := m) (x := co (lagG m u f d d).2 i) (y := 0) (z := comp (co (lagG m u f d d).1) f i) (by rw [h3 i hi]; simp) rfl
  rw [this, Int.zero_add]
end Ser
end Go.Proofs.YtfhdgcndiljjcabGreat

/- Contracts of monomials, multiples and products of series, of the program. -/
namespace Go.Proofs.YtfhdgcndiljjcabGreat
open Go.RowKit Go.WideShapes Go.ChangeShapes Go.ChangeAt
/-- a block of one number -/
def Cel (w : World) (g : Nat) (x : Int) : Prop := w.cell? ⟨g, 0, none⟩ = some (.int .i64 x) ∧ g < w.heap.size
theorem Cel.new (w : World) (x : Int) : Cel (w.alloc (.cells #[.int .i64 x] 2)) w.heap.size x := by
  refine ⟨?_, by simp⟩
  rw [World.cell?_alloc_at _ _ _ _ rfl]; rfl
theorem Cel.keep {w w' : World} {g : Nat} {x : Int} (h : Cel w g x) (hb : Below w.heap.size w w') : Cel w' g x :=
  ⟨(hb.cell (p := ⟨g, 0, none⟩) h.2).trans h.1, Nat.lt_of_lt_of_le h.2 hb.size⟩
theorem monoC_any (n k : Nat) (g g' : Nat) (c : Int) (W : World) (h1 : Cel W g k) (h2 : Cel W g' c) :
    Calls Tryz.prog 110 #[.int .i64 n, .pointer (some ⟨g, 0, none⟩), .pointer (some ⟨g', 0, none⟩)] W fun e w' => e = .returned (.int .i64 (Ser.mon k c n)) ∧ Below W.heap.size W w' := by
  obtain ⟨x1, _⟩ := h1
  obtain ⟨x2, _⟩ := h2
  by_cases h : n = k
  · subst h
    have HE := Lib.hid (show Ser.mon n c n = c by unfold Ser.mon; rw [if_pos rfl])
    go_enter Tryz.func110, Tryz.ntmps110
    go_wp2
    go_ret
    exact ⟨ret_int HE.out.symm, Below.refl _ _⟩
  · have HE := Lib.hid (show Ser.mon k c n = 0 by unfold Ser.mon; rw [if_neg h])
    have hn : ¬ (n : Int) = (k : Int) := by omega
    obtain ⟨n1, n2⟩ : ((n : Int) == (k : Int)) = false ∧ ((n : Int) != (k : Int)) = true := ⟨by simpa using hn, by simpa using hn⟩
    clear h
    go_enter Tryz.func110, Tryz.ntmps110
    go_wp2
    go_ret
    exact ⟨ret_int HE.out.symm, Below.refl _ _⟩
theorem mon_bd (k : Nat) (c lo hi : Int) (h1 : lo ≤ 0) (h2 : 0 ≤ hi) (h3 : lo ≤ c) (h4 : c ≤ hi) (n : Nat) : lo ≤ Ser.mon k c n ∧ Ser.mon k c n ≤ hi := by
  unfold Ser.mon; split <;> omega
set_option maxHeartbeats 2000000 in
theorem monomial_any (m : Int) (d k : Nat) (c : Int) (w : World) (h1 : 1 ≤ m) (h2 : m ≤ 10000) (hd : d ≤ 1000) (h3 : -1000000 ≤ c) (h4 : c ≤ 1000000) :
    Calls Tryz.prog 72 #[.int .i64 m, .int .i64 d, .int .i64 k, .int .i64 c] w fun e w' => ∃ v, e = .returned (.agg #[.int .i64 m, v]) ∧ OwnI w' w.heap.size v (Ser.cut m d (Ser.mon k c)) ∧ Below w.heap.size w w' := by
  obtain ⟨W, hW⟩ : ∃ W, ((w.alloc (.cells #[.int .i64 k] 2)).alloc (.cells #[.int .i64 c] 2)).alloc (.cells #[.int .i64 0, .slice none 0 0] 39) = W := ⟨_, rfl⟩
  have hwb : Below w.heap.size w W := by rw [← hW]; exact below_alloc _ (below_alloc _ (below_one _ _))
  have b1 : Cel W w.heap.size k := by rw [← hW]; exact ((Cel.new w k).keep (below_one _ _)).keep (below_one _ _)
  have b2 : Cel W (w.heap.size + 1) c := by
    rw [← hW]
    have := (Cel.new (w.alloc (.cells #[.int .i64 k] 2)) c).keep (below_one _ (.cells #[.int .i64 0, .slice none 0 0] 39))
    simpa using this
  have v3 : Var2 W (w.heap.size + 1 + 1) (.int .i64 0) (.slice none 0 0) := by
    rw [← hW]
    have := Var2.new ((w.alloc (.cells #[.int .i64 k] 2)).alloc (.cells #[.int .i64 c] 2)) (.int .i64 0) (.slice none 0 0)
    simpa using this
  have V3 := Lib.hid v3
  have HB := Lib.hid hwb
  have HW := Lib.hid hW
  have HS := Lib.hid (seriesOf_any m d 110 #[.pointer (some ⟨w.heap.size, 0, none⟩), .pointer (some ⟨w.heap.size + 1, 0, none⟩)] (Ser.mon k c) W h1 h2 hd
    (fun n _ => mon_bd k c _ _ (by omega) (by omega) (by omega) (by omega) n)
    (enters_fn Tryz.func110 (of_decide_eq_true (by kernel_rfl)) rfl)
    (fun n W1 hn hb => monoC_any n k _ _ c W1 (b1.keep hb) (b2.keep hb)))
  obtain ⟨L, hL⟩ : ∃ L, Ser.cut m d (Ser.mon k c) = L := ⟨_, rfl⟩
  rw [hL] at HS ⊢
  clear b1 b2 v3 hwb hW hL
  go_enter Tryz.func72, Tryz.ntmps72
  go_wp2_with fail
  rw [HW.out]
  refine HS.out.mono ?_
  rintro e w2 ⟨v, rfl, ho, hb⟩
  obtain ⟨A2, c2, rfl, _⟩ := ho.form
  have hv := V3.out.keep hb
  have q0 := hv.c0
  have q1 := hv.c1
  have q2 := hv.fz 0
  have q3 := hv.fz 1
  obtain ⟨f0, f1, f2, f3⟩ := fin_var (w := w) hv ho (by have := V3.out.lt; omega) (by omega) (below_step HB.out hb) (.int .i64 m) (.slice A2 L.length c2)
  have F2 := Lib.hid f2
  have F3 := Lib.hid f3
  clear f2 f3 hv ho hb
  go_wp2
  exact bodyPost_ret (v := .agg #[.int .i64 m, .slice A2 L.length c2]) (by simp [results, Tryz.results72, go_sem, f0, f1]) rfl ⟨_, rfl, F2.out, F3.out⟩
theorem mul_bd {x y : Int} (h1 : 0 ≤ x) (h2 : x ≤ 10000) (h3 : -10000 ≤ y) (h4 : y ≤ 10000) : -100000000 ≤ x * y ∧ x * y ≤ 100000000 := by
  constructor
  · have := Int.mul_le_mul_of_nonneg_left (c := x) h3 h1
    have e : x * -10000 = -(x * 10000) := Int.mul_neg _ _
    omega
  · have := Int.mul_le_mul_of_nonneg_left (c := x) h4 h1
    omega
def scaL (m : Int) (d : Nat) (l : List Int) (k : Int) : List Int := Ser.cut m d fun n => Ser.co l n * k
/-! products -/
end Go.Proofs.YtfhdgcndiljjcabGreat

/- Contracts of sums and multiples of grids. -/
namespace Go.Proofs.YtfhdgcndiljjcabGreat
open Go.RowKit Go.WideShapes Go.ChangeShapes Go.ChangeAt
theorem RP.some {w : World} {A : Option Addr} {t : List (List Int)} (h : RP w A t) (ht : 0 < t.length) : ∃ b off, A = some ⟨b, off, none⟩ := by
  obtain ⟨b, off, _, _, e, _⟩ := h.at 0 ht
  exact ⟨b, off, e⟩
/-- one number of a grid: what the walk reads -/
theorem GBox.num {W : World} {g : Nat} {m : Int} {d b off c : Nat} {t : List (List Int)} (hb : GBox W g m d (some ⟨b, off, none⟩) t.length c) (hs : Pl.Ok m d t) (hr : RP W (some ⟨b, off, none⟩) t) (i j : Nat) (hij : i + j ≤ d) :
    ∃ b' off' c' L N, L = d + 1 ∧ N = d - i + 1 ∧ W.cell? ⟨g, 2, none⟩ = some (.slice (some ⟨b, off, none⟩) L c) ∧ W.cell? ⟨b, off + i, none⟩ = some (.slice (some ⟨b', off', none⟩) N c') ∧ W.cell? ⟨b', off' + j, none⟩ = some (.int .i64 (Pl.pc t i j)) := by
  obtain ⟨_, _, x2, _⟩ := hb
  obtain ⟨b0, off0, b', off', c', e, -, k1, -, k2⟩ := hr.num i j (by rw [hs.len]; omega) (by rw [hs.row i (by omega)]; omega)
  injection e with e
  injection e with e1 e2
  subst e1 e2
  exact ⟨b', off', c', t.length, _, hs.len, hs.row i (by omega), x2, k1, k2⟩
set_option maxHeartbeats 1000000 in
theorem gplusC_any (i j g g' : Nat) (m : Int) (d : Nat) (A : Option Addr) (c : Nat) (t : List (List Int)) (A' : Option Addr) (c' : Nat) (t' : List (List Int)) (W : World) (hb : GBox W g m d A t.length c) (hb' : GBox W g' m d A' t'.length c') (hs : Pl.Ok m d t) (hs' : Pl.Ok m d t') (hr : RP W A t) (hr' : RP W A' t') (hij : i + j ≤ d) :
    Calls Tryz.prog 156 #[.int .i64 i, .int .i64 j, .pointer (some ⟨g, 0, none⟩), .pointer (some ⟨g', 0, none⟩)] W fun e w' => e = .returned (.int .i64 (Pl.pc t i j + Pl.pc t' i j)) ∧ Below W.heap.size W w' := by
  obtain ⟨b, off, rfl⟩ := hr.some (by rw [hs.len]; omega)
  obtain ⟨b', off', rfl⟩ := hr'.some (by rw [hs'.len]; omega)
  obtain ⟨p1, p2, p3, L, N, hL, hN, x1, x2, x3⟩ := hb.num hs hr i j hij
  obtain ⟨q1, q2, q3, L', N', hL', hN', y1, y2, y3⟩ := hb'.num hs' hr' i j hij
  have r1 := hs.pc i j
  have r2 := hs'.pc i j
  have hm := hs.m2
  obtain ⟨X, hX⟩ : ∃ X, Pl.pc t i j = X := ⟨_, rfl⟩
  obtain ⟨Y, hY⟩ : ∃ Y, Pl.pc t' i j = Y := ⟨_, rfl⟩
  rw [hX] at x3 r1 ⊢
  rw [hY] at y3 r2 ⊢
  obtain ⟨r1, r3⟩ := r1
  obtain ⟨r2, r4⟩ := r2
  have j1 : (0 : Int) ≤ (i : Int) := by omega
  have j2 : (i : Int) < (L : Int) := by omega
  have j3 : (0 : Int) ≤ (j : Int) := by omega
  have j4 : (j : Int) < (N : Int) := by omega
  have j5 : (i : Int) < (L' : Int) := by omega
  have j6 : (j : Int) < (N' : Int) := by omega
  clear hb hb' hr hr' hs hs' hX hY hL hN hL' hN'
  go_enter Tryz.func156, Tryz.ntmps156
  go_wp2
  go_quiet (fail)
  go_wp2
  go_ret
  exact ⟨rfl, below_drewN (Below.refl _ _) _⟩
set_option maxHeartbeats 2000000 in
set_option maxRecDepth 100000 in
theorem gplus_any (m : Int) (d : Nat) (A : Option Addr) (c : Nat) (t : List (List Int)) (A' : Option Addr) (c' : Nat) (t' : List (List Int)) (w : World) (hs : Pl.Ok m d t) (hs' : Pl.Ok m d t') (hr : RP w A t) (hr' : RP w A' t') :
    Calls Tryz.prog 129 #[.agg #[.int .i64 m, .int .i64 d, .slice A t.length c], .agg #[.int .i64 m, .int .i64 d, .slice A' t'.length c']] w fun e w' => ∃ v, e = .returned (.agg #[.int .i64 m, .int .i64 d, v]) ∧ OwnR w' w.heap.size w'.heap.size v (Pl.tab m d (fun i j => Pl.pc t i j + Pl.pc t' i j)) ∧ Below w.heap.size w w' := by
  obtain ⟨W, hW, b1, b2, v3, hwb⟩ := gpro2 w m d A t.length c m d A' t'.length c'
  have HS := Lib.hid (filled_any m d 156 #[.pointer (some ⟨w.heap.size, 0, none⟩), .pointer (some ⟨w.heap.size + 1, 0, none⟩)] (fun i j => Pl.pc t i j + Pl.pc t' i j) W (by have := hs.m1; omega) hs.m2 (by have := hs.d2; omega)
    (fun i j hij => by have := hs.pc i j; have := hs'.pc i j; have := hs.m2; omega) (enters_fn Tryz.func156 (of_decide_eq_true (by kernel_rfl)) rfl)
    (fun i j W1 hij hb => gplusC_any i j _ _ m d A c t A' c' t' W1 (b1.keep hb) (b2.keep hb) hs hs' ((hr.below hwb).below hb) ((hr'.below hwb).below hb) hij))
  have HB := Lib.hid hwb
  have HW := Lib.hid hW
  have V3 := Lib.hid v3
  obtain ⟨T, hT⟩ : ∃ T, Pl.tab m d (fun i j => Pl.pc t i j + Pl.pc t' i j) = T := ⟨_, rfl⟩
  rw [hT] at HS ⊢
  clear b1 b2 v3 hwb hW hr hr' hs hs' hT
  go_enter Tryz.func129, Tryz.ntmps129
  go_wp2_with fail
  rw [HW.out]
  refine HS.out.mono ?_
  rintro e w2 ⟨v, rfl, ho, hb⟩
  obtain ⟨A2, c2, rfl, -⟩ := ho.len
  have hv := V3.out.keep hb
  obtain ⟨q0, q1, q2, q3, q4, q5⟩ := hv.tells3
  obtain ⟨f0, f1, f2, f3, f4⟩ := fin_grid (w := w) hv ho (by have := V3.out.lt; omega) (by omega) (Nat.le_refl _) (below_step HB.out hb) (.int .i64 m) (.int .i64 d) (.slice A2 T.length c2)
  have F3 := Lib.hid (f3.low (show w.heap.size ≤ W.heap.size from HB.out.size))
  have F4 := Lib.hid f4
  unfold set3 at f0 f1 f2
  clear f3 f4 ho hv hb
  go_wp2
  exact bodyPost_ret (v := .agg #[.int .i64 m, .int .i64 d, .slice A2 T.length c2]) (by simp [results, Tryz.results129, go_sem, f0, f1, f2]) rfl ⟨_, rfl, F3.out, F4.out⟩
theorem pc_mul_bd {m : Int} {d : Nat} {t : List (List Int)} (hs : Pl.Ok m d t) (i j : Nat) {k : Int} (h1 : -10000 ≤ k) (h2 : k ≤ 10000) : -100000000 ≤ Pl.pc t i j * k ∧ Pl.pc t i j * k ≤ 100000000 := by
  have := hs.pc i j
  have := hs.m2
  exact mul_bd (by omega) (by omega) h1 h2
set_option maxHeartbeats 1000000 in
theorem gscaledC_any (i j g g' : Nat) (m : Int) (d : Nat) (A : Option Addr) (c : Nat) (t : List (List Int)) (k : Int) (W : World) (hb : GBox W g m d A t.length c) (hb' : Cel W g' k) (hs : Pl.Ok m d t) (hr : RP W A t) (hij : i + j ≤ d) (h5 : -10000 ≤ k) (h6 : k ≤ 10000) :
    Calls Tryz.prog 157 #[.int .i64 i, .int .i64 j, .pointer (some ⟨g, 0, none⟩), .pointer (some ⟨g', 0, none⟩)] W fun e w' => e = .returned (.int .i64 (Pl.pc t i j * k)) ∧ Below W.heap.size W w' := by
  obtain ⟨b, off, rfl⟩ := hr.some (by rw [hs.len]; omega)
  obtain ⟨p1, p2, p3, L, N, hL, hN, x1, x2, x3⟩ := hb.num hs hr i j hij
  obtain ⟨y1, _⟩ := hb'
  have hp := pc_mul_bd hs i j h5 h6
  obtain ⟨X, hX⟩ : ∃ X, Pl.pc t i j = X := ⟨_, rfl⟩
  rw [hX] at x3 hp ⊢
  obtain ⟨r1, r3⟩ := hp
  have j1 : (0 : Int) ≤ (i : Int) := by omega
  have j2 : (i : Int) < (L : Int) := by omega
  have j3 : (0 : Int) ≤ (j : Int) := by omega
  have j4 : (j : Int) < (N : Int) := by omega
  clear hb hr hs hX hL hN
  go_enter Tryz.func157, Tryz.ntmps157
  go_wp2
  go_quiet (fail)
  go_wp2
  go_ret
  exact ⟨rfl, below_drewN (Below.refl _ _) _⟩
set_option maxHeartbeats 2000000 in
set_option maxRecDepth 100000 in
theorem gscaled_any (m : Int) (d : Nat) (A : Option Addr) (c : Nat) (t : List (List Int)) (k : Int) (w : World) (hs : Pl.Ok m d t) (hr : RP w A t) (h5 : -10000 ≤ k) (h6 : k ≤ 10000) :
    Calls Tryz.prog 130 #[.agg #[.int .i64 m, .int .i64 d, .slice A t.length c], .int .i64 k] w fun e w' => ∃ v, e = .returned (.agg #[.int .i64 m, .int .i64 d, v]) ∧ OwnR w' w.heap.size w'.heap.size v (Pl.tab m d fun i j => Pl.pc t i j * k) ∧ Below w.heap.size w w' := by
  obtain ⟨W, hW⟩ : ∃ W, ((w.alloc (.cells #[.int .i64 m, .int .i64 d, .slice A t.length c] 55)).alloc (.cells #[.int .i64 k] 2)).alloc (.cells #[.int .i64 0, .int .i64 0, .slice none 0 0] 55) = W := ⟨_, rfl⟩
  have hwb : Below w.heap.size w W := by rw [← hW]; exact below_alloc _ (below_alloc _ (below_one _ _))
  have b1 : GBox W w.heap.size m d A t.length c := by rw [← hW]; exact ((GBox.new _ _ _ _ _ _ _).keep (below_one _ _)).keep (below_one _ _)
  have b2 : Cel W (w.heap.size + 1) k := by
    rw [← hW]
    have := (Cel.new (w.alloc (.cells #[.int .i64 m, .int .i64 d, .slice A t.length c] 55)) k).keep (below_one _ (.cells #[.int .i64 0, .int .i64 0, .slice none 0 0] 55))
    simpa using this
  have v3 : VarC 55 W (w.heap.size + 1 + 1) #[.int .i64 0, .int .i64 0, .slice none 0 0] := by
    rw [← hW]
    have := VarC.new 55 ((w.alloc (.cells #[.int .i64 m, .int .i64 d, .slice A t.length c] 55)).alloc (.cells #[.int .i64 k] 2)) #[.int .i64 0, .int .i64 0, .slice none 0 0]
    simpa using this
  have HS := Lib.hid (filled_any m d 157 #[.pointer (some ⟨w.heap.size, 0, none⟩), .pointer (some ⟨w.heap.size + 1, 0, none⟩)] (fun i j => Pl.pc t i j * k) W (by have := hs.m1; omega) hs.m2 (by have := hs.d2; omega)
    (fun i j hij => by have := pc_mul_bd hs i j h5 h6; omega) (enters_fn Tryz.func157 (of_decide_eq_true (by kernel_rfl)) rfl)
    (fun i j W1 hij hb => gscaledC_any i j _ _ m d A c t k W1 (b1.keep hb) (b2.keep hb) hs ((hr.below hwb).below hb) hij h5 h6))
  have HB := Lib.hid hwb
  have HW := Lib.hid hW
  have V3 := Lib.hid v3
  obtain ⟨T, hT⟩ : ∃ T, Pl.tab m d (fun i j => Pl.pc t i j * k) = T := ⟨_, rfl⟩
  rw [hT] at HS ⊢
  clear b1 b2 v3 hwb hW hr hs hT
  go_enter Tryz.func130, Tryz.ntmps130
  go_wp2_with fail
  rw [HW.out]
  refine HS.out.mono ?_
  rintro e w2 ⟨v, rfl, ho, hb⟩
  obtain ⟨A2, c2, rfl, -⟩ := ho.len
  have hv := V3.out.keep hb
  obtain ⟨q0, q1, q2, q3, q4, q5⟩ := hv.tells3
  obtain ⟨f0, f1, f2, f3, f4⟩ := fin_grid (w := w) hv ho (by have := V3.out.lt; omega) (by omega) (Nat.le_refl _) (below_step HB.out hb) (.int .i64 m) (.int .i64 d) (.slice A2 T.length c2)
  have F3 := Lib.hid (f3.low (show w.heap.size ≤ W.heap.size from HB.out.size))
  have F4 := Lib.hid f4
  unfold set3 at f0 f1 f2
  clear f3 f4 ho hv hb
  go_wp2
  exact bodyPost_ret (v := .agg #[.int .i64 m, .int .i64 d, .slice A2 T.length c2]) (by simp [results, Tryz.results130, go_sem, f0, f1, f2]) rfl ⟨_, rfl, F3.out, F4.out⟩
end Go.Proofs.YtfhdgcndiljjcabGreat

/- Contracts of the grids of series. -/
namespace Go.Proofs.YtfhdgcndiljjcabGreat
open Go.RowKit Go.WideShapes Go.ChangeShapes Go.ChangeAt
set_option maxHeartbeats 2000000 in
set_option maxRecDepth 100000 in
theorem frameOfSeries_any (m : Int) (A : Option Addr) (n c d : Nat) (w : World) (hn : n = d + 1) (hd : d ≤ 1000) :
    Calls Tryz.prog 143 #[.agg #[.int .i64 m, .slice A n c]] w fun e w' => e = .returned (.agg #[.int .i64 m, .int .i64 d]) ∧ Below w.heap.size w w' := by
  obtain ⟨W, hW⟩ : ∃ W, (w.alloc (.cells #[.int .i64 m, .slice A n c] 39)).alloc (.cells #[.int .i64 0, .int .i64 0] 53) = W := ⟨_, rfl⟩
  have hwb : Below w.heap.size w W := by rw [← hW]; exact below_alloc _ (below_one _ _)
  have b1 : Box W w.heap.size m A n c := by rw [← hW]; exact (Box.newT _ _ _ _ _ _).keep (below_one _ _)
  have v2 : VarC 53 W (w.heap.size + 1) #[.int .i64 0, .int .i64 0] := by
    rw [← hW]
    have := VarC.new 53 (w.alloc (.cells #[.int .i64 m, .slice A n c] 39)) #[.int .i64 0, .int .i64 0]
    simpa using this
  have HG := Lib.hid (fun W0 => degree_nat m A n c d W0 hn hd)
  have HB := Lib.hid hwb
  have HW := Lib.hid hW
  have V2 := Lib.hid v2
  obtain ⟨x1, x2, x3⟩ := b1
  clear hwb hW v2 hn
  go_enter Tryz.func143, Tryz.ntmps143
  go_wp2
  rw [HW.out]
  go_region_held3 (fun w' => w'.cell? ⟨w.heap.size, 0, none⟩ = some (.int .i64 m) ∧ w'.cell? ⟨w.heap.size, 1, none⟩ = some (.slice A n c) ∧ w.heap.size < w'.heap.size) (first | exact ⟨x1, x2, x3⟩ | exact box_store (by omega) (by assumption) | exact box_call (by assumption) (by assumption)) (first
    | (go_at_call 76; refine (HG.out _).mono ?_; rintro e1 w1 ⟨rfl, hb1⟩; have hv := V2.out.keep (below_step (below_drew0 _) hb1); obtain ⟨q0, q1, q2, q3⟩ := hv.tells2))
  all_goals
    have h2 := (hv.set 0 (.int .i64 m)).set 1 (.int .i64 d)
    obtain ⟨f0, f1, _⟩ := h2.tells2
    have HF := Lib.hid (((below_step HB.out (below_step (below_drew0 _) hb1)).setCell (p := ⟨w.heap.size + 1, 0, none⟩) (by show w.heap.size ≤ w.heap.size + 1; omega) (.int .i64 m)).setCell (p := ⟨w.heap.size + 1, 1, none⟩) (by show w.heap.size ≤ w.heap.size + 1; omega) (.int .i64 d))
    clear h2 hb1 hv
    go_wp2
    exact bodyPost_ret (v := .agg #[.int .i64 m, .int .i64 d]) (by simp [results, Tryz.results143, go_sem, f0, f1]) rfl ⟨rfl, HF.out⟩
theorem gosC_any (i j g : Nat) (m : Int) (d : Nat) (A : Option Addr) (c : Nat) (l : List Int) (W : World) (hb : Box W g m A l.length c) (hs : SerOk m d l) (hr : RI W A l) (hij : i + j ≤ d) :
    Calls Tryz.prog 144 #[.int .i64 i, .int .i64 j, .pointer (some ⟨g, 0, none⟩)] W fun e w' => e = .returned (.int .i64 (if i = 0 then Ser.co l j else 0)) ∧ Below W.heap.size W w' := by
  obtain ⟨_, x2, _⟩ := hb
  by_cases hi : i = 0
  · rw [if_pos hi]
    subst hi
    obtain ⟨b, off, rfl, hlt, hc⟩ := hr.at j (by rw [hs.len]; omega)
    obtain ⟨X, hX⟩ : ∃ X, Ser.co l j = X := ⟨_, rfl⟩
    rw [hX] at hc ⊢
    have j0 : (0 : Int) ≤ (j : Int) := by omega
    have j1 : (j : Int) < (l.length : Int) := by have := hs.len; omega
    clear hX hr hs
    go_enter Tryz.func144, Tryz.ntmps144
    go_wp2
    go_ret
    exact ⟨rfl, Below.refl _ _⟩
  · rw [if_neg hi]
    have hi2 : ¬ (i : Int) = 0 := by omega
    obtain ⟨n1, n2⟩ := ne_facts hi2
    clear hi hr hs
    go_enter Tryz.func144, Tryz.ntmps144
    go_wp2
    go_ret
    exact ⟨rfl, Below.refl _ _⟩
/-- the table of a(x) for k = 0, of a(y) else -/
def gosF (l : List Int) (k : Int) : Nat → Nat → Int := fun i j => if k = 0 then (if j = 0 then Ser.co l i else 0) else (if i = 0 then Ser.co l j else 0)
theorem gosF_turned (m : Int) (d : Nat) (l : List Int) : (Pl.tab m d fun i j => Pl.pc (Pl.tab m d fun i j => if i = 0 then Ser.co l j else 0) j i) = Pl.tab m d (gosF l 0) :=
  Pl.tab_congr (fun i j h => by
    rw [Pl.pc_tab (by omega), Int.emod_emod]
    unfold gosF
    rw [if_pos rfl])
theorem gosF_plain (m : Int) (d : Nat) (l : List Int) (k : Int) (hk : ¬ k = 0) : (Pl.tab m d fun i j => if i = 0 then Ser.co l j else 0) = Pl.tab m d (gosF l k) :=
  Pl.tab_congr (fun i j h => by unfold gosF; rw [if_neg hk])
set_option maxHeartbeats 2000000 in
set_option maxRecDepth 100000 in
theorem gridOfSeries_any (m : Int) (d : Nat) (A : Option Addr) (c : Nat) (l : List Int) (k : Int) (w : World) (hs : SerOk m d l) (hr : RI w A l) :
    Calls Tryz.prog 111 #[.agg #[.int .i64 m, .slice A l.length c], .int .i64 k] w fun e w' => ∃ v, e = .returned (.agg #[.int .i64 m, .int .i64 d, v]) ∧ OwnR w' w.heap.size w'.heap.size v (Pl.tab m d (gosF l k)) ∧ Below w.heap.size w w' := by
  obtain ⟨W, hW⟩ : ∃ W, (w.alloc (.cells #[.int .i64 m, .slice A l.length c] 39)).alloc (.cells #[.int .i64 0, .int .i64 0, .slice none 0 0] 55) = W := ⟨_, rfl⟩
  have hwb : Below w.heap.size w W := by rw [← hW]; exact below_alloc _ (below_one _ _)
  have b1 : Box W w.heap.size m A l.length c := by rw [← hW]; exact (Box.newT _ _ _ _ _ _).keep (below_one _ _)
  have v2 : VarC 55 W (w.heap.size + 1) #[.int .i64 0, .int .i64 0, .slice none 0 0] := by
    rw [← hW]
    have := VarC.new 55 (w.alloc (.cells #[.int .i64 m, .slice A l.length c] 39)) #[.int .i64 0, .int .i64 0, .slice none 0 0]
    simpa using this
  have HG := Lib.hid (fun W0 => frameOfSeries_any m A l.length c d W0 hs.len (by have := hs.d2; omega))
  have hm1 := hs.m1
  have HS := Lib.hid (fun W0 (h : Below W.heap.size W W0) => filled_any m d 144 #[.pointer (some ⟨w.heap.size, 0, none⟩)] (fun i j => if i = 0 then Ser.co l j else 0) W0 (by omega) hs.m2 (by have := hs.d2; omega)
    (fun i j hij => by have := hs.red j; have := hs.m2; split <;> omega) (enters_fn Tryz.func144 (of_decide_eq_true (by kernel_rfl)) rfl)
    (fun i j W1 hij hb => gosC_any i j _ m d A c l W1 ((b1.keep h).keep hb) hs (((hr.below hwb).below h).below hb) hij))
  have HT := Lib.hid (fun (W0 : World) (A0 : Option Addr) (c0 : Nat) (h : RP W0 A0 (Pl.tab m d fun i j => if i = 0 then Ser.co l j else 0)) => turned_any m d A0 c0 _ W0 (Pl.Ok.of_tab hs.m1 hs.m2 hs.d1 hs.d2 _) h)
  have HB := Lib.hid hwb
  have HW := Lib.hid hW
  have V3 := Lib.hid v2
  obtain ⟨x1, x2, x3⟩ := b1
  by_cases hk : k = 0
  · subst hk
    rw [gosF_turned] at HT
    obtain ⟨T0, hT0⟩ : ∃ T0, (Pl.tab m d fun i j => if i = 0 then Ser.co l j else 0) = T0 := ⟨_, rfl⟩
    obtain ⟨T, hT⟩ : ∃ T, Pl.tab m d (gosF l 0) = T := ⟨_, rfl⟩
    rw [hT0] at HS HT
    rw [hT] at HT ⊢
    clear hwb hW v2 hr hs hT hT0
    go_enter Tryz.func111, Tryz.ntmps111
    go_wp2_with fail
    rw [HW.out]
    refine (HG.out _).mono ?_
    rintro e w1 ⟨rfl, hb1⟩
    go_wp2_with fail
    refine (HS.out _ hb1).mono ?_
    rintro e w2 ⟨v, rfl, ho2, hb2⟩
    obtain ⟨A1, c1, rfl, hp⟩ := ho2.len
    have HP := Lib.hid (hp.below (below_one w2 (.cells #[.int .i64 m, .int .i64 d, .slice A1 T0.length c1] 55)))
    have hb12 := below_alloc (.cells #[.int .i64 m, .int .i64 d, .slice A1 T0.length c1] 55) (below_step hb1 hb2)
    clear ho2 hp
    go_wp2_with fail
    refine (HT.out _ _ _ HP.out).mono ?_
    rintro e w3 ⟨v, rfl, ho, hb3⟩
    obtain ⟨A2, c2, rfl, -⟩ := ho.len
    have hb := below_step hb12 hb3
    have hv := V3.out.keep hb
    obtain ⟨q0, q1, q2, q3, q4, q5⟩ := hv.tells3
    obtain ⟨f0, f1, f2, f3, f4⟩ := fin_grid (w := w) hv ho (by have := V3.out.lt; have := hb12.size; omega) (by omega) (Nat.le_refl _) (below_step HB.out hb) (.int .i64 m) (.int .i64 d) (.slice A2 T.length c2)
    have F3 := Lib.hid (f3.low (lo' := w.heap.size) (by have := V3.out.lt; have := hb12.size; omega))
    have F4 := Lib.hid f4
    unfold set3 at f0 f1 f2
    clear f3 f4 ho hv hb hb12
    go_wp2
    exact bodyPost_ret (v := .agg #[.int .i64 m, .int .i64 d, .slice A2 T.length c2]) (by simp [results, Tryz.results111, go_sem, f0, f1, f2]) rfl ⟨_, rfl, F3.out, F4.out⟩
  · obtain ⟨n1, n2⟩ := ne_facts hk
    rw [← gosF_plain m d l k hk]
    obtain ⟨T, hT⟩ : ∃ T0, (Pl.tab m d fun i j => if i = 0 then Ser.co l j else 0) = T0 := ⟨_, rfl⟩
    rw [hT] at HS ⊢
    clear hwb hW v2 hr hs hT HT
    go_enter Tryz.func111, Tryz.ntmps111
    go_wp2_with fail
    rw [HW.out]
    refine (HG.out _).mono ?_
    rintro e w1 ⟨rfl, hb1⟩
    go_wp2_with fail
    refine (HS.out _ hb1).mono ?_
    rintro e w2 ⟨v, rfl, ho2, hb2⟩
    obtain ⟨A2, c2, rfl, hp⟩ := ho2.len
    have hb := below_alloc (.cells #[.int .i64 m, .int .i64 d, .slice A2 T.length c2] 55) (below_step hb1 hb2)
    have ho := ho2.keep (below_one w2 (.cells #[.int .i64 m, .int .i64 d, .slice A2 T.length c2] 55))
    have hv := V3.out.keep hb
    obtain ⟨q0, q1, q2, q3, q4, q5⟩ := hv.tells3
    obtain ⟨f0, f1, f2, f3, f4⟩ := fin_grid (w := w) hv ho (by have := V3.out.lt; have := hb1.size; omega) (by omega) (below_one w2 _).size (below_step HB.out hb) (.int .i64 m) (.int .i64 d) (.slice A2 T.length c2)
    have F3 := Lib.hid (f3.low (lo' := w.heap.size) (by have := V3.out.lt; have := hb1.size; omega))
    have F4 := Lib.hid f4
    unfold set3 at f0 f1 f2
    clear f3 f4 ho hv hb ho2 hp
    go_wp2
    exact bodyPost_ret (v := .agg #[.int .i64 m, .int .i64 d, .slice A2 T.length c2]) (by simp [results, Tryz.results111, go_sem, f0, f1, f2]) rfl ⟨_, rfl, F3.out, F4.out⟩
end Go.Proofs.YtfhdgcndiljjcabGreat

