/- Contracts of the looks at planes, of the model; of the codes of planes. -/
import Derived.Test.YtjgpdgoclianlaaPis
import Derived.StillTailTactics
namespace Go.Proofs.Ytjgpdgoclianlaa
open Go.RowKit Go.WideShapes Go.ChangeShapes Go.ChangeAt

theorem l03Make_any (m : Int) (A : Option Addr) (n c : Nat) (w : World) :
    Calls Try.prog 61 #[.int .i64 m, .slice A n c] w fun e w' => e = .returned (.agg #[.int .i64 m, .slice A n c]) ∧ Below w.heap.size w w' := by
  go_enter Try.func61, Try.ntmps61
  go_wp2
  exact bodyPost_ret (v := .agg #[.int .i64 m, .slice A n c]) (by simp [results, Try.results61, go_sem]) rfl ⟨rfl, below_one _ _⟩
theorem l03Degree_any (m : Int) (A : Option Addr) (n c d : Nat) (w : World) (hn : n = d + 1) (hd : d ≤ 1000000) :
    Calls Try.prog 77 #[.agg #[.int .i64 m, .slice A n c]] w fun e w' => e = .returned (.int .i64 (d : Int)) ∧ Below w.heap.size w w' := by
  obtain ⟨h1, h2⟩ : (n : Int) - 1 = (d : Int) ∧ (n : Int) ≤ 9223372036854775807 := ⟨by omega, by omega⟩
  go_enter Try.func77, Try.ntmps77
  go_wp2
  go_ret
  exact ⟨rfl, below_one _ _⟩

set_option maxHeartbeats 2000000 in
set_option maxRecDepth 100000 in
theorem l03Is_any (m : Int) (A : Option Addr) (c : Nat) (t : List (List Int)) (w : World) (hl : t.length ≤ 9223372036854775807) (hrl : ∀ k, (Pl.rw' t k).length ≤ 9223372036854775807) (hr : RP w A t) :
    Calls Try.prog 53 #[.agg #[.int .i64 m, .slice A t.length c]] w fun e w' => e = .returned (.bool (isP m t)) ∧ Below w.heap.size w w' := by
  obtain ⟨W, hW, hx, hwb⟩ := start1 27 w m A t.length c
  have HR := Lib.hid (hr.below hwb)
  have HRL := Lib.hid hrl
  have HX := Lib.hid hx
  have HB := Lib.hid hwb
  have HW := Lib.hid hW
  clear hr hrl hwb hx hW
  obtain ⟨R, hR⟩ : ∃ R, isP m t = R := ⟨_, rfl⟩
  rw [hR]
  have HRR := Lib.hid hR
  clear hR
  by_cases hm : isM m = true
  · obtain ⟨m1, m2⟩ := (isM_iff m).1 hm
    have HM := Lib.hid hm
    have hlm := fun W => l01Modulus_any m W
    rw [hm] at hlm
    have HLM := Lib.hid hlm
    clear hm hlm
    by_cases h1 : 2 ≤ t.length ∧ t.length ≤ 11
    · obtain ⟨L, hL⟩ : ∃ L, t.length = L := ⟨_, rfl⟩
      have HL := Lib.hid hL
      rw [hL] at h1 HW HX ⊢
      obtain ⟨h1, h2⟩ := h1
      have z1 : (2 : Int) ≤ (L : Int) := by omega
      have z2 : (L : Int) ≤ 11 := by omega
      clear hL hl
      go_enter Try.func53, Try.ntmps53
      go_wp2_with fail
      rw [HW.out]
      refine (HLM.out _).mono ?_
      rintro e w' ⟨rfl, rfl⟩
      go_wp2
      go_loopw [4] (fun i wr => ∃ k : Nat, k ≤ L ∧ i = .int .i64 k ∧ (List.range k).all (rowOk m L t) = true ∧ Box wr w.heap.size m A L c ∧ Below W.heap.size W wr) (fun i _ => L - (intOf i).toNat)
      case atStart => exact ⟨0, Nat.zero_le _, rfl, rfl, HX.out, Below.refl _ _⟩
      case round =>
        obtain ⟨k, hk, rfl, hall, hx, hb⟩ := hrel
        have HB' := Lib.hid hb
        have HX' := Lib.hid hx
        have HA := Lib.hid hall
        by_cases hlt : k < L
        · obtain ⟨bb, off, A', c', rfl, hbb, hc, _, hri⟩ := HR.out.at k (by have := HL.out; omega)
          have hck := (hb.cell (p := ⟨bb, off + k, none⟩) hbb).trans hc
          have hrl := HRL.out k
          have hst : rowOk m L t k = (decide ((Pl.rw' t k).length + k = L) && allIn 0 (m - 1) (Pl.rw' t k)) := rfl
          obtain ⟨r, hr⟩ : ∃ r, Pl.rw' t k = r := ⟨_, rfl⟩
          rw [hr] at hck hrl hst hri
          have HST := Lib.hid hst
          have HRI := Lib.hid (hri.below hb)
          obtain ⟨x1, x2, _⟩ := hx
          have j0 : (0 : Int) ≤ (k : Int) := by omega
          have j1 : (k : Int) < (L : Int) := by omega
          clear hall hb hc hri hst hbb hr
          by_cases hlen : r.length + k = L
          · have hle : (L : Int) - (k : Int) = (r.length : Int) := by omega
            obtain ⟨q, hq⟩ : ∃ q, allIn 0 (m - 1) r = q := ⟨_, rfl⟩
            have HN : Hid (∀ n, Calls Try.prog 104 #[.int .i64 m, .slice A' r.length c'] (wr.drewN n) fun e w' => e = .returned (.bool q) ∧ w' = wr.drewN n) :=
              Lib.hid (fun n => by have := l01Numbers_any m A' c' r (wr.drewN n) m1 m2 hrl HRI.out; rw [hq] at this; exact this.mono fun e w' ⟨p1, p2⟩ => ⟨p1, p2.symm⟩)
            obtain ⟨rl, hrl2⟩ : ∃ q, r.length = q := ⟨_, rfl⟩
            have HQ := Lib.hid hq
            have HLN := Lib.hid hlen
            have HR2 := Lib.hid hrl2
            rw [hrl2] at hck hrl hle HN
            clear hq hlen hrl2
            cases q with
            | true =>
              have HOK := Lib.hid (show (List.range (k + 1)).all (rowOk m L t) = true by rw [all_succ, HA.out, HST.out, HQ.out, decide_eq_true HLN.out]; rfl)
              go_wp2
              go_quiet ((go_at_call 104; exact Calls.quiet_of_same (HN.out _)))
              go_wp2
              go_roundw
              case rel => exact ⟨k + 1, by omega, by go_num, HOK.out, HX'.out, below_drewN HB'.out _⟩
              case measure => simp only [intOf]; omega
            | false =>
              have hno : R = false := by
                rw [← HRR.out]
                unfold isP
                have hf : rowOk m t.length t k = false := by rw [HL.out, HST.out, HQ.out, Bool.and_false]
                rw [all_no _ k t.length (by have := HL.out; omega) hf, Bool.and_false, Bool.and_false]
              have HNO := Lib.hid hno
              clear hno
              go_wp2
              go_quiet ((go_at_call 104; exact Calls.quiet_of_same (HN.out _)))
              go_wp2
              go_ret
              exact ⟨ret_bool HNO.out.symm, below_drewN (below_step HB.out HB'.out) _⟩
          · have hno : R = false := by
              rw [← HRR.out]
              unfold isP
              have hf : rowOk m t.length t k = false := by rw [HL.out, HST.out, decide_eq_false hlen, Bool.false_and]
              rw [all_no _ k t.length (by have := HL.out; omega) hf, Bool.and_false, Bool.and_false]
            have HNO := Lib.hid hno
            obtain ⟨rl, hrl2⟩ : ∃ q, r.length = q := ⟨_, rfl⟩
            have hle : ¬ (r.length : Int) = (L : Int) - (k : Int) := by omega
            rw [hrl2] at hck hrl hle
            obtain ⟨n1, n2⟩ : ((rl : Int) == (L : Int) - (k : Int)) = false ∧ ((rl : Int) != (L : Int) - (k : Int)) = true := ⟨by simpa using hle, by simpa using hle⟩
            clear hno hlen hrl2 HRI
            go_wp2
            go_quiet (fail)
            go_wp2
            go_ret
            exact ⟨ret_bool HNO.out.symm, below_drewN (below_step HB.out HB'.out) _⟩
        · obtain rfl : k = L := by omega
          have hyes : R = true := by
            rw [← HRR.out]
            unfold isP
            rw [HM.out, HL.out, (inB_iff _ _ _).2 ⟨z1, z2⟩, hall]; rfl
          have HY := Lib.hid hyes
          clear hyes hall hx hb
          go_wp2
          go_ret
          exact ⟨ret_bool HY.out.symm, below_step HB.out HB'.out⟩
    · have hno : R = false := by
        rw [← HRR.out]
        unfold isP
        rw [inB_no (show ¬ ((2 : Int) ≤ t.length ∧ (t.length : Int) ≤ 11) by omega), Bool.false_and, Bool.and_false]
      have HNO := Lib.hid hno
      clear hno
      by_cases h2 : t.length < 2
      · go_enter Try.func53, Try.ntmps53
        go_wp2_with fail
        rw [HW.out]
        refine (HLM.out _).mono ?_
        rintro e w' ⟨rfl, rfl⟩
        go_wp2
        go_ret
        exact ⟨ret_bool HNO.out.symm, HB.out⟩
      · have h3 : (11 : Int) < (t.length : Int) := by omega
        clear h1
        go_enter Try.func53, Try.ntmps53
        go_wp2_with fail
        rw [HW.out]
        refine (HLM.out _).mono ?_
        rintro e w' ⟨rfl, rfl⟩
        go_wp2
        go_ret
        exact ⟨ret_bool HNO.out.symm, HB.out⟩
  · have hm' : isM m = false := by simpa using hm
    have HNO := Lib.hid (show R = false by rw [← HRR.out]; unfold isP; rw [hm']; rfl)
    have hlm := fun W => l01Modulus_any m W
    rw [hm'] at hlm
    have HLM := Lib.hid hlm
    clear hm hm' hlm
    go_enter Try.func53, Try.ntmps53
    go_wp2_with fail
    rw [HW.out]
    refine (HLM.out _).mono ?_
    rintro e w' ⟨rfl, rfl⟩
    go_wp2
    go_ret
    exact ⟨ret_bool HNO.out.symm, HB.out⟩
theorem sIsPlane_c (m : Int) (A : Option Addr) (c : Nat) (t : List (List Int)) (w : World) (hl : t.length ≤ 9223372036854775807) (hrl : ∀ k, (Pl.rw' t k).length ≤ 9223372036854775807) (hr : RP w A t) :
    Calls Try.prog 17 #[.agg #[.int .i64 m, .slice A t.length c]] w fun e w' => e = .returned (.bool (isP m t)) ∧ Below w.heap.size w w' := by
  have HC := Lib.hid (fun W (h : Below w.heap.size w W) => l03Is_any m A c t W hl hrl (hr.below h))
  clear hr hrl
  go_enter Try.func17, Try.ntmps17
  go_wp2_with fail
  refine (HC.out _ (by first | exact below_one _ _ | exact Below.refl _ _)).mono ?_
  rintro e w' ⟨rfl, hb⟩
  go_wp2
  go_ret
  exact ⟨rfl, below_step (below_one _ _) hb⟩
end Go.Proofs.Ytjgpdgoclianlaa
