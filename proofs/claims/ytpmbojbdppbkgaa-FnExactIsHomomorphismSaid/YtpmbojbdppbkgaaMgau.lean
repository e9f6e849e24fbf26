/- Texts of contracts, joined. -/
import Derived.Test.YtpmbojbdppbkgaaMgat
import Derived.Test.YtpmbojbdppbkgaaMgac
import Derived.Test.YtpmbojbdppbkgaaMgab
import Derived.Deep.QuietTactic
import Derived.BigQuiet
import Derived.Test.YtpmbojbdppbkgaaMgao
/- Contracts of AgreementOf, of the program and of the model. -/
namespace Go.Proofs.Ytpmbojbdppbkgaa
open Go.RowKit Go.WideShapes Go.ChangeShapes Go.ChangeAt

theorem codeL2_ok {m : Int} {t : List (List Int)} {m' : Int} {t' : List (List Int)} (h : codeL2 m t m' t' = 0) :
    m = m' ∧ ∃ d, t.length = d + 1 ∧ t'.length = d + 1 ∧ Pl.Ok m d t ∧ Pl.Ok m d t' ∧ eqL m t t' 1 = true := by
  unfold codeL2 at h
  by_cases h1 : isL m t = true ∧ isL m' t' = true
  · rw [if_pos h1] at h
    by_cases h2 : m = m' ∧ t.length = t'.length
    · obtain ⟨rfl, h3⟩ := h2
      obtain ⟨_, d, e, ok, hf⟩ := isL_of h1.1
      obtain ⟨_, d', e', ok', hf'⟩ := isL_of h1.2
      obtain rfl : d' = d := by omega
      exact ⟨rfl, d', e, e', ok, ok', law_one ok ok' hf hf'⟩
    · rw [if_neg h2] at h; exact absurd h (by decide)
  · rw [if_neg h1] at h; exact absurd h (by decide)
/-- the model of AgreementOf -/
def agrL (m : Int) (t : List (List Int)) (m' : Int) (t' : List (List Int)) : Int × Int := if codeL2 m t m' t' = 0 then (((agr (eqL m t t') (t.length - 1) 0 : Nat) : Int), 0) else (0, codeL2 m t m' t')
/-- two planes' boxes and the list of both -/
theorem proTT (w : World) (m : Int) (A : Option Addr) (n c : Nat) (m' : Int) (A' : Option Addr) (n' c' : Nat) : ∃ W, ((w.alloc (.cells #[.int .i64 m, .slice A n c] 31)).alloc (.cells #[.int .i64 m', .slice A' n' c'] 31)).alloc (.cells #[.int .i64 m, .slice A n c, .int .i64 m', .slice A' n' c'] 31) = W ∧
    Box W w.heap.size m A n c ∧ Box W (w.heap.size + 1) m' A' n' c' ∧ Box4 W (w.heap.size + 1 + 1) m A n c m' A' n' c' ∧ Below w.heap.size w W := by
  obtain ⟨W0, h0, h1, h2, h4⟩ := start2 31 w m A n c m' A' n' c'
  have hs : W0.heap.size = w.heap.size + 1 + 1 := by rw [← h0]; simp
  rw [h0]
  refine ⟨_, rfl, h1.keep (below_one _ _), h2.keep (below_one _ _), ?_, below_alloc _ h4⟩
  have hv := VarC.new 31 W0 #[.int .i64 m, .slice A n c, .int .i64 m', .slice A' n' c']
  rw [hs] at hv
  exact ⟨⟨hv.cell 0 _ rfl, hv.cell 1 _ rfl, hv.lt⟩, hv.cell 2 _ rfl, hv.cell 3 _ rfl⟩
/-- two planes' boxes and the way from W, in the walk's form, are kept by a call -/
theorem bb_keep {W w w' : World} {g g' : Nat} {x y x' y' : Value} (hb : Below w.heap.size w w')
    (h : (w.cell? ⟨g, 0, none⟩ = some x ∧ w.cell? ⟨g, 1, none⟩ = some y ∧ g < w.heap.size) ∧ (w.cell? ⟨g', 0, none⟩ = some x' ∧ w.cell? ⟨g', 1, none⟩ = some y' ∧ g' < w.heap.size) ∧ Below W.heap.size W w) :
    (w'.cell? ⟨g, 0, none⟩ = some x ∧ w'.cell? ⟨g, 1, none⟩ = some y ∧ g < w'.heap.size) ∧ (w'.cell? ⟨g', 0, none⟩ = some x' ∧ w'.cell? ⟨g', 1, none⟩ = some y' ∧ g' < w'.heap.size) ∧ Below W.heap.size W w' :=
  ⟨⟨(hb.cell (p := ⟨g, 0, none⟩) h.1.2.2).trans h.1.1, (hb.cell (p := ⟨g, 1, none⟩) h.1.2.2).trans h.1.2.1, Nat.lt_of_lt_of_le h.1.2.2 hb.size⟩,
   ⟨(hb.cell (p := ⟨g', 0, none⟩) h.2.1.2.2).trans h.2.1.1, (hb.cell (p := ⟨g', 1, none⟩) h.2.1.2.2).trans h.2.1.2.1, Nat.lt_of_lt_of_le h.2.1.2.2 hb.size⟩, below_step h.2.2 hb⟩
/-! the model -/
set_option maxHeartbeats 8000000 in
set_option maxRecDepth 100000 in
theorem l04Two_any (m : Int) (A : Option Addr) (c : Nat) (t : List (List Int)) (m' : Int) (A' : Option Addr) (c' : Nat) (t' : List (List Int)) (w : World) (hz : szT t ≤ 1048576) (hz' : szT t' ≤ 1048576) (hr : RP w A t) (hr' : RP w A' t') :
    Calls Try.prog 117 #[.agg #[.int .i64 m, .slice A t.length c], .agg #[.int .i64 m', .slice A' t'.length c']] w fun e w' => e = .returned (.int .i64 (codeL2 m t m' t')) ∧ Below w.heap.size w w' := by
  obtain ⟨W, hW, b1, b2, hwb⟩ := start2 31 w m A t.length c m' A' t'.length c'
  have B1 := Lib.hid b1
  have B2 := Lib.hid b2
  have HB := Lib.hid hwb
  have HW := Lib.hid hW
  have HI := Lib.hid (fun W0 (h : Below W.heap.size W W0) => l04Is_any m A c t W0 hz ((hr.below hwb).below h))
  have HI' := Lib.hid (fun W0 (h : Below W.heap.size W W0) => l04Is_any m' A' c' t' W0 hz' ((hr'.below hwb).below h))
  have hlb := lenT hz
  have hlb' := lenT hz'
  unfold codeL2
  obtain ⟨p, hp⟩ : ∃ p, isL m t = p := ⟨_, rfl⟩
  obtain ⟨q, hq⟩ : ∃ q, isL m' t' = q := ⟨_, rfl⟩
  rw [hp] at HI ⊢
  rw [hq] at HI' ⊢
  obtain ⟨L, hL⟩ : ∃ L, t.length = L := ⟨_, rfl⟩
  obtain ⟨L', hL'⟩ : ∃ L, t'.length = L := ⟨_, rfl⟩
  rw [hL] at HI HW B1 hlb ⊢
  rw [hL'] at HI' HW B2 hlb' ⊢
  clear b1 b2 hwb hW hr hr' hz hz' hp hq hL hL'
  cases p with
  | false =>
    rw [if_neg (fun h => absurd h.1 (by decide))]
    go_enter Try.func117, Try.ntmps117
    go_wp2_with fail
    rw [HW.out]
    refine (HI.out _ (Below.refl _ _)).mono ?_
    rintro e w1 ⟨rfl, hb1⟩
    have HB1 := Lib.hid (below_step HB.out hb1)
    clear hb1
    go_wp2
    go_ret
    exact ⟨rfl, HB1.out⟩
  | true =>
    cases q with
    | false =>
      rw [if_neg (fun h => absurd h.2 (by decide))]
      go_enter Try.func117, Try.ntmps117
      go_wp2_with fail
      rw [HW.out]
      refine (HI.out _ (Below.refl _ _)).mono ?_
      rintro e w1 ⟨rfl, hb1⟩
      obtain ⟨y1, y2, -⟩ := B2.out.keep hb1
      go_wp2_with fail
      refine (HI'.out _ hb1).mono ?_
      rintro e w2 ⟨rfl, hb2⟩
      have HB1 := Lib.hid (below_step HB.out (below_step hb1 hb2))
      clear hb1 hb2 y1 y2
      go_wp2
      go_ret
      exact ⟨rfl, HB1.out⟩
    | true =>
      rw [if_pos ⟨rfl, rfl⟩]
      obtain ⟨R, hR⟩ : ∃ R, (if m = m' ∧ L = L' then (0 : Int) else 2) = R := ⟨_, rfl⟩
      rw [hR]
      go_enter Try.func117, Try.ntmps117
      go_wp2_with fail
      rw [HW.out]
      refine (HI.out _ (Below.refl _ _)).mono ?_
      rintro e w1 ⟨rfl, hb1⟩
      obtain ⟨y1, y2, -⟩ := B2.out.keep hb1
      go_wp2_with fail
      refine (HI'.out _ hb1).mono ?_
      rintro e w2 ⟨rfl, hb2⟩
      have hb3 := below_step hb1 hb2
      clear y1 y2
      obtain ⟨x1, x2, -⟩ := B1.out.keep hb3
      obtain ⟨y1, y2, -⟩ := B2.out.keep hb3
      have HB1 := Lib.hid (below_step HB.out hb3)
      clear hb1 hb2 hb3
      by_cases hm : m = m'
      · subst hm
        by_cases hd : L = L'
        · subst hd
          have HR : Hid (R = 0) := Lib.hid (by rw [← hR, if_pos ⟨rfl, rfl⟩])
          clear hR
          go_wp2
          go_ret
          exact ⟨ret_int HR.out.symm, HB1.out⟩
        · have HR : Hid (R = 2) := Lib.hid (by rw [← hR, if_neg (fun h => hd h.2)])
          have hi : ¬ (L : Int) = (L' : Int) := by omega
          obtain ⟨n1, n2⟩ : ((L : Int) == (L' : Int)) = false ∧ ((L : Int) != (L' : Int)) = true := ⟨by simpa using hi, by simpa using hi⟩
          clear hR hd
          go_wp2
          go_ret
          exact ⟨ret_int HR.out.symm, HB1.out⟩
      · have HR : Hid (R = 2) := Lib.hid (by rw [← hR, if_neg (fun h => hm h.1)])
        obtain ⟨n1, n2⟩ : (m == m') = false ∧ (m != m') = true := ⟨by simpa using hm, by simpa using hm⟩
        clear hR
        go_wp2
        go_ret
        exact ⟨ret_int HR.out.symm, HB1.out⟩
end Go.Proofs.Ytpmbojbdppbkgaa

/- Contracts of the model's comparison of lists and of tables. -/
namespace Go.Proofs.Ytpmbojbdppbkgaa
open Go.RowKit Go.WideShapes Go.ChangeShapes Go.ChangeAt

set_option maxHeartbeats 1000000 in
theorem l01Same_q (A B : Option Addr) (c d : Nat) (l r : List Int) (w : World) (hl : l.length ≤ 10485760) (hr : r.length ≤ 10485760) (ha : RI w A l) (hb : RI w B r) :
    Calls Try.prog 140 #[.slice A l.length c, .slice B r.length d] w fun e w' => e = .returned (.bool (decide (l = r))) ∧ ∃ n, w' = w.drewN n := by
  obtain ⟨R, hR⟩ : ∃ R, decide (l = r) = R := ⟨_, rfl⟩
  rw [hR]
  by_cases hlen : r.length = l.length
  · have HY := Lib.hid (fun (h : ∀ j : Nat, j < l.length → l[j]?.getD 0 = r[j]?.getD 0) => hR.symm.trans (decide_eq_true (List.ext_getElem? (fun i => by
      by_cases hi : i < l.length
      · have := h i hi
        rw [List.getElem?_eq_getElem hi, List.getElem?_eq_getElem (by omega)] at this ⊢
        exact congrArg some this
      · rw [List.getElem?_eq_none (by omega), List.getElem?_eq_none (by omega)]))))
    have HN := Lib.hid (fun (j : Nat) (h : ¬ l[j]?.getD 0 = r[j]?.getD 0) => hR.symm.trans (decide_eq_false (fun he => h (congrArg (fun (u : List Int) => u[j]?.getD 0) he))))
    obtain ⟨N, hN⟩ : ∃ N, l.length = N := ⟨_, rfl⟩
    have HLL := Lib.hid hlen
    rw [hlen]
    rw [hN] at HY hl ⊢
    have HLN := Lib.hid hN
    clear hR hlen hN
    go_enter Try.func140, Try.ntmps140
    go_wp2
    go_loopw [5] (fun i wr => ∃ j n : Nat, j ≤ N ∧ i = .int .i64 j ∧ wr = w.drewN n ∧ ∀ q : Nat, q < j → l[q]?.getD 0 = r[q]?.getD 0) (fun i _ => N - (intOf i).toNat)
    case atStart => exact ⟨0, 0, Nat.zero_le _, rfl, rfl, fun q h => absurd h (Nat.not_lt_zero _)⟩
    case round =>
      obtain ⟨j, n, hj, rfl, hw, hall⟩ := hrel
      have HW := Lib.hid hw
      have HA := Lib.hid hall
      have hcell : ∀ p : Addr, wr.cell? p = w.cell? p := by intro p; rw [hw]; rfl
      clear hw hall
      by_cases hlt : j < N
      · have hN := HLN.out
        have hlen := HLL.out
        obtain ⟨b, off, rfl, hb1, hc1⟩ := ha (by rintro rfl; simp at hN; omega)
        obtain ⟨b', off', rfl, hb2, hc2⟩ := hb (by rintro rfl; simp at hlen; omega)
        have h1 := (hcell ⟨b, off + j, none⟩).trans (hc1 j (by omega))
        have h2 := (hcell ⟨b', off' + j, none⟩).trans (hc2 j (by omega))
        have hne := HN.out j
        obtain ⟨X, hX⟩ : ∃ x, l[j]?.getD 0 = x := ⟨_, rfl⟩
        obtain ⟨Y, hY⟩ : ∃ x, r[j]?.getD 0 = x := ⟨_, rfl⟩
        rw [hX] at h1 hne
        rw [hY] at h2 hne
        have j1 : (0 : Int) ≤ (j : Int) := by omega
        have j2 : (j : Int) < (N : Int) := by omega
        clear hc1 hc2 ha hb hcell hN hlen
        by_cases hxy : X = Y
        · subst hxy
          have HX := Lib.hid (hX.trans hY.symm)
          clear hX hY hne
          go_wp2
          go_quiet (fail)
          go_wp2
          go_roundw
          case rel => exact ⟨j + 1, n + nq, by omega, by go_num, by rw [HW.out, World.drewN_drewN], fun q hq => (Nat.lt_succ_iff_lt_or_eq.1 hq).elim (HA.out q) (fun h => h ▸ HX.out)⟩
          case measure => simp only [intOf]; omega
        · have HRF := Lib.hid (hne hxy)
          obtain ⟨n1, n2⟩ : (X == Y) = false ∧ (X != Y) = true := ⟨by simpa using hxy, by simpa using hxy⟩
          clear hX hY hne
          go_wp2
          go_quiet (fail)
          go_wp2
          go_ret
          exact ⟨ret_bool HRF.out.symm, n + nq, by rw [HW.out, World.drewN_drewN]⟩
      · obtain rfl : j = N := by omega
        have HRT := Lib.hid (HY.out HA.out)
        clear hcell
        go_wp2
        go_ret
        exact ⟨ret_bool HRT.out.symm, n, HW.out⟩
  · have hRf : R = false := by rw [← hR]; exact decide_eq_false (fun he => hlen (by rw [he]))
    have HRF := Lib.hid hRf
    have hlen2 : ¬ (l.length : Int) = (r.length : Int) := by omega
    obtain ⟨n1, n2⟩ : ((l.length : Int) == (r.length : Int)) = false ∧ ((l.length : Int) != (r.length : Int)) = true := ⟨by simpa using hlen2, by simpa using hlen2⟩
    obtain ⟨N, hN⟩ : ∃ N, l.length = N := ⟨_, rfl⟩
    obtain ⟨M, hM⟩ : ∃ M, r.length = M := ⟨_, rfl⟩
    rw [hN, hM] at n1 n2 hlen2
    rw [hN] at hl ⊢
    rw [hM] at hr ⊢
    clear hR hRf hlen hN hM ha hb
    go_enter Try.func140, Try.ntmps140
    go_wp2
    go_ret
    exact ⟨ret_bool HRF.out.symm, 0, rfl⟩
/-- rows of a table where they lie -/
def RowsAt (w : World) (A : Option Addr) (t : List (List Int)) : Prop := ∀ k, k < t.length → ∃ b off A' c', A = some ⟨b, off, none⟩ ∧ b < w.heap.size ∧ w.cell? ⟨b, off + k, none⟩ = some (.slice A' (Pl.rw' t k).length c') ∧ RI w A' (Pl.rw' t k)
theorem RP.rowsAt {w : World} {A : Option Addr} {t : List (List Int)} (h : RP w A t) : RowsAt w A t := by
  intro k hk
  obtain ⟨b, off, A', c', rfl, h1, h2, _, h3⟩ := h.at k hk
  exact ⟨b, off, A', c', rfl, h1, h2, h3⟩
set_option maxHeartbeats 1000000 in
theorem l01Same2_any (A B : Option Addr) (c d : Nat) (t u : List (List Int)) (w : World) (hlen : u.length = t.length) (hl : t.length ≤ 1000) (h1 : ∀ k, (Pl.rw' t k).length ≤ 10485760) (h2 : ∀ k, (Pl.rw' u k).length ≤ 10485760) (ha : RP w A t) (hb : RP w B u) :
    Calls Try.prog 95 #[.slice A t.length c, .slice B u.length d] w fun e w' => e = .returned (.bool (decide (t = u))) ∧ Below w.heap.size w w' := by
  have HA1 := Lib.hid ha.rowsAt
  have HB1 := Lib.hid hb.rowsAt
  obtain ⟨R, hR⟩ : ∃ R, decide (t = u) = R := ⟨_, rfl⟩
  rw [hR]
  have HY := Lib.hid (fun (h : ∀ j, j < t.length → Pl.rw' t j = Pl.rw' u j) => hR.symm.trans (decide_eq_true (List.ext_getElem? (fun i => by
    by_cases hi : i < t.length
    · have := h i hi
      unfold Pl.rw' at this
      rw [List.getElem?_eq_getElem hi, List.getElem?_eq_getElem (by omega)] at this ⊢
      exact congrArg some this
    · rw [List.getElem?_eq_none (by omega), List.getElem?_eq_none (by omega)]))))
  have HN := Lib.hid (fun j (h : ¬ Pl.rw' t j = Pl.rw' u j) => hR.symm.trans (decide_eq_false (fun he => h (congrArg (fun u => Pl.rw' u j) he))))
  have H1 := Lib.hid h1
  have H2 := Lib.hid h2
  obtain ⟨N, hN⟩ : ∃ N, t.length = N := ⟨_, rfl⟩
  have HLL := Lib.hid hlen
  rw [hlen]
  rw [hN] at HY hl ⊢
  have HLN := Lib.hid hN
  clear hR hlen hN ha hb h1 h2
  go_enter Try.func95, Try.ntmps95
  go_wp2
  go_loopw [5] (fun i wr => ∃ j : Nat, j ≤ N ∧ i = .int .i64 j ∧ Below w.heap.size w wr ∧ ∀ q, q < j → Pl.rw' t q = Pl.rw' u q) (fun i _ => N - (intOf i).toNat)
  case atStart => exact ⟨0, Nat.zero_le _, rfl, Below.refl _ _, fun q h => absurd h (Nat.not_lt_zero _)⟩
  case round =>
    obtain ⟨j, hj, rfl, hbel, hall⟩ := hrel
    have HB := Lib.hid hbel
    have HA := Lib.hid hall
    clear hbel hall
    by_cases hlt : j < N
    · have hN := HLN.out
      have hlen := HLL.out
      obtain ⟨b, off, A1, c1, rfl, g1, k1, r1⟩ := HA1.out j (by omega)
      obtain ⟨b', off', A2, c2, rfl, g2, k2, r2⟩ := HB1.out j (by omega)
      have e1 := (HB.out.cell (p := ⟨b, off + j, none⟩) g1).trans k1
      have e2 := (HB.out.cell (p := ⟨b', off' + j, none⟩) g2).trans k2
      have hne := HN.out j
      have b1 := H1.out j
      have b2 := H2.out j
      obtain ⟨X, hX⟩ : ∃ x, Pl.rw' t j = x := ⟨_, rfl⟩
      obtain ⟨Y, hY⟩ : ∃ x, Pl.rw' u j = x := ⟨_, rfl⟩
      rw [hX] at e1 hne b1 r1
      rw [hY] at e2 hne b2 r2
      have R1 := Lib.hid (r1.below HB.out)
      have R2 := Lib.hid (r2.below HB.out)
      have j1 : (0 : Int) ≤ (j : Int) := by omega
      have j2 : (j : Int) < (N : Int) := by omega
      by_cases hxy : X = Y
      · have HX := Lib.hid (hX.trans (hxy.trans hY.symm))
        have HQ := Lib.hid (fun n => by have := l01Same_q A1 A2 c1 c2 X Y (wr.drewN n) b1 b2 R1.out R2.out; rw [decide_eq_true hxy] at this; exact this)
        clear hX hY hne k1 k2 r1 r2 hN hlen hxy b1 b2
        obtain ⟨n1, hn1⟩ : ∃ n, X.length = n := ⟨_, rfl⟩
        obtain ⟨n2, hn2⟩ : ∃ n, Y.length = n := ⟨_, rfl⟩
        rw [hn1] at e1 HQ
        rw [hn2] at e2 HQ
        clear hn1 hn2
        go_wp2
        go_quiet ((go_at_call 140; exact Calls.quiet_of (HQ.out _)))
        go_wp2
        go_roundw
        case rel => exact ⟨j + 1, by omega, by go_num, below_drewN HB.out _, fun q hq => (Nat.lt_succ_iff_lt_or_eq.1 hq).elim (HA.out q) (fun h => h ▸ HX.out)⟩
        case measure => simp only [intOf]; omega
      · have HRF := Lib.hid (hne hxy)
        have HQ := Lib.hid (fun n => by have := l01Same_q A1 A2 c1 c2 X Y (wr.drewN n) b1 b2 R1.out R2.out; rw [decide_eq_false hxy] at this; exact this)
        clear hX hY hne k1 k2 r1 r2 hN hlen hxy b1 b2
        obtain ⟨n1, hn1⟩ : ∃ n, X.length = n := ⟨_, rfl⟩
        obtain ⟨n2, hn2⟩ : ∃ n, Y.length = n := ⟨_, rfl⟩
        rw [hn1] at e1 HQ
        rw [hn2] at e2 HQ
        clear hn1 hn2
        go_wp2
        go_quiet ((go_at_call 140; exact Calls.quiet_of (HQ.out _)))
        go_wp2
        go_ret
        exact ⟨ret_bool HRF.out.symm, below_drewN HB.out _⟩
    · obtain rfl : j = N := by omega
      have HRT := Lib.hid (HY.out HA.out)
      go_wp2
      go_ret
      exact ⟨ret_bool HRT.out.symm, HB.out⟩
end Go.Proofs.Ytpmbojbdppbkgaa

/- Contracts of IsHomomorphism, of the program and of the model. -/
namespace Go.Proofs.Ytpmbojbdppbkgaa
open Go.RowKit Go.WideShapes Go.ChangeShapes Go.ChangeAt

/-- whether a curve is a homomorphism -/
def homB (m : Int) (d : Nat) (t u : List (List Int)) (l : List Int) : Bool := decide (Pl.hor m d l (Pl.pc t) (d + 1) = Pl.botT m d (Pl.pc u) l l)
/-- the code of two laws and a curve -/
def codeH (m : Int) (t : List (List Int)) (m' : Int) (u : List (List Int)) (m1 : Int) (l : List Int) : Int :=
  if isS m1 l = true then (if codeL2 m t m' u = 0 then codeCl m t [(m1, none, 0, l)] else codeL2 m t m' u) else 1
def homM (m : Int) (t : List (List Int)) (m' : Int) (u : List (List Int)) (m1 : Int) (l : List Int) : Bool × Int :=
  if codeH m t m' u m1 l = 0 then (homB m (t.length - 1) t u l, 0) else (false, codeH m t m' u m1 l)
theorem codeL2_laws {m : Int} {t : List (List Int)} {m' : Int} {u : List (List Int)} (h : codeL2 m t m' u = 0) : isL m t = true ∧ isL m' u = true := by
  unfold codeL2 at h
  by_cases h1 : isL m t = true ∧ isL m' u = true
  · exact h1
  · rw [if_neg h1] at h; exact absurd h (by decide)
/-- a block of four cells -/
theorem box4_newT (T : TypeId) (w : World) (m : Int) (A : Option Addr) (n c : Nat) (m' : Int) (A' : Option Addr) (n' c' : Nat) : Box4 (w.alloc (.cells #[.int .i64 m, .slice A n c, .int .i64 m', .slice A' n' c'] T)) w.heap.size m A n c m' A' n' c' := by
  have hv := VarC.new T w #[.int .i64 m, .slice A n c, .int .i64 m', .slice A' n' c']
  exact ⟨⟨hv.cell 0 _ rfl, hv.cell 1 _ rfl, hv.lt⟩, hv.cell 2 _ rfl, hv.cell 3 _ rfl⟩
/-- two laws' boxes, a series' box -/
theorem pro_LLS (w : World) (m : Int) (d : Nat) (A : Option Addr) (n c : Nat) (A' : Option Addr) (n' c' : Nat) (A1 : Option Addr) (n1 c1 : Nat) :
    ∃ W, ((w.alloc (.cells #[.int .i64 m, .int .i64 d, .slice A n c] 68)).alloc (.cells #[.int .i64 m, .int .i64 d, .slice A' n' c'] 68)).alloc (.cells #[.int .i64 m, .slice A1 n1 c1] 28) = W ∧
    GBox W w.heap.size m d A n c ∧ GBox W (w.heap.size + 1) m d A' n' c' ∧ Box W (w.heap.size + 1 + 1) m A1 n1 c1 ∧ Below w.heap.size w W := by
  refine ⟨_, rfl, ((GBox.new _ _ _ _ _ _ _).keep (below_one _ _)).keep (below_one _ _), ?_, ?_, below_alloc _ (below_alloc _ (below_one _ _))⟩
  · have := (GBox.new 68 (w.alloc (.cells #[.int .i64 m, .int .i64 d, .slice A n c] 68)) m d A' n' c').keep (below_one _ (.cells #[.int .i64 m, .slice A1 n1 c1] 28))
    simpa using this
  · have := Box.newT 28 ((w.alloc (.cells #[.int .i64 m, .int .i64 d, .slice A n c] 68)).alloc (.cells #[.int .i64 m, .int .i64 d, .slice A' n' c'] 68)) m A1 n1 c1
    simpa using this
set_option maxHeartbeats 16000000 in
set_option maxRecDepth 100000 in
theorem isHomomorphism_any (m : Int) (d : Nat) (A : Option Addr) (c : Nat) (t : List (List Int)) (A' : Option Addr) (c' : Nat) (u : List (List Int)) (A1 : Option Addr) (c1 : Nat) (l : List Int) (w : World) (hs : Pl.Ok m d t) (hN : Pl.pc t 0 0 = 0) (hs' : Pl.Ok m d u) (s1 : SerOk m d l) (z1 : Ser.co l 0 = 0) (hr : RP w A t) (hr' : RP w A' u) (hr1 : RI w A1 l) :
    Calls Try.prog 121 #[.agg #[.int .i64 m, .int .i64 d, .slice A t.length c], .agg #[.int .i64 m, .int .i64 d, .slice A' u.length c'], .agg #[.int .i64 m, .slice A1 l.length c1]] w fun e w' => e = .returned (.bool (homB m d t u l)) ∧ Below w.heap.size w w' := by
  obtain ⟨W, hW, b1, b2, b3, hwb⟩ := pro_LLS w m d A t.length c A' u.length c' A1 l.length c1
  have HB := Lib.hid hwb
  have HW := Lib.hid hW
  have HQ := Lib.hid (fun (W0 : World) (h : Below W.heap.size W W0) => appliedTo_any m d A1 c1 l A c t W0 s1 hs hN ((hr1.below hwb).below h) ((hr.below hwb).below h))
  have HP := Lib.hid (fun W0 (h : Below W.heap.size W W0) => withCurves_any m d A' c' u A1 c1 l A1 c1 l W0 hs' s1 s1 z1 z1 ((hr'.below hwb).below h) ((hr1.below hwb).below h) ((hr1.below hwb).below h))
  have HE := Lib.hid (fun W0 A2 c2 A3 c3 (h2 : RP W0 A2 (Pl.hor m d l (Pl.pc t) (d + 1))) (h3 : RP W0 A3 (Pl.botT m d (Pl.pc u) l l)) => isSame_any m d A2 c2 (Pl.hor m d l (Pl.pc t) (d + 1)) A3 c3 (Pl.botT m d (Pl.pc u) l l) W0 (Pl.hor_ok hs.m1 hs.m2 hs.d1 hs.d2 _ _ _) (hs'.tab _) h2 h3)
  obtain ⟨R, hR⟩ : ∃ R, homB m d t u l = R := ⟨_, rfl⟩
  rw [show decide (Pl.hor m d l (Pl.pc t) (d + 1) = Pl.botT m d (Pl.pc u) l l) = R from hR] at HE
  rw [hR]
  obtain ⟨T1, hT1⟩ : ∃ T, Pl.hor m d l (Pl.pc t) (d + 1) = T := ⟨_, rfl⟩
  obtain ⟨T2, hT2⟩ : ∃ T, Pl.botT m d (Pl.pc u) l l = T := ⟨_, rfl⟩
  rw [hT1] at HQ HE
  rw [hT2] at HP HE
  obtain ⟨L, hL⟩ : ∃ L, t.length = L := ⟨_, rfl⟩
  obtain ⟨L', hL'⟩ : ∃ L, u.length = L := ⟨_, rfl⟩
  obtain ⟨n1, hn1⟩ : ∃ L, l.length = L := ⟨_, rfl⟩
  rw [hL] at HQ HW b1 ⊢
  rw [hL'] at HP HW b2 ⊢
  rw [hn1] at HQ HP HW b3 ⊢
  have hsz : w.heap.size + 1 + 1 < W.heap.size := b3.2.2
  obtain ⟨x1, x2, x3, -⟩ := b1
  obtain ⟨y1, y2, y3, -⟩ := b2
  obtain ⟨z1, z2, -⟩ := b3
  have HF := Lib.hid (fun w' (h : Below W.heap.size W w') => (⟨⟨(h.cell (p := ⟨w.heap.size, 0, none⟩) (by simp; omega)).trans x1, (h.cell (p := ⟨w.heap.size, 1, none⟩) (by simp; omega)).trans x2, (h.cell (p := ⟨w.heap.size, 2, none⟩) (by simp; omega)).trans x3⟩,
      ⟨(h.cell (p := ⟨w.heap.size + 1, 0, none⟩) (by simp; omega)).trans y1, (h.cell (p := ⟨w.heap.size + 1, 1, none⟩) (by simp; omega)).trans y2, (h.cell (p := ⟨w.heap.size + 1, 2, none⟩) (by simp; omega)).trans y3⟩, (h.cell (p := ⟨w.heap.size + 1 + 1, 0, none⟩) (by simp; omega)).trans z1, (h.cell (p := ⟨w.heap.size + 1 + 1, 1, none⟩) (by simp; omega)).trans z2⟩ :
    (w'.cell? ⟨w.heap.size, 0, none⟩ = some (.int .i64 m) ∧ w'.cell? ⟨w.heap.size, 1, none⟩ = some (.int .i64 d) ∧ w'.cell? ⟨w.heap.size, 2, none⟩ = some (.slice A L c)) ∧ (w'.cell? ⟨w.heap.size + 1, 0, none⟩ = some (.int .i64 m) ∧ w'.cell? ⟨w.heap.size + 1, 1, none⟩ = some (.int .i64 d) ∧ w'.cell? ⟨w.heap.size + 1, 2, none⟩ = some (.slice A' L' c')) ∧ w'.cell? ⟨w.heap.size + 1 + 1, 0, none⟩ = some (.int .i64 m) ∧ w'.cell? ⟨w.heap.size + 1 + 1, 1, none⟩ = some (.slice A1 n1 c1)))
  have X0 := Lib.hid (keepW HF.out (below_drew0 W))
  clear hwb hW hr hr1 hr' hs hs' s1 hN hR hL hL' hn1 hT1 hT2 x1 x2 x3 y1 y2 y3 z1 z2
  go_enter Try.func121, Try.ntmps121
  go_wp2
  rw [HW.out]
  go_region_held3 (fun w' => ((w'.cell? ⟨w.heap.size, 0, none⟩ = some (.int .i64 m) ∧ w'.cell? ⟨w.heap.size, 1, none⟩ = some (.int .i64 d) ∧ w'.cell? ⟨w.heap.size, 2, none⟩ = some (.slice A L c)) ∧ (w'.cell? ⟨w.heap.size + 1, 0, none⟩ = some (.int .i64 m) ∧ w'.cell? ⟨w.heap.size + 1, 1, none⟩ = some (.int .i64 d) ∧ w'.cell? ⟨w.heap.size + 1, 2, none⟩ = some (.slice A' L' c')) ∧ w'.cell? ⟨w.heap.size + 1 + 1, 0, none⟩ = some (.int .i64 m) ∧ w'.cell? ⟨w.heap.size + 1 + 1, 1, none⟩ = some (.slice A1 n1 c1)) ∧ Below W.heap.size W w') (first | exact X0.out | exact keepS HF.out (Nat.le_refl _) (by assumption) hb4 | exact keepS HF.out (Nat.le_refl _) (by assumption) hb3 | exact keepS HF.out (Nat.le_refl _) (by assumption) hb2) (first
    | (go_at_call 99; with_reducible refine Calls.mono (HQ.out _ (below_drew0 _)) ?_; rintro e2 w2 ⟨s2, rfl, ho2, hb2⟩; obtain ⟨A2, c2, rfl, -⟩ := ho2.len)
    | (go_at_call 132; with_reducible refine Calls.mono (HP.out _ (below_step (below_drew0 _) hb2)) ?_; rintro e3 w3 ⟨s3, rfl, ho3, hb3⟩; obtain ⟨A3, c3, rfl, -⟩ := ho3.len)
    | (go_at_call 100; with_reducible refine Calls.mono (HE.out _ _ _ _ _ (ho2.keep hb3).rp ho3.rp) ?_; rintro e4 w4 ⟨rfl, hb4⟩))
  all_goals
    have HB9 := Lib.hid (below_step HB.out (below_step (below_step (below_step (below_drew0 W) hb2) hb3) hb4))
    clear ho2 ho3 hb2 hb3 hb4
    go_wp2
    go_ret
    exact ⟨rfl, HB9.out⟩
set_option maxHeartbeats 4000000 in
set_option maxRecDepth 100000 in
theorem l06Fits_any (m : Int) (d : Nat) (A : Option Addr) (c : Nat) (t : List (List Int)) (A' : Option Addr) (c' : Nat) (u : List (List Int)) (A1 : Option Addr) (c1 : Nat) (l : List Int) (w : World) (hs : Pl.Ok m d t) (hs' : Pl.Ok m d u) (s1 : SerOk m d l) (z1 : Ser.co l 0 = 0) (hr : RP w A t) (hr' : RP w A' u) (hr1 : RI w A1 l) :
    Calls Try.prog 118 #[.int .i64 m, .slice A t.length c, .slice A' u.length c', .slice A1 l.length c1] w fun e w' => e = .returned (.bool (homB m d t u l)) ∧ Below w.heap.size w w' := by
  have HQ := Lib.hid (l03After_any m d A1 c1 l A c t w s1 hs hr1 hr)
  have HP := Lib.hid (fun W0 (h : Below w.heap.size w W0) => l03Both2_any m d A' c' u A1 c1 l W0 hs' s1 z1 (hr'.below h) (hr1.below h))
  have hrow : ∀ (f : Nat → Nat → Int) (k : Nat), (Pl.rw' (Pl.tab m d f) k).length ≤ 10485760 := fun f k => by
    by_cases hk : k ≤ d
    · rw [Pl.tab_row _ _ _ _ hk, Ser.cut_length]; have := hs.d2; omega
    · rw [Pl.rw_over (by rw [Pl.tab_length]; omega)]; exact Nat.zero_le _
  have HE := Lib.hid (fun W0 A2 c2 A3 c3 (h2 : RP W0 A2 (Pl.hor m d l (Pl.pc t) (d + 1))) (h3 : RP W0 A3 (Pl.botT m d (Pl.pc u) l l)) => l01Same2_any A2 A3 c2 c3 (Pl.hor m d l (Pl.pc t) (d + 1)) (Pl.botT m d (Pl.pc u) l l) W0 (by rw [Pl.hor_length]; exact Pl.tab_length _ _ _) (by rw [Pl.hor_length]; have := hs.d2; omega) (fun k => hrow _ k) (fun k => hrow _ k) h2 h3)
  obtain ⟨R, hR⟩ : ∃ R, homB m d t u l = R := ⟨_, rfl⟩
  rw [show decide (Pl.hor m d l (Pl.pc t) (d + 1) = Pl.botT m d (Pl.pc u) l l) = R from hR] at HE
  rw [hR]
  obtain ⟨T1, hT1⟩ : ∃ T, Pl.hor m d l (Pl.pc t) (d + 1) = T := ⟨_, rfl⟩
  obtain ⟨T2, hT2⟩ : ∃ T, Pl.botT m d (Pl.pc u) l l = T := ⟨_, rfl⟩
  rw [hT1] at HQ HE
  rw [hT2] at HP HE
  obtain ⟨L, hL⟩ : ∃ L, t.length = L := ⟨_, rfl⟩
  obtain ⟨L', hL'⟩ : ∃ L, u.length = L := ⟨_, rfl⟩
  obtain ⟨n1, hn1⟩ : ∃ L, l.length = L := ⟨_, rfl⟩
  rw [hL] at HQ ⊢
  rw [hL'] at HP ⊢
  rw [hn1] at HQ HP ⊢
  clear hr hr1 hr' hs hs' s1 z1 hR hL hL' hn1 hT1 hT2 hrow
  go_enter Try.func118, Try.ntmps118
  go_wp2_with fail
  refine HQ.out.mono ?_
  rintro e w2 ⟨s2, rfl, ho2, hb2⟩
  obtain ⟨A2, c2, rfl, -⟩ := ho2.len
  go_wp2_with fail
  refine (HP.out _ hb2).mono ?_
  rintro e w3 ⟨s3, rfl, ho3, hb3⟩
  obtain ⟨A3, c3, rfl, -⟩ := ho3.len
  go_wp2_with fail
  refine (HE.out _ _ _ _ _ (ho2.keep hb3).rp ho3.rp).mono ?_
  rintro e w4 ⟨rfl, hb4⟩
  have HB9 := Lib.hid (below_step (below_step hb2 hb3) hb4)
  clear ho2 ho3 hb2 hb3 hb4
  go_wp2
  go_ret
  exact ⟨rfl, HB9.out⟩
set_option maxHeartbeats 16000000 in
set_option maxRecDepth 100000 in
theorem IsHomomorphism_any (m : Int) (A : Option Addr) (c : Nat) (t : List (List Int)) (m' : Int) (A' : Option Addr) (c' : Nat) (u : List (List Int)) (m1 : Int) (A1 : Option Addr) (c1 : Nat) (l : List Int) (w : World) (hz : szT t ≤ 1048576) (hz' : szT u ≤ 1048576) (hl : l.length ≤ 1048576) (hr : RP w A t) (hr' : RP w A' u) (hr1 : RI w A1 l) :
    Calls Try.prog 55 #[.agg #[.int .i64 m, .slice A t.length c], .agg #[.int .i64 m', .slice A' u.length c'], .agg #[.int .i64 m1, .slice A1 l.length c1]] w fun e w' => e = .returned (.tuple #[.bool (homM m t m' u m1 l).1, .int .i64 (homM m t m' u m1 l).2]) ∧ Below w.heap.size w w' := by
  obtain ⟨W, hW, b1, b2, b3, hwb⟩ := startB3 31 31 28 w m A t.length c m' A' u.length c' m1 A1 l.length c1
  have B1 := Lib.hid b1
  have B2 := Lib.hid b2
  have B3 := Lib.hid b3
  have HB := Lib.hid hwb
  have HW := Lib.hid hW
  have hIS := IsSeries_any m1 A1 c1 l W (by omega) (hr1.below hwb)
  by_cases h1 : isS m1 l = true
  · rw [h1] at hIS
    have HIS := Lib.hid hIS
    have HC2 := Lib.hid (fun W0 (h : Below W.heap.size W W0) => codeL2_any W0.heap.size m A c t m' A' c' u (W0.alloc (.cells #[.int .i64 m, .slice A t.length c, .int .i64 m', .slice A' u.length c'] 31)) hz hz' ((hr.below hwb).below (below_alloc _ h)) ((hr'.below hwb).below (below_alloc _ h)) (box4_newT _ _ _ _ _ _ _ _ _ _))
    by_cases h2 : codeL2 m t m' u = 0
    · rw [h2] at HC2
      obtain ⟨hf1, hf2⟩ := codeL2_laws h2
      have HC3 := Lib.hid (fun W0 (h : Below W.heap.size W W0) => codeCl_any W0.heap.size m A c t [(m1, A1, c1, l)] (W0.alloc (.cells #[.int .i64 m1, .slice A1 l.length c1] 28)) hf1 hz ((hr.below hwb).below (below_alloc _ h)) (SL.one (Box.newT _ _ _ _ _ _) ((hr1.below hwb).below (below_alloc _ h)) hl) (by simp))
      have hcl : codeCl m t [(m1, A1, c1, l)] = codeCl m t [(m1, none, 0, l)] := rfl
      rw [hcl] at HC3
      have hH : codeH m t m' u m1 l = codeCl m t [(m1, none, 0, l)] := by unfold codeH; rw [if_pos h1, if_pos h2]
      by_cases h3 : codeCl m t [(m1, none, 0, l)] = 0
      · have hS1 : codeS1 m t m1 l = 0 := by unfold codeS1; rw [codeLw_cl hf1]; exact h3
        obtain ⟨rfl, d, e1, e2, ok, ok', -⟩ := codeL2_ok h2
        obtain ⟨-, rfl, d', e1', f1, -, hf, s1, z1⟩ := codeS1_ok hS1
        obtain rfl : d' = d := by omega
        have HA : Hid (homM m1 t m1 u m1 l = (homB m1 d' t u l, 0)) := Lib.hid (by unfold homM; rw [hH, if_pos h3, e1]; rfl)
        rw [HA.out]
        rw [h3] at HC3
        have hd2 := ok.d2
        have HG1 := Lib.hid (fun W0 => lawOf_nat m1 A t.length c d' W0 e1 (by omega))
        have HG2 := Lib.hid (fun W0 => lawOf_nat m1 A' u.length c' d' W0 e2 (by omega))
        have HI := Lib.hid (fun W0 (h : Below W.heap.size W W0) => isHomomorphism_any m1 d' A c t A' c' u A1 c1 l W0 ok ((Pl.norm_law hf ok).x 0 (Nat.zero_le _)) ok' s1 z1 ((hr.below hwb).below h) ((hr'.below hwb).below h) ((hr1.below hwb).below h))
        obtain ⟨R, hR⟩ : ∃ R, homB m1 d' t u l = R := ⟨_, rfl⟩
        rw [hR] at HI ⊢
        obtain ⟨L, hL⟩ : ∃ L, t.length = L := ⟨_, rfl⟩
        obtain ⟨L', hL'⟩ : ∃ L, u.length = L := ⟨_, rfl⟩
        obtain ⟨n1, hn1⟩ : ∃ L, l.length = L := ⟨_, rfl⟩
        rw [hL] at HC2 HC3 HG1 HI HW B1 ⊢
        rw [hL'] at HC2 HG2 HI HW B2 ⊢
        rw [hn1] at HIS HC3 HI HW B3 ⊢
        clear b1 b2 b3 hwb hW hr hr' hr1 h1 h2 h3 hf1 hf2 hS1 hH hcl ok ok' hf s1 z1 e1 e2 e1' f1 hz hz' hl hL hL' hn1 HA hIS hR
        go_enter Try.func55, Try.ntmps55
        go_wp2_with fail
        rw [HW.out]
        refine HIS.out.mono ?_
        rintro e w1 ⟨rfl, hb1⟩
        obtain ⟨x1, x2, -⟩ := B1.out.keep hb1
        obtain ⟨y1, y2, -⟩ := B2.out.keep hb1
        go_wp2_with fail
        refine (HC2.out _ hb1).mono ?_
        rintro e w2 ⟨rfl, hb2⟩
        clear x1 x2 y1 y2
        have hb12 := below_step (below_alloc (.cells #[.int .i64 m1, .slice A L c, .int .i64 m1, .slice A' L' c'] 31) hb1) hb2
        obtain ⟨x1, x2, -⟩ := B1.out.keep hb12
        obtain ⟨y1, y2, -⟩ := B3.out.keep hb12
        go_wp2_with fail
        refine (HC3.out _ hb12).mono ?_
        rintro e w3 ⟨rfl, hb3⟩
        have hb13 := below_step (below_alloc (.cells #[.int .i64 m1, .slice A1 n1 c1] 28) hb12) hb3
        have HB13 := Lib.hid hb13
        clear x1 x2 y1 y2 hb1 hb2 hb3 hb12
        have X0 := Lib.hid (kb3_call (hb13.trans ((below_drew0 w3).mono hb13.size)) (⟨B1.out, B2.out, B3.out⟩ : Box W _ _ _ _ _ ∧ Box W _ _ _ _ _ ∧ Box W _ _ _ _ _))
        clear hb13
        go_wp2
        go_region_held3 (fun w' => (w'.cell? ⟨w.heap.size, 0, none⟩ = some (.int .i64 m1) ∧ w'.cell? ⟨w.heap.size, 1, none⟩ = some (.slice A L c) ∧ w.heap.size < w'.heap.size) ∧ (w'.cell? ⟨w.heap.size + 1, 0, none⟩ = some (.int .i64 m1) ∧ w'.cell? ⟨w.heap.size + 1, 1, none⟩ = some (.slice A' L' c') ∧ w.heap.size + 1 < w'.heap.size) ∧ (w'.cell? ⟨w.heap.size + 1 + 1, 0, none⟩ = some (.int .i64 m1) ∧ w'.cell? ⟨w.heap.size + 1 + 1, 1, none⟩ = some (.slice A1 n1 c1) ∧ w.heap.size + 1 + 1 < w'.heap.size)) (first | exact X0.out | exact kb3_call hc3 (by assumption) | exact kb3_call hc2 (by assumption) | exact kb3_call hc1 (by assumption)) (first
          | (go_at_call 121; with_reducible refine Calls.mono (HI.out _ (below_step HB13.out (below_step (below_step (below_drew0 _) hc1) hc2))) ?_; rintro e v3 ⟨rfl, hc3⟩)
          | (go_at_call 64; have ht := hc1; clear ht; with_reducible refine Calls.mono (HG2.out _) ?_; rintro e v2 ⟨rfl, hc2⟩)
          | (go_at_call 64; with_reducible refine Calls.mono (HG1.out _) ?_; rintro e v1 ⟨rfl, hc1⟩))
        all_goals
          have HB9 := Lib.hid (below_step HB.out (below_step HB13.out (below_step (below_step (below_step (below_drew0 _) hc1) hc2) hc3)))
          clear hc1 hc2 hc3
          go_wp2
          go_ret2
          exact ⟨rfl, HB9.out⟩
      · have HA : Hid (homM m t m' u m1 l = (false, codeCl m t [(m1, none, 0, l)])) := Lib.hid (by unfold homM; rw [hH, if_neg h3])
        rw [HA.out]
        obtain ⟨k1, k2⟩ := ne_facts h3
        obtain ⟨C, hC⟩ : ∃ C, codeCl m t [(m1, none, 0, l)] = C := ⟨_, rfl⟩
        rw [hC] at HC3 k1 k2 ⊢
        obtain ⟨L, hL⟩ : ∃ L, t.length = L := ⟨_, rfl⟩
        obtain ⟨L', hL'⟩ : ∃ L, u.length = L := ⟨_, rfl⟩
        obtain ⟨n1, hn1⟩ : ∃ L, l.length = L := ⟨_, rfl⟩
        rw [hL] at HC2 HC3 HW B1 ⊢
        rw [hL'] at HC2 HW B2 ⊢
        rw [hn1] at HIS HC3 HW B3 ⊢
        clear b1 b2 b3 hwb hW hr hr' hr1 h1 h2 h3 hf1 hf2 hH hcl hz hz' hl hL hL' hn1 HA hIS hC
        go_enter Try.func55, Try.ntmps55
        go_wp2_with fail
        rw [HW.out]
        refine HIS.out.mono ?_
        rintro e w1 ⟨rfl, hb1⟩
        obtain ⟨x1, x2, -⟩ := B1.out.keep hb1
        obtain ⟨y1, y2, -⟩ := B2.out.keep hb1
        go_wp2_with fail
        refine (HC2.out _ hb1).mono ?_
        rintro e w2 ⟨rfl, hb2⟩
        clear x1 x2 y1 y2
        have hb12 := below_step (below_alloc (.cells #[.int .i64 m, .slice A L c, .int .i64 m', .slice A' L' c'] 31) hb1) hb2
        obtain ⟨x1, x2, -⟩ := B1.out.keep hb12
        obtain ⟨y1, y2, -⟩ := B3.out.keep hb12
        go_wp2_with fail
        refine (HC3.out _ hb12).mono ?_
        rintro e w3 ⟨rfl, hb3⟩
        have HB9 := Lib.hid (below_step HB.out (below_step (below_alloc (.cells #[.int .i64 m1, .slice A1 n1 c1] 28) hb12) hb3))
        clear x1 x2 y1 y2 hb1 hb2 hb3 hb12
        go_wp2
        go_ret2
        exact ⟨rfl, HB9.out⟩
    · have HA : Hid (homM m t m' u m1 l = (false, codeL2 m t m' u)) := Lib.hid (by unfold homM codeH; rw [if_pos h1, if_neg h2, if_neg h2])
      rw [HA.out]
      obtain ⟨k1, k2⟩ := ne_facts h2
      obtain ⟨C, hC⟩ : ∃ C, codeL2 m t m' u = C := ⟨_, rfl⟩
      rw [hC] at HC2 k1 k2 ⊢
      obtain ⟨L, hL⟩ : ∃ L, t.length = L := ⟨_, rfl⟩
      obtain ⟨L', hL'⟩ : ∃ L, u.length = L := ⟨_, rfl⟩
      rw [hL] at HC2 HW B1 ⊢
      rw [hL'] at HC2 HW B2 ⊢
      clear b1 b2 b3 hwb hW hr hr' hr1 h1 h2 hz hz' hl hL hL' HA hIS hC
      go_enter Try.func55, Try.ntmps55
      go_wp2_with fail
      rw [HW.out]
      refine HIS.out.mono ?_
      rintro e w1 ⟨rfl, hb1⟩
      obtain ⟨x1, x2, -⟩ := B1.out.keep hb1
      obtain ⟨y1, y2, -⟩ := B2.out.keep hb1
      go_wp2_with fail
      refine (HC2.out _ hb1).mono ?_
      rintro e w2 ⟨rfl, hb2⟩
      clear x1 x2 y1 y2
      have HB9 := Lib.hid (below_step HB.out (below_step (below_alloc (.cells #[.int .i64 m, .slice A L c, .int .i64 m', .slice A' L' c'] 31) hb1) hb2))
      clear hb1 hb2
      go_wp2
      go_ret2
      exact ⟨rfl, HB9.out⟩
  · have h1' : isS m1 l = false := by simpa using h1
    rw [h1'] at hIS
    have HIS := Lib.hid hIS
    have HA : Hid (homM m t m' u m1 l = (false, 1)) := Lib.hid (by unfold homM codeH; rw [if_neg h1]; rfl)
    rw [HA.out]
    clear b1 b2 b3 hwb hW hr hr' hr1 h1 h1' hz hz' hl HA hIS
    go_enter Try.func55, Try.ntmps55
    go_wp2_with fail
    rw [HW.out]
    refine HIS.out.mono ?_
    rintro e w1 ⟨rfl, hb1⟩
    have HB9 := Lib.hid (below_step HB.out hb1)
    clear hb1
    go_wp2
    go_ret2
    exact ⟨rfl, HB9.out⟩
end Go.Proofs.Ytpmbojbdppbkgaa

/- Contract of IsHomomorphism, of the model. -/
namespace Go.Proofs.Ytpmbojbdppbkgaa
open Go.RowKit Go.WideShapes Go.ChangeShapes Go.ChangeAt

theorem codeH_no {m : Int} {t : List (List Int)} {m' : Int} {u : List (List Int)} {m1 : Int} {l : List Int} (h : ¬ (isL m t = true ∧ isL m' u = true ∧ isS m1 l = true)) : codeH m t m' u m1 l = 1 := by
  unfold codeH
  by_cases h1 : isS m1 l = true
  · have h2 : ¬ (isL m t = true ∧ isL m' u = true) := fun e => h ⟨e.1, e.2, h1⟩
    have h3 : codeL2 m t m' u = 1 := by unfold codeL2; rw [if_neg h2]
    rw [if_pos h1, if_neg (by rw [h3]; decide), h3]
  · rw [if_neg h1]
set_option maxHeartbeats 16000000 in
set_option maxRecDepth 100000 in
theorem sIsHomomorphism_any (m : Int) (A : Option Addr) (c : Nat) (t : List (List Int)) (m' : Int) (A' : Option Addr) (c' : Nat) (u : List (List Int)) (m1 : Int) (A1 : Option Addr) (c1 : Nat) (l : List Int) (w : World) (hz : szT t ≤ 1048576) (hz' : szT u ≤ 1048576) (hl : l.length ≤ 1048576) (hr : RP w A t) (hr' : RP w A' u) (hr1 : RI w A1 l) :
    Calls Try.prog 54 #[.agg #[.int .i64 m, .slice A t.length c], .agg #[.int .i64 m', .slice A' u.length c'], .agg #[.int .i64 m1, .slice A1 l.length c1]] w fun e w' => e = .returned (.tuple #[.bool (homM m t m' u m1 l).1, .int .i64 (homM m t m' u m1 l).2]) ∧ Below w.heap.size w w' := by
  obtain ⟨W, hW, b1, b2, b3, hwb⟩ := startB3 31 31 28 w m A t.length c m' A' u.length c' m1 A1 l.length c1
  have B1 := Lib.hid b1
  have B2 := Lib.hid b2
  have B3 := Lib.hid b3
  have HB := Lib.hid hwb
  have HW := Lib.hid hW
  have HL1 := Lib.hid (fun W0 (h : Below W.heap.size W W0) => l04Is_any m A c t W0 hz ((hr.below hwb).below h))
  have HL2 := Lib.hid (fun W0 (h : Below W.heap.size W W0) => l04Is_any m' A' c' u W0 hz' ((hr'.below hwb).below h))
  have HIS := Lib.hid (fun W0 (h : Below W.heap.size W W0) => l02Is_any m1 A1 c1 l W0 (by omega) ((hr1.below hwb).below h))
  have HTW := Lib.hid (fun W0 (h : Below W.heap.size W W0) => l04Two_any m A c t m' A' c' u W0 hz hz' ((hr.below hwb).below h) ((hr'.below hwb).below h))
  by_cases h0 : isL m t = true ∧ isL m' u = true ∧ isS m1 l = true
  · obtain ⟨g1, g2, g3⟩ := h0
    rw [g1] at HL1
    rw [g2] at HL2
    rw [g3] at HIS
    by_cases h2 : codeL2 m t m' u = 0
    · rw [h2] at HTW
      have HC3 := Lib.hid (fun W0 (h : Below W.heap.size W W0) => by
        have := l04Code_any W0.heap.size m A c t [(m1, A1, c1, l)] (W0.alloc (.cells #[.int .i64 m1, .slice A1 l.length c1] 28)) hz ((hr.below hwb).below (below_alloc _ h)) (SL.one (Box.newT _ _ _ _ _ _) ((hr1.below hwb).below (below_alloc _ h)) hl) (by simp)
        rw [codeLw_cl g1] at this
        exact this)
      have hcl : codeCl m t [(m1, A1, c1, l)] = codeCl m t [(m1, none, 0, l)] := rfl
      rw [hcl] at HC3
      have hH : codeH m t m' u m1 l = codeCl m t [(m1, none, 0, l)] := by unfold codeH; rw [if_pos g3, if_pos h2]
      by_cases h3 : codeCl m t [(m1, none, 0, l)] = 0
      · have hS1 : codeS1 m t m1 l = 0 := by unfold codeS1; rw [codeLw_cl g1]; exact h3
        obtain ⟨rfl, d, e1, e2, ok, ok', -⟩ := codeL2_ok h2
        obtain ⟨-, rfl, d', e1', f1, -, hf, s1, z1⟩ := codeS1_ok hS1
        obtain rfl : d' = d := by omega
        have HA : Hid (homM m1 t m1 u m1 l = (homB m1 d' t u l, 0)) := Lib.hid (by unfold homM; rw [hH, if_pos h3, e1]; rfl)
        rw [HA.out]
        rw [h3] at HC3
        have HI := Lib.hid (fun W0 (h : Below W.heap.size W W0) => l06Fits_any m1 d' A c t A' c' u A1 c1 l W0 ok ok' s1 z1 ((hr.below hwb).below h) ((hr'.below hwb).below h) ((hr1.below hwb).below h))
        obtain ⟨R, hR⟩ : ∃ R, homB m1 d' t u l = R := ⟨_, rfl⟩
        rw [hR] at HI ⊢
        obtain ⟨L, hL⟩ : ∃ L, t.length = L := ⟨_, rfl⟩
        obtain ⟨L', hL'⟩ : ∃ L, u.length = L := ⟨_, rfl⟩
        obtain ⟨n1, hn1⟩ : ∃ L, l.length = L := ⟨_, rfl⟩
        rw [hL] at HL1 HTW HC3 HI HW B1 ⊢
        rw [hL'] at HL2 HTW HI HW B2 ⊢
        rw [hn1] at HIS HC3 HI HW B3 ⊢
        clear b1 b2 b3 hwb hW hr hr' hr1 g1 g2 g3 h2 h3 hS1 hH hcl ok ok' hf s1 z1 e1 e2 e1' f1 hz hz' hl hL hL' hn1 HA hR
        obtain ⟨x1, x2, -⟩ := B1.out
        go_enter Try.func54, Try.ntmps54
        go_wp2_with fail
        rw [HW.out]
        refine (HL1.out _ (Below.refl _ _)).mono ?_
        rintro e w1 ⟨rfl, hb1⟩
        clear x1 x2
        obtain ⟨x1, x2, -⟩ := B2.out.keep hb1
        go_wp2_with fail
        refine (HL2.out _ hb1).mono ?_
        rintro e w2 ⟨rfl, hb2⟩
        clear x1 x2
        have hb12 := below_step hb1 hb2
        obtain ⟨x1, x2, -⟩ := B3.out.keep hb12
        go_wp2_with fail
        refine (HIS.out _ hb12).mono ?_
        rintro e w3 ⟨rfl, hb3⟩
        clear x1 x2
        have hb13 := below_step hb12 hb3
        obtain ⟨x1, x2, -⟩ := B1.out.keep hb13
        obtain ⟨y1, y2, -⟩ := B2.out.keep hb13
        go_wp2_with fail
        refine (HTW.out _ hb13).mono ?_
        rintro e w4 ⟨rfl, hb4⟩
        clear x1 x2 y1 y2
        have hb14 := below_step hb13 hb4
        obtain ⟨x1, x2, -⟩ := B1.out.keep hb14
        obtain ⟨y1, y2, -⟩ := B3.out.keep hb14
        go_wp2_with fail
        refine (HC3.out _ hb14).mono ?_
        rintro e w5 ⟨rfl, hb5⟩
        clear x1 x2 y1 y2
        have hb15 := below_step (below_alloc (.cells #[.int .i64 m1, .slice A1 n1 c1] 28) hb14) hb5
        obtain ⟨x1, x2, -⟩ := B1.out.keep hb15
        obtain ⟨y1, y2, -⟩ := B2.out.keep hb15
        obtain ⟨z1, z2, -⟩ := B3.out.keep hb15
        go_wp2_with fail
        refine (HI.out _ hb15).mono ?_
        rintro e w6 ⟨rfl, hb6⟩
        have HB9 := Lib.hid (below_step HB.out (below_step hb15 hb6))
        clear x1 x2 y1 y2 z1 z2 hb1 hb2 hb3 hb4 hb5 hb6 hb12 hb13 hb14 hb15
        go_wp2
        go_ret2
        exact ⟨rfl, HB9.out⟩
      · have HA : Hid (homM m t m' u m1 l = (false, codeCl m t [(m1, none, 0, l)])) := Lib.hid (by unfold homM; rw [hH, if_neg h3])
        rw [HA.out]
        obtain ⟨k1, k2⟩ := ne_facts h3
        obtain ⟨C, hC⟩ : ∃ C, codeCl m t [(m1, none, 0, l)] = C := ⟨_, rfl⟩
        rw [hC] at HC3 k1 k2 ⊢
        obtain ⟨L, hL⟩ : ∃ L, t.length = L := ⟨_, rfl⟩
        obtain ⟨L', hL'⟩ : ∃ L, u.length = L := ⟨_, rfl⟩
        obtain ⟨n1, hn1⟩ : ∃ L, l.length = L := ⟨_, rfl⟩
        rw [hL] at HL1 HTW HC3 HW B1 ⊢
        rw [hL'] at HL2 HTW HW B2 ⊢
        rw [hn1] at HIS HC3 HW B3 ⊢
        clear b1 b2 b3 hwb hW hr hr' hr1 g1 g2 g3 h2 h3 hH hcl hz hz' hl hL hL' hn1 HA hC
        obtain ⟨x1, x2, -⟩ := B1.out
        go_enter Try.func54, Try.ntmps54
        go_wp2_with fail
        rw [HW.out]
        refine (HL1.out _ (Below.refl _ _)).mono ?_
        rintro e w1 ⟨rfl, hb1⟩
        clear x1 x2
        obtain ⟨x1, x2, -⟩ := B2.out.keep hb1
        go_wp2_with fail
        refine (HL2.out _ hb1).mono ?_
        rintro e w2 ⟨rfl, hb2⟩
        clear x1 x2
        have hb12 := below_step hb1 hb2
        obtain ⟨x1, x2, -⟩ := B3.out.keep hb12
        go_wp2_with fail
        refine (HIS.out _ hb12).mono ?_
        rintro e w3 ⟨rfl, hb3⟩
        clear x1 x2
        have hb13 := below_step hb12 hb3
        obtain ⟨x1, x2, -⟩ := B1.out.keep hb13
        obtain ⟨y1, y2, -⟩ := B2.out.keep hb13
        go_wp2_with fail
        refine (HTW.out _ hb13).mono ?_
        rintro e w4 ⟨rfl, hb4⟩
        clear x1 x2 y1 y2
        have hb14 := below_step hb13 hb4
        obtain ⟨x1, x2, -⟩ := B1.out.keep hb14
        obtain ⟨y1, y2, -⟩ := B3.out.keep hb14
        go_wp2_with fail
        refine (HC3.out _ hb14).mono ?_
        rintro e w5 ⟨rfl, hb5⟩
        clear x1 x2 y1 y2
        have HB9 := Lib.hid (below_step HB.out (below_step (below_alloc (.cells #[.int .i64 m1, .slice A1 n1 c1] 28) hb14) hb5))
        clear hb1 hb2 hb3 hb4 hb5 hb12 hb13 hb14
        go_wp2
        go_ret2
        exact ⟨rfl, HB9.out⟩
    · have HA : Hid (homM m t m' u m1 l = (false, codeL2 m t m' u)) := Lib.hid (by unfold homM codeH; rw [if_pos g3, if_neg h2, if_neg h2])
      rw [HA.out]
      obtain ⟨k1, k2⟩ := ne_facts h2
      obtain ⟨C, hC⟩ : ∃ C, codeL2 m t m' u = C := ⟨_, rfl⟩
      rw [hC] at HTW k1 k2 ⊢
      obtain ⟨L, hL⟩ : ∃ L, t.length = L := ⟨_, rfl⟩
      obtain ⟨L', hL'⟩ : ∃ L, u.length = L := ⟨_, rfl⟩
      obtain ⟨n1, hn1⟩ : ∃ L, l.length = L := ⟨_, rfl⟩
      rw [hL] at HL1 HTW HW B1 ⊢
      rw [hL'] at HL2 HTW HW B2 ⊢
      rw [hn1] at HIS HW B3 ⊢
      clear b1 b2 b3 hwb hW hr hr' hr1 g1 g2 g3 h2 hz hz' hl hL hL' hn1 HA hC
      obtain ⟨x1, x2, -⟩ := B1.out
      go_enter Try.func54, Try.ntmps54
      go_wp2_with fail
      rw [HW.out]
      refine (HL1.out _ (Below.refl _ _)).mono ?_
      rintro e w1 ⟨rfl, hb1⟩
      clear x1 x2
      obtain ⟨x1, x2, -⟩ := B2.out.keep hb1
      go_wp2_with fail
      refine (HL2.out _ hb1).mono ?_
      rintro e w2 ⟨rfl, hb2⟩
      clear x1 x2
      have hb12 := below_step hb1 hb2
      obtain ⟨x1, x2, -⟩ := B3.out.keep hb12
      go_wp2_with fail
      refine (HIS.out _ hb12).mono ?_
      rintro e w3 ⟨rfl, hb3⟩
      clear x1 x2
      have hb13 := below_step hb12 hb3
      obtain ⟨x1, x2, -⟩ := B1.out.keep hb13
      obtain ⟨y1, y2, -⟩ := B2.out.keep hb13
      go_wp2_with fail
      refine (HTW.out _ hb13).mono ?_
      rintro e w4 ⟨rfl, hb4⟩
      clear x1 x2 y1 y2
      have HB9 := Lib.hid (below_step HB.out (below_step hb13 hb4))
      clear hb1 hb2 hb3 hb4 hb12 hb13
      go_wp2
      go_ret2
      exact ⟨rfl, HB9.out⟩
  · have HA : Hid (homM m t m' u m1 l = (false, 1)) := Lib.hid (by unfold homM; rw [codeH_no h0, if_neg (by decide)])
    rw [HA.out]
    obtain ⟨x1, x2, -⟩ := b1
    obtain ⟨p, hp⟩ : ∃ p, isL m t = p := ⟨_, rfl⟩
    obtain ⟨q, hq⟩ : ∃ q, isL m' u = q := ⟨_, rfl⟩
    obtain ⟨r, hs⟩ : ∃ r, isS m1 l = r := ⟨_, rfl⟩
    rw [hp, hq, hs] at h0
    rw [hp] at HL1
    rw [hq] at HL2
    rw [hs] at HIS
    clear b2 b3 hwb hW hr hr' hr1 hz hz' hl HA hp hq hs HTW
    cases p with
    | false =>
      clear h0 HL2 HIS
      go_enter Try.func54, Try.ntmps54
      go_wp2_with fail
      rw [HW.out]
      refine (HL1.out _ (Below.refl _ _)).mono ?_
      rintro e w1 ⟨rfl, hb1⟩
      clear x1 x2
      have HB9 := Lib.hid (below_step HB.out hb1)
      clear hb1
      go_wp2
      go_ret2
      exact ⟨rfl, HB9.out⟩
    | true =>
      cases q with
      | false =>
        clear h0 HIS
        go_enter Try.func54, Try.ntmps54
        go_wp2_with fail
        rw [HW.out]
        refine (HL1.out _ (Below.refl _ _)).mono ?_
        rintro e w1 ⟨rfl, hb1⟩
        clear x1 x2
        obtain ⟨x1, x2, -⟩ := B2.out.keep hb1
        go_wp2_with fail
        refine (HL2.out _ hb1).mono ?_
        rintro e w2 ⟨rfl, hb2⟩
        clear x1 x2
        have HB9 := Lib.hid (below_step HB.out (below_step hb1 hb2))
        clear hb1 hb2
        go_wp2
        go_ret2
        exact ⟨rfl, HB9.out⟩
      | true =>
        have hr0 : r = false := by
          cases r with
          | false => rfl
          | true => exact absurd ⟨rfl, rfl, rfl⟩ h0
        subst hr0
        clear h0
        go_enter Try.func54, Try.ntmps54
        go_wp2_with fail
        rw [HW.out]
        refine (HL1.out _ (Below.refl _ _)).mono ?_
        rintro e w1 ⟨rfl, hb1⟩
        clear x1 x2
        obtain ⟨x1, x2, -⟩ := B2.out.keep hb1
        go_wp2_with fail
        refine (HL2.out _ hb1).mono ?_
        rintro e w2 ⟨rfl, hb2⟩
        clear x1 x2
        have hb12 := below_step hb1 hb2
        obtain ⟨x1, x2, -⟩ := B3.out.keep hb12
        go_wp2_with fail
        refine (HIS.out _ hb12).mono ?_
        rintro e w3 ⟨rfl, hb3⟩
        clear x1 x2
        have HB9 := Lib.hid (below_step HB.out (below_step hb12 hb3))
        clear hb1 hb2 hb3 hb12
        go_wp2
        go_ret2
        exact ⟨rfl, HB9.out⟩
end Go.Proofs.Ytpmbojbdppbkgaa

