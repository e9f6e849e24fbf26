/- Contracts of IsSymmetricPlane, of the program and of the model. -/
import Derived.Test.YtjgpdgoclianlaaPtu
import Derived.Test.YtjgpdgoclianlaaGop
import Derived.Deep.QuietTactic
import Derived.BigQuiet
namespace Go.Proofs.Ytjgpdgoclianlaa
open Go.RowKit Go.WideShapes Go.ChangeShapes Go.ChangeAt

/-- a table is the same with both variables exchanged -/
def symB (m : Int) (d : Nat) (t : List (List Int)) : Bool := decide (t = Pl.tab m d fun i j => Pl.pc t j i)
theorem symB_yes {m : Int} {d : Nat} {t : List (List Int)} (hs : Pl.Ok m d t) (h : ∀ i j, i + j ≤ d → Pl.pc t i j = Pl.pc t j i) : symB m d t = true := by
  unfold symB
  refine decide_eq_true ?_
  have h2 := hs.self
  rw [Pl.tab_congr (Pl.Eq.of m d h)] at h2
  exact h2
theorem symB_no {m : Int} {d : Nat} {t : List (List Int)} (hs : Pl.Ok m d t) (i j : Nat) (hij : i + j ≤ d) (h : ¬ Pl.pc t i j = Pl.pc t j i) : symB m d t = false := by
  unfold symB
  refine decide_eq_false (fun he => h ?_)
  have h2 : Pl.pc t i j = Pl.pc (Pl.tab m d fun i j => Pl.pc t j i) i j := congrArg (fun u => Pl.pc u i j) he
  rw [Pl.pc_tab hij, Int.emod_eq_of_lt (hs.pc j i).1 (hs.pc j i).2] at h2
  exact h2
def symP (m : Int) (t : List (List Int)) : Bool × Int := if codeP1 m t = 0 then (symB m (t.length - 1) t, 0) else (false, codeP1 m t)
theorem GBox.num' {W : World} {g : Nat} {m : Int} {d b off c L : Nat} {t : List (List Int)} (hb : GBox W g m d (some ⟨b, off, none⟩) L c) (hL : t.length = L) (hs : Pl.Ok m d t) (hr : RP W (some ⟨b, off, none⟩) t) (i j : Nat) (hij : i + j ≤ d) :
    ∃ b' off' c' N, N = d - i + 1 ∧ W.cell? ⟨g, 2, none⟩ = some (.slice (some ⟨b, off, none⟩) L c) ∧ W.cell? ⟨b, off + i, none⟩ = some (.slice (some ⟨b', off', none⟩) N c') ∧ W.cell? ⟨b', off' + j, none⟩ = some (.int .i64 (Pl.pc t i j)) := by
  subst hL
  obtain ⟨_, _, x2, _⟩ := hb
  obtain ⟨b0, off0, b', off', c', e, -, k1, -, k2⟩ := hr.num i j (by rw [hs.len]; omega) (by rw [hs.row i (by omega)]; omega)
  injection e with e
  injection e with e1 e2
  subst e1 e2
  exact ⟨b', off', c', _, hs.row i (by omega), x2, k1, k2⟩
set_option maxHeartbeats 2000000 in
set_option maxRecDepth 100000 in
theorem isSymmetric_any (m : Int) (d : Nat) (A : Option Addr) (c : Nat) (t : List (List Int)) (w : World) (hs : Pl.Ok m d t) (hr : RP w A t) :
    Calls Try.prog 76 #[.agg #[.int .i64 m, .int .i64 d, .slice A t.length c]] w fun e w' => e = .returned (.bool (symB m d t)) ∧ Below w.heap.size w w' := by
  obtain ⟨b, off, rfl⟩ := hr.some (by rw [hs.len]; omega)
  have HG1 := Lib.hid (GBox.new 66 w m d (some ⟨b, off, none⟩) t.length c)
  have HWB := Lib.hid (below_one w (.cells #[.int .i64 m, .int .i64 d, .slice (some ⟨b, off, none⟩) t.length c] 66))
  have HS := Lib.hid hs
  have hd2 := hs.d2
  have HLR := Lib.hid (fun (k : Nat) W (hk : k ≤ d) => lenRow_any m d k W (by have := hs.d2; omega) hk)
  obtain ⟨R, hR⟩ : ∃ R, symB m d t = R := ⟨_, rfl⟩
  rw [hR]
  have HY := Lib.hid (fun h => hR.symm.trans (symB_yes hs h))
  have HN := Lib.hid (fun i j hij h => hR.symm.trans (symB_no hs i j hij h))
  obtain ⟨L, hL⟩ : ∃ L, t.length = L := ⟨_, rfl⟩
  have HL := Lib.hid hL
  rw [hL] at HG1 HWB ⊢
  obtain ⟨W, hW⟩ : ∃ W, w.alloc (.cells #[.int .i64 m, .int .i64 d, .slice (some ⟨b, off, none⟩) L c] 66) = W := ⟨_, rfl⟩
  rw [hW] at HG1 HWB
  have HR := Lib.hid (hr.below HWB.out)
  have HW := Lib.hid hW
  clear hR hs hr hL hW
  obtain ⟨x0, x1, x2, x3⟩ := HG1.out
  go_enter Try.func76, Try.ntmps76
  go_wp2_with fail
  rw [HW.out]
  go_wp2
  clear x0 x1 x2 x3
  go_loopw [9] (fun q wr => ∃ k : Nat, k ≤ d + 1 ∧ q = .int .i64 k ∧ (∀ p q, p < k → p + q ≤ d → Pl.pc t p q = Pl.pc t q p) ∧ Below W.heap.size W wr) (fun q _ => d + 1 - (intOf q).toNat)
  case atStart => exact ⟨0, Nat.zero_le _, rfl, fun p q h => absurd h (Nat.not_lt_zero _), Below.refl _ _⟩
  case round =>
    obtain ⟨k, hk, rfl, hall, hbel⟩ := hrel
    have HB := Lib.hid hbel
    have HA := Lib.hid hall
    clear hall
    by_cases hlt : k < d + 1
    · obtain ⟨x0, x1, x2, x3⟩ := HG1.out.keep hbel
      have HLK := Lib.hid (fun W => HLR.out k W (by omega))
      obtain ⟨N, hN⟩ : ∃ N, d - k + 1 = N := ⟨_, rfl⟩
      rw [hN] at HLK
      have HNN := Lib.hid hN
      have hN1 : N ≤ 11 := by omega
      have j1 : (k : Int) < (d : Int) + 1 := by omega
      clear hbel hN
      go_wp2_with fail
      refine (HLK.out _).mono ?_
      rintro e w2 ⟨rfl, hb2⟩
      have HB2 := Lib.hid (below_step HB.out hb2)
      clear hb2 x0 x1 x2 x3
      go_wp2
      go_loopw [16] (fun q wr => ∃ l : Nat, l ≤ N ∧ q = .int .i64 l ∧ (∀ q, q < l → Pl.pc t k q = Pl.pc t q k) ∧ Below W.heap.size W wr) (fun q _ => N - (intOf q).toNat)
      case atStart => exact ⟨0, Nat.zero_le _, rfl, fun q h => absurd h (Nat.not_lt_zero _), HB2.out⟩
      case round =>
        clear HB HB2
        obtain ⟨l, hl, rfl, hall, hbel⟩ := hrel
        have HB := Lib.hid hbel
        have HA2 := Lib.hid hall
        clear hall
        by_cases hlt2 : l < N
        · have hNN := HNN.out
          obtain ⟨p1, p2, p3, M, hM, x1, x2, x3⟩ := (HG1.out.keep hbel).num' HL.out HS.out (HR.out.below hbel) k l (by omega)
          obtain ⟨q1, q2, q3, M', hM', y1, y2, y3⟩ := (HG1.out.keep hbel).num' HL.out HS.out (HR.out.below hbel) l k (by omega)
          clear y1
          have hne := HN.out k l (by omega)
          obtain ⟨X, hX⟩ : ∃ X, Pl.pc t k l = X := ⟨_, rfl⟩
          obtain ⟨Y, hY⟩ : ∃ Y, Pl.pc t l k = Y := ⟨_, rfl⟩
          rw [hX] at x3 hne
          rw [hY] at y3 hne
          have j2 : (0 : Int) ≤ (k : Int) := by omega
          have hLd := HL.out
          have hSl := HS.out.len
          have j3 : (k : Int) < (L : Int) := by omega
          have j4 : (0 : Int) ≤ (l : Int) := by omega
          have j5 : (l : Int) < (M : Int) := by omega
          have j8 : (l : Int) < (L : Int) := by omega
          have j9 : (k : Int) < (M' : Int) := by omega
          clear hbel hM hM' hNN hLd hSl
          by_cases hxy : X = Y
          · subst hxy
            have HX := Lib.hid (hX.trans hY.symm)
            clear hX hY hne
            go_wp2
            go_quiet (fail)
            go_wp2
            go_roundw
            case rel => exact ⟨l + 1, by omega, by go_num, fun q hq => (Nat.lt_succ_iff_lt_or_eq.1 hq).elim (HA2.out q) (fun h => h ▸ HX.out), below_drewN HB.out _⟩
            case measure => simp only [intOf]; omega
          · have hRf := hne hxy
            have HRF := Lib.hid hRf
            obtain ⟨n1, n2⟩ : (X == Y) = false ∧ (X != Y) = true := ⟨by simpa using hxy, by simpa using hxy⟩
            clear hX hY hne hRf
            go_wp2
            go_quiet (fail)
            go_wp2
            go_ret
            exact ⟨ret_bool HRF.out.symm, HWB.out.trans ((below_drewN HB.out _).mono HWB.out.size)⟩
        · obtain rfl : l = N := by omega
          clear hbel
          go_wp2
          go_roundw
          case rel => exact ⟨k + 1, by omega, by go_num, fun p q hp hpq => (Nat.lt_succ_iff_lt_or_eq.1 hp).elim (fun h => HA.out p q h hpq) (fun h => by subst h; exact HA2.out q (by have := HNN.out; omega)), HB.out⟩
          case measure => simp only [intOf]; omega
    · obtain rfl : k = d + 1 := by omega
      have HR1 := Lib.hid (HY.out (fun i j hij => HA.out i j (by omega) hij))
      clear hbel
      go_wp2
      go_ret
      exact ⟨ret_bool HR1.out.symm, HWB.out.trans (HB.out.mono HWB.out.size)⟩
set_option maxHeartbeats 1000000 in
theorem l01Same_q (A B : Option Addr) (c d : Nat) (l r : List Int) (w : World) (hl : l.length ≤ 10485760) (hr : r.length ≤ 10485760) (ha : RI w A l) (hb : RI w B r) :
    Calls Try.prog 112 #[.slice A l.length c, .slice B r.length d] w fun e w' => e = .returned (.bool (decide (l = r))) ∧ ∃ n, w' = w.drewN n := by
  obtain ⟨R, hR⟩ : ∃ R, decide (l = r) = R := ⟨_, rfl⟩
  rw [hR]
  by_cases hlen : r.length = l.length
  · have HY := Lib.hid (fun (h : ∀ j : Nat, j < l.length → l[j]?.getD 0 = r[j]?.getD 0) => hR.symm.trans (decide_eq_true (List.ext_getElem? (fun i => by
      by_cases hi : i < l.length
      · have := h i hi
        rw [List.getElem?_eq_getElem hi, List.getElem?_eq_getElem (by omega)] at this ⊢
        exact congrArg some this
      · rw [List.getElem?_eq_none (by omega), List.getElem?_eq_none (by omega)]))))
    have HN := Lib.hid (fun (j : Nat) (h : ¬ l[j]?.getD 0 = r[j]?.getD 0) => hR.symm.trans (decide_eq_false (fun he => h (congrArg (fun (u : List Int) => u[j]?.getD 0) he))))
    obtain ⟨N, hN⟩ : ∃ N, l.length = N := ⟨_, rfl⟩
    have HLL := Lib.hid hlen
    rw [hlen]
    rw [hN] at HY hl ⊢
    have HLN := Lib.hid hN
    clear hR hlen hN
    go_enter Try.func112, Try.ntmps112
    go_wp2
    go_loopw [5] (fun i wr => ∃ j n : Nat, j ≤ N ∧ i = .int .i64 j ∧ wr = w.drewN n ∧ ∀ q : Nat, q < j → l[q]?.getD 0 = r[q]?.getD 0) (fun i _ => N - (intOf i).toNat)
    case atStart => exact ⟨0, 0, Nat.zero_le _, rfl, rfl, fun q h => absurd h (Nat.not_lt_zero _)⟩
    case round =>
      obtain ⟨j, n, hj, rfl, hw, hall⟩ := hrel
      have HW := Lib.hid hw
      have HA := Lib.hid hall
      have hcell : ∀ p : Addr, wr.cell? p = w.cell? p := by intro p; rw [hw]; rfl
      clear hw hall
      by_cases hlt : j < N
      · have hN := HLN.out
        have hlen := HLL.out
        obtain ⟨b, off, rfl, hb1, hc1⟩ := ha (by rintro rfl; simp at hN; omega)
        obtain ⟨b', off', rfl, hb2, hc2⟩ := hb (by rintro rfl; simp at hlen; omega)
        have h1 := (hcell ⟨b, off + j, none⟩).trans (hc1 j (by omega))
        have h2 := (hcell ⟨b', off' + j, none⟩).trans (hc2 j (by omega))
        have hne := HN.out j
        obtain ⟨X, hX⟩ : ∃ x, l[j]?.getD 0 = x := ⟨_, rfl⟩
        obtain ⟨Y, hY⟩ : ∃ x, r[j]?.getD 0 = x := ⟨_, rfl⟩
        rw [hX] at h1 hne
        rw [hY] at h2 hne
        have j1 : (0 : Int) ≤ (j : Int) := by omega
        have j2 : (j : Int) < (N : Int) := by omega
        clear hc1 hc2 ha hb hcell hN hlen
        by_cases hxy : X = Y
        · subst hxy
          have HX := Lib.hid (hX.trans hY.symm)
          clear hX hY hne
          go_wp2
          go_quiet (fail)
          go_wp2
          go_roundw
          case rel => exact ⟨j + 1, n + nq, by omega, by go_num, by rw [HW.out, World.drewN_drewN], fun q hq => (Nat.lt_succ_iff_lt_or_eq.1 hq).elim (HA.out q) (fun h => h ▸ HX.out)⟩
          case measure => simp only [intOf]; omega
        · have HRF := Lib.hid (hne hxy)
          obtain ⟨n1, n2⟩ : (X == Y) = false ∧ (X != Y) = true := ⟨by simpa using hxy, by simpa using hxy⟩
          clear hX hY hne
          go_wp2
          go_quiet (fail)
          go_wp2
          go_ret
          exact ⟨ret_bool HRF.out.symm, n + nq, by rw [HW.out, World.drewN_drewN]⟩
      · obtain rfl : j = N := by omega
        have HRT := Lib.hid (HY.out HA.out)
        clear hcell
        go_wp2
        go_ret
        exact ⟨ret_bool HRT.out.symm, n, HW.out⟩
  · have hRf : R = false := by rw [← hR]; exact decide_eq_false (fun he => hlen (by rw [he]))
    have HRF := Lib.hid hRf
    have hlen2 : ¬ (l.length : Int) = (r.length : Int) := by omega
    obtain ⟨n1, n2⟩ : ((l.length : Int) == (r.length : Int)) = false ∧ ((l.length : Int) != (r.length : Int)) = true := ⟨by simpa using hlen2, by simpa using hlen2⟩
    obtain ⟨N, hN⟩ : ∃ N, l.length = N := ⟨_, rfl⟩
    obtain ⟨M, hM⟩ : ∃ M, r.length = M := ⟨_, rfl⟩
    rw [hN, hM] at n1 n2 hlen2
    rw [hN] at hl ⊢
    rw [hM] at hr ⊢
    clear hR hRf hlen hN hM ha hb
    go_enter Try.func112, Try.ntmps112
    go_wp2
    go_ret
    exact ⟨ret_bool HRF.out.symm, 0, rfl⟩
/-- rows of a table where they lie -/
def RowsAt (w : World) (A : Option Addr) (t : List (List Int)) : Prop := ∀ k, k < t.length → ∃ b off A' c', A = some ⟨b, off, none⟩ ∧ b < w.heap.size ∧ w.cell? ⟨b, off + k, none⟩ = some (.slice A' (Pl.rw' t k).length c') ∧ RI w A' (Pl.rw' t k)
theorem RP.rowsAt {w : World} {A : Option Addr} {t : List (List Int)} (h : RP w A t) : RowsAt w A t := by
  intro k hk
  obtain ⟨b, off, A', c', rfl, h1, h2, _, h3⟩ := h.at k hk
  exact ⟨b, off, A', c', rfl, h1, h2, h3⟩
set_option maxHeartbeats 1000000 in
theorem l01Same2_any (A B : Option Addr) (c d : Nat) (t u : List (List Int)) (w : World) (hlen : u.length = t.length) (hl : t.length ≤ 1000) (h1 : ∀ k, (Pl.rw' t k).length ≤ 10485760) (h2 : ∀ k, (Pl.rw' u k).length ≤ 10485760) (ha : RP w A t) (hb : RP w B u) :
    Calls Try.prog 75 #[.slice A t.length c, .slice B u.length d] w fun e w' => e = .returned (.bool (decide (t = u))) ∧ Below w.heap.size w w' := by
  have HA1 := Lib.hid ha.rowsAt
  have HB1 := Lib.hid hb.rowsAt
  obtain ⟨R, hR⟩ : ∃ R, decide (t = u) = R := ⟨_, rfl⟩
  rw [hR]
  have HY := Lib.hid (fun (h : ∀ j, j < t.length → Pl.rw' t j = Pl.rw' u j) => hR.symm.trans (decide_eq_true (List.ext_getElem? (fun i => by
    by_cases hi : i < t.length
    · have := h i hi
      unfold Pl.rw' at this
      rw [List.getElem?_eq_getElem hi, List.getElem?_eq_getElem (by omega)] at this ⊢
      exact congrArg some this
    · rw [List.getElem?_eq_none (by omega), List.getElem?_eq_none (by omega)]))))
  have HN := Lib.hid (fun j (h : ¬ Pl.rw' t j = Pl.rw' u j) => hR.symm.trans (decide_eq_false (fun he => h (congrArg (fun u => Pl.rw' u j) he))))
  have H1 := Lib.hid h1
  have H2 := Lib.hid h2
  obtain ⟨N, hN⟩ : ∃ N, t.length = N := ⟨_, rfl⟩
  have HLL := Lib.hid hlen
  rw [hlen]
  rw [hN] at HY hl ⊢
  have HLN := Lib.hid hN
  clear hR hlen hN ha hb h1 h2
  go_enter Try.func75, Try.ntmps75
  go_wp2
  go_loopw [5] (fun i wr => ∃ j : Nat, j ≤ N ∧ i = .int .i64 j ∧ Below w.heap.size w wr ∧ ∀ q, q < j → Pl.rw' t q = Pl.rw' u q) (fun i _ => N - (intOf i).toNat)
  case atStart => exact ⟨0, Nat.zero_le _, rfl, Below.refl _ _, fun q h => absurd h (Nat.not_lt_zero _)⟩
  case round =>
    obtain ⟨j, hj, rfl, hbel, hall⟩ := hrel
    have HB := Lib.hid hbel
    have HA := Lib.hid hall
    clear hbel hall
    by_cases hlt : j < N
    · have hN := HLN.out
      have hlen := HLL.out
      obtain ⟨b, off, A1, c1, rfl, g1, k1, r1⟩ := HA1.out j (by omega)
      obtain ⟨b', off', A2, c2, rfl, g2, k2, r2⟩ := HB1.out j (by omega)
      have e1 := (HB.out.cell (p := ⟨b, off + j, none⟩) g1).trans k1
      have e2 := (HB.out.cell (p := ⟨b', off' + j, none⟩) g2).trans k2
      have hne := HN.out j
      have b1 := H1.out j
      have b2 := H2.out j
      obtain ⟨X, hX⟩ : ∃ x, Pl.rw' t j = x := ⟨_, rfl⟩
      obtain ⟨Y, hY⟩ : ∃ x, Pl.rw' u j = x := ⟨_, rfl⟩
      rw [hX] at e1 hne b1 r1
      rw [hY] at e2 hne b2 r2
      have R1 := Lib.hid (r1.below HB.out)
      have R2 := Lib.hid (r2.below HB.out)
      have j1 : (0 : Int) ≤ (j : Int) := by omega
      have j2 : (j : Int) < (N : Int) := by omega
      by_cases hxy : X = Y
      · have HX := Lib.hid (hX.trans (hxy.trans hY.symm))
        have HQ := Lib.hid (fun n => by have := l01Same_q A1 A2 c1 c2 X Y (wr.drewN n) b1 b2 R1.out R2.out; rw [decide_eq_true hxy] at this; exact this)
        clear hX hY hne k1 k2 r1 r2 hN hlen hxy b1 b2
        obtain ⟨n1, hn1⟩ : ∃ n, X.length = n := ⟨_, rfl⟩
        obtain ⟨n2, hn2⟩ : ∃ n, Y.length = n := ⟨_, rfl⟩
        rw [hn1] at e1 HQ
        rw [hn2] at e2 HQ
        clear hn1 hn2
        go_wp2
        go_quiet ((go_at_call 112; exact Calls.quiet_of (HQ.out _)))
        go_wp2
        go_roundw
        case rel => exact ⟨j + 1, by omega, by go_num, below_drewN HB.out _, fun q hq => (Nat.lt_succ_iff_lt_or_eq.1 hq).elim (HA.out q) (fun h => h ▸ HX.out)⟩
        case measure => simp only [intOf]; omega
      · have HRF := Lib.hid (hne hxy)
        have HQ := Lib.hid (fun n => by have := l01Same_q A1 A2 c1 c2 X Y (wr.drewN n) b1 b2 R1.out R2.out; rw [decide_eq_false hxy] at this; exact this)
        clear hX hY hne k1 k2 r1 r2 hN hlen hxy b1 b2
        obtain ⟨n1, hn1⟩ : ∃ n, X.length = n := ⟨_, rfl⟩
        obtain ⟨n2, hn2⟩ : ∃ n, Y.length = n := ⟨_, rfl⟩
        rw [hn1] at e1 HQ
        rw [hn2] at e2 HQ
        clear hn1 hn2
        go_wp2
        go_quiet ((go_at_call 112; exact Calls.quiet_of (HQ.out _)))
        go_wp2
        go_ret
        exact ⟨ret_bool HRF.out.symm, below_drewN HB.out _⟩
    · obtain rfl : j = N := by omega
      have HRT := Lib.hid (HY.out HA.out)
      go_wp2
      go_ret
      exact ⟨ret_bool HRT.out.symm, HB.out⟩
set_option maxHeartbeats 4000000 in
set_option maxRecDepth 100000 in
theorem IsSymmetricPlane_any (m : Int) (A : Option Addr) (c : Nat) (t : List (List Int)) (w : World) (hz : szT t ≤ 1048576) (hr : RP w A t) :
    Calls Try.prog 32 #[.agg #[.int .i64 m, .slice A t.length c]] w fun e w' => e = .returned (.tuple #[.bool (symP m t).1, .int .i64 (symP m t).2]) ∧ Below w.heap.size w w' := by
  obtain ⟨W, hW, b1, b4, hwb⟩ := startB2 27 27 w m A t.length c m A t.length c
  have B1 := Lib.hid b1
  have HB := Lib.hid hwb
  have HW := Lib.hid hW
  have HC := Lib.hid (codeOfPlanes1_any (w.heap.size + 1) m A c t W hz (hr.below hwb) b4)
  by_cases h0 : codeP1 m t = 0
  · obtain ⟨d, e1, ok⟩ := plOk_of (codeP1_zero h0)
    have HA : Hid (symP m t = (symB m d t, 0)) := Lib.hid (by unfold symP; rw [if_pos h0, e1]; rfl)
    rw [HA.out]
    have HG := Lib.hid (fun W0 => gridOf_nat m A t.length c d W0 e1 (by have := ok.d2; omega))
    have HP := Lib.hid (fun W0 (h : Below W.heap.size W W0) => isSymmetric_any m d A c t W0 ok ((hr.below hwb).below h))
    have hc := HC.out
    rw [h0] at hc
    have HC0 := Lib.hid hc
    obtain ⟨R, hR⟩ : ∃ R, symB m d t = R := ⟨_, rfl⟩
    rw [hR] at HP ⊢
    clear b1 b4 hwb hW hr hc HC h0 ok hR e1 hz
    go_enter Try.func32, Try.ntmps32
    go_wp2_with fail
    rw [HW.out]
    refine HC0.out.mono ?_
    rintro e w1 ⟨rfl, hb1⟩
    obtain ⟨x1, x2, x3⟩ := B1.out.keep hb1
    go_wp2_with fail
    refine (HG.out _).mono ?_
    rintro e w2 ⟨rfl, hb2⟩
    go_wp2_with fail
    refine (HP.out _ (below_step hb1 hb2)).mono ?_
    rintro e w3 ⟨rfl, hb3⟩
    go_wp2
    go_ret2
    exact ⟨rfl, below_step HB.out (below_step (below_step hb1 hb2) hb3)⟩
  · have HA : Hid (symP m t = (false, codeP1 m t)) := Lib.hid (by unfold symP; rw [if_neg h0])
    rw [HA.out]
    clear b1 b4 hwb hW hr hz
    obtain ⟨n1, n2⟩ := ne_facts h0
    obtain ⟨C, hC⟩ : ∃ C, codeP1 m t = C := ⟨_, rfl⟩
    have hc := HC.out
    rw [hC] at n1 n2 h0 hc ⊢
    have HC0 := Lib.hid hc
    clear hc HC hC
    go_enter Try.func32, Try.ntmps32
    go_wp2_with fail
    rw [HW.out]
    refine HC0.out.mono ?_
    rintro e w1 ⟨rfl, hb1⟩
    go_wp2
    go_ret2
    exact ⟨rfl, below_step HB.out hb1⟩
theorem row_le {t : List (List Int)} (h : szT t ≤ 1048576) (k : Nat) : (Pl.rw' t k).length ≤ 10485760 := by
  have := tot_row t k
  unfold szT at h
  omega
set_option maxHeartbeats 4000000 in
set_option maxRecDepth 100000 in
theorem sIsSymmetricPlane_any (m : Int) (A : Option Addr) (c : Nat) (t : List (List Int)) (w : World) (hz : szT t ≤ 1048576) (hr : RP w A t) :
    Calls Try.prog 31 #[.agg #[.int .i64 m, .slice A t.length c]] w fun e w' => e = .returned (.tuple #[.bool (symP m t).1, .int .i64 (symP m t).2]) ∧ Below w.heap.size w w' := by
  obtain ⟨W, hW, b1, hwb⟩ := start1 27 w m A t.length c
  have B1 := Lib.hid b1
  have HB := Lib.hid hwb
  have HW := Lib.hid hW
  have HC := Lib.hid (l03Is_z m A c t W hz (hr.below hwb))
  by_cases h0 : isP m t = true
  · obtain ⟨d, e1, ok⟩ := plOk_of h0
    have HA : Hid (symP m t = (decide (t = Pl.tab m d fun i j => Pl.pc t j i), 0)) := Lib.hid (by unfold symP; rw [if_pos (codeP1_yes h0), e1]; rfl)
    rw [HA.out]
    have HP := Lib.hid (fun W0 (h : Below W.heap.size W W0) => l03Turn_any m d A c t W0 ok ((hr.below hwb).below h))
    have hc := HC.out
    rw [h0] at hc
    have HC0 := Lib.hid hc
    have hTl : (Pl.tab m d fun i j => Pl.pc t j i).length = t.length := by rw [Pl.tab_length, e1]
    have hTz := row_le (szT_ok (ok.tab fun i j => Pl.pc t j i))
    obtain ⟨T, hT⟩ : ∃ T, (Pl.tab m d fun i j => Pl.pc t j i) = T := ⟨_, rfl⟩
    rw [hT] at HP hTl hTz ⊢
    have HQ := Lib.hid (fun W0 B d0 (h : Below W.heap.size W W0) (hb : RP W0 B T) => l01Same2_any A B c d0 t T W0 hTl (by have := ok.d2; omega) (row_le hz) hTz ((hr.below hwb).below h) hb)
    obtain ⟨R, hR⟩ : ∃ R, decide (t = T) = R := ⟨_, rfl⟩
    rw [hR] at HQ ⊢
    have HTL := Lib.hid hTl
    obtain ⟨L, hL⟩ : ∃ L, t.length = L := ⟨_, rfl⟩
    rw [hL] at HW B1 HP HC0 HQ HTL ⊢
    rw [HTL.out] at HQ
    clear b1 hwb hW hr hc HC h0 ok hT hz e1 hL hTl hTz hR
    go_enter Try.func31, Try.ntmps31
    go_wp2_with fail
    rw [HW.out]
    refine HC0.out.mono ?_
    rintro e w0 ⟨rfl, hb0⟩
    obtain ⟨x1, x2, x3⟩ := B1.out.keep hb0
    go_wp2
    go_region_held3 (fun w' => w'.cell? ⟨w.heap.size, 0, none⟩ = some (.int .i64 m) ∧ w'.cell? ⟨w.heap.size, 1, none⟩ = some (.slice A L c) ∧ w.heap.size < w'.heap.size) (first | exact ⟨x1, x2, x3⟩ | exact box_store (by omega) (by assumption) | exact box_call (by assumption) (by assumption)) (first
      | (go_at_call 73; refine (HP.out _ (below_step hb0 (below_drew0 _))).mono ?_; rintro e2 w2 ⟨s, rfl, ho, hb2⟩; obtain ⟨A2, c2, rfl, hrp⟩ := ho.len; rw [HTL.out])
      | (go_at_call 75; refine (HQ.out _ _ _ (below_step (below_step hb0 (below_drew0 _)) hb2) hrp).mono ?_; rintro e3 w3 ⟨rfl, hb3⟩))
    all_goals
      have hw3 := below_step (below_step (below_step hb0 (below_drew0 _)) hb2) hb3
      clear hb0 hb2 hb3 ho hrp
      go_wp2
      go_ret2
      exact ⟨rfl, below_step HB.out hw3⟩
  · have h0' : isP m t = false := by simpa using h0
    have HA : Hid (symP m t = (false, 1)) := Lib.hid (by unfold symP; rw [codeP1_no h0', if_neg (by decide)])
    rw [HA.out]
    have hc := HC.out
    rw [h0'] at hc
    have HC0 := Lib.hid hc
    clear b1 hwb hW hr hz hc HC h0 h0'
    go_enter Try.func31, Try.ntmps31
    go_wp2_with fail
    rw [HW.out]
    refine HC0.out.mono ?_
    rintro e w1 ⟨rfl, hb1⟩
    go_wp2
    go_ret2
    exact ⟨rfl, below_step HB.out hb1⟩
end Go.Proofs.Ytjgpdgoclianlaa
