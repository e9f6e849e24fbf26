/- Texts of contracts, joined. -/
import Derived.Test.YtfhdgcndiljjcaaGreatDoorMgaf
import Derived.Test.YtfhdgcndiljjcaaGreatDoorMgag
import Derived.Test.YtfhdgcndiljjcaaGreatDoorMgab
import Derived.Test.YtfhdgcndiljjcaaGreatDoorMgam
/- Contracts of layers and of the agreement of two laws. -/
namespace Go.Proofs.YtfhdgcndiljjcaaGreatDoor
open Go.RowKit Go.WideShapes Go.ChangeShapes Go.ChangeAt

/-- the coefficients of one degree -/
def layC (m : Int) (t : List (List Int)) (n : Nat) : List Int := Ser.cut m n fun i => Pl.pc t i (n - i)
theorem layC_length (m : Int) (t : List (List Int)) (n : Nat) : (layC m t n).length = n + 1 := Ser.cut_length _ _ _
theorem layC_co {m : Int} {d : Nat} {t : List (List Int)} (hs : Pl.Ok m d t) (n i : Nat) (h : i ≤ n) : Ser.co (layC m t n) i = Pl.pc t i (n - i) := by
  unfold layC
  rw [Ser.co_cut h]
  have := hs.pc i (n - i)
  exact Int.emod_eq_of_lt this.1 this.2
/-- two tables agree in one degree -/
def eqL (m : Int) (t t' : List (List Int)) (n : Nat) : Bool := decide (layC m t n = layC m t' n)
theorem eqL_yes {m : Int} {d : Nat} {t t' : List (List Int)} (hs : Pl.Ok m d t) (hs' : Pl.Ok m d t') (n : Nat) (h : ∀ i, i ≤ n → Pl.pc t i (n - i) = Pl.pc t' i (n - i)) : eqL m t t' n = true :=
  list_same (by rw [layC_length, layC_length]) (fun j hj => by
    rw [layC_length] at hj
    rw [layC_co hs n j (by omega), layC_co hs' n j (by omega), h j (by omega)])
theorem eqL_no {m : Int} {d : Nat} {t t' : List (List Int)} (hs : Pl.Ok m d t) (hs' : Pl.Ok m d t') (n i : Nat) (hi : i ≤ n) (h : ¬ Pl.pc t i (n - i) = Pl.pc t' i (n - i)) : eqL m t t' n = false :=
  list_ne i (by rw [layC_co hs n i hi, layC_co hs' n i hi]; exact h)
/-- from k on, as far as the next degree agrees -/
def agr (E : Nat → Bool) : Nat → Nat → Nat
  | 0, k => k
  | n + 1, k => if E (k + 1) = true then agr E n (k + 1) else k
theorem agr_go {E : Nat → Bool} {d k o : Nat} (hk : k < d) (h : agr E (d - k) k = o) (he : E (k + 1) = true) : agr E (d - (k + 1)) (k + 1) = o := by
  rw [show d - k = (d - (k + 1)) + 1 by omega, agr, if_pos he] at h
  exact h
theorem agr_no {E : Nat → Bool} {d k o : Nat} (hk : k < d) (h : agr E (d - k) k = o) (he : E (k + 1) = false) : o = k := by
  rw [show d - k = (d - (k + 1)) + 1 by omega, agr, if_neg (by rw [he]; decide)] at h
  exact h.symm
theorem agr_le (E : Nat → Bool) : ∀ n k, k ≤ agr E n k ∧ agr E n k ≤ k + n := by
  intro n
  induction n with
  | zero => intro k; exact ⟨Nat.le_refl _, Nat.le_refl _⟩
  | succ n ih =>
    intro k
    rw [agr]
    split
    · have := ih (k + 1); omega
    · omega
/-- laws agree in degree 1 -/
theorem law_one {m : Int} {d : Nat} {t t' : List (List Int)} (hs : Pl.Ok m d t) (hs' : Pl.Ok m d t') (h : Pl.fau m d (Pl.pc t) = none) (h' : Pl.fau m d (Pl.pc t') = none) : eqL m t t' 1 = true := by
  have hd1 := hs.d1
  have key : ∀ {u : List (List Int)}, Pl.Ok m d u → Pl.fau m d (Pl.pc u) = none → ∀ i, i ≤ 1 → Pl.pc u i (1 - i) = 1 := by
    intro u hu hf i hi
    have hN : Pl.fauP d (Pl.pc u) = none ∧ Pl.fauS d (Pl.pc u) = none := by
      unfold Pl.fau at hf
      cases h1 : Pl.fauP d (Pl.pc u) with
      | some x => rw [h1] at hf; cases hf
      | none =>
        rw [h1, Pl.orE_none] at hf
        cases h2 : Pl.fauS d (Pl.pc u) with
        | some x => rw [h2] at hf; cases hf
        | none => exact ⟨rfl, rfl⟩
    have hn := Pl.norm_of hN.1 hN.2 (fun i j hij => hu.over i j hij)
    match i, hi with
    | 0, _ => exact (hn.y 1 (by omega)).trans rfl
    | 1, _ => exact (hn.x 1 (by omega)).trans rfl
  exact eqL_yes hs hs' 1 (fun i hi => by rw [key hs h i hi, key hs' h' i hi])
end Go.Proofs.YtfhdgcndiljjcaaGreatDoor

/- Contracts of AgreementOf, of the program and of the model. -/
namespace Go.Proofs.YtfhdgcndiljjcaaGreatDoor
open Go.RowKit Go.WideShapes Go.ChangeShapes Go.ChangeAt

/-- two grids' boxes and the way from W, in the walk's form, are kept by a call -/
theorem gg_keep {W w w' : World} {g g' : Nat} {x y z x' y' z' : Value} (hb : Below w.heap.size w w')
    (h : (w.cell? ⟨g, 0, none⟩ = some x ∧ w.cell? ⟨g, 1, none⟩ = some y ∧ w.cell? ⟨g, 2, none⟩ = some z ∧ g < w.heap.size) ∧ (w.cell? ⟨g', 0, none⟩ = some x' ∧ w.cell? ⟨g', 1, none⟩ = some y' ∧ w.cell? ⟨g', 2, none⟩ = some z' ∧ g' < w.heap.size) ∧ Below W.heap.size W w) :
    (w'.cell? ⟨g, 0, none⟩ = some x ∧ w'.cell? ⟨g, 1, none⟩ = some y ∧ w'.cell? ⟨g, 2, none⟩ = some z ∧ g < w'.heap.size) ∧ (w'.cell? ⟨g', 0, none⟩ = some x' ∧ w'.cell? ⟨g', 1, none⟩ = some y' ∧ w'.cell? ⟨g', 2, none⟩ = some z' ∧ g' < w'.heap.size) ∧ Below W.heap.size W w' :=
  ⟨gb_keep hb h.1, gb_keep hb h.2.1, below_step h.2.2 hb⟩
end Go.Proofs.YtfhdgcndiljjcaaGreatDoor

/- Contracts of AgreementOf, of the program and of the model. -/
namespace Go.Proofs.YtfhdgcndiljjcaaGreatDoor
open Go.RowKit Go.WideShapes Go.ChangeShapes Go.ChangeAt

theorem codeL2_ok {m : Int} {t : List (List Int)} {m' : Int} {t' : List (List Int)} (h : codeL2 m t m' t' = 0) :
    m = m' ∧ ∃ d, t.length = d + 1 ∧ t'.length = d + 1 ∧ Pl.Ok m d t ∧ Pl.Ok m d t' ∧ eqL m t t' 1 = true := by
  unfold codeL2 at h
  by_cases h1 : isL m t = true ∧ isL m' t' = true
  · rw [if_pos h1] at h
    by_cases h2 : m = m' ∧ t.length = t'.length
    · obtain ⟨rfl, h3⟩ := h2
      obtain ⟨_, d, e, ok, hf⟩ := isL_of h1.1
      obtain ⟨_, d', e', ok', hf'⟩ := isL_of h1.2
      obtain rfl : d' = d := by omega
      exact ⟨rfl, d', e, e', ok, ok', law_one ok ok' hf hf'⟩
    · rw [if_neg h2] at h; exact absurd h (by decide)
  · rw [if_neg h1] at h; exact absurd h (by decide)
/-- the model of AgreementOf -/
def agrL (m : Int) (t : List (List Int)) (m' : Int) (t' : List (List Int)) : Int × Int := if codeL2 m t m' t' = 0 then (((agr (eqL m t t') (t.length - 1) 0 : Nat) : Int), 0) else (0, codeL2 m t m' t')
/-- two planes' boxes and the list of both -/
theorem proTT (w : World) (m : Int) (A : Option Addr) (n c : Nat) (m' : Int) (A' : Option Addr) (n' c' : Nat) : ∃ W, ((w.alloc (.cells #[.int .i64 m, .slice A n c] 28)).alloc (.cells #[.int .i64 m', .slice A' n' c'] 28)).alloc (.cells #[.int .i64 m, .slice A n c, .int .i64 m', .slice A' n' c'] 28) = W ∧
    Box W w.heap.size m A n c ∧ Box W (w.heap.size + 1) m' A' n' c' ∧ Box4 W (w.heap.size + 1 + 1) m A n c m' A' n' c' ∧ Below w.heap.size w W := by
  obtain ⟨W0, h0, h1, h2, h4⟩ := start2 28 w m A n c m' A' n' c'
  have hs : W0.heap.size = w.heap.size + 1 + 1 := by rw [← h0]; simp
  rw [h0]
  refine ⟨_, rfl, h1.keep (below_one _ _), h2.keep (below_one _ _), ?_, below_alloc _ h4⟩
  have hv := VarC.new 28 W0 #[.int .i64 m, .slice A n c, .int .i64 m', .slice A' n' c']
  rw [hs] at hv
  exact ⟨⟨hv.cell 0 _ rfl, hv.cell 1 _ rfl, hv.lt⟩, hv.cell 2 _ rfl, hv.cell 3 _ rfl⟩
/-- two planes' boxes and the way from W, in the walk's form, are kept by a call -/
theorem bb_keep {W w w' : World} {g g' : Nat} {x y x' y' : Value} (hb : Below w.heap.size w w')
    (h : (w.cell? ⟨g, 0, none⟩ = some x ∧ w.cell? ⟨g, 1, none⟩ = some y ∧ g < w.heap.size) ∧ (w.cell? ⟨g', 0, none⟩ = some x' ∧ w.cell? ⟨g', 1, none⟩ = some y' ∧ g' < w.heap.size) ∧ Below W.heap.size W w) :
    (w'.cell? ⟨g, 0, none⟩ = some x ∧ w'.cell? ⟨g, 1, none⟩ = some y ∧ g < w'.heap.size) ∧ (w'.cell? ⟨g', 0, none⟩ = some x' ∧ w'.cell? ⟨g', 1, none⟩ = some y' ∧ g' < w'.heap.size) ∧ Below W.heap.size W w' :=
  ⟨⟨(hb.cell (p := ⟨g, 0, none⟩) h.1.2.2).trans h.1.1, (hb.cell (p := ⟨g, 1, none⟩) h.1.2.2).trans h.1.2.1, Nat.lt_of_lt_of_le h.1.2.2 hb.size⟩,
   ⟨(hb.cell (p := ⟨g', 0, none⟩) h.2.1.2.2).trans h.2.1.1, (hb.cell (p := ⟨g', 1, none⟩) h.2.1.2.2).trans h.2.1.2.1, Nat.lt_of_lt_of_le h.2.1.2.2 hb.size⟩, below_step h.2.2 hb⟩
/-! the model -/
set_option maxHeartbeats 8000000 in
set_option maxRecDepth 100000 in
theorem l04Two_any (m : Int) (A : Option Addr) (c : Nat) (t : List (List Int)) (m' : Int) (A' : Option Addr) (c' : Nat) (t' : List (List Int)) (w : World) (hz : szT t ≤ 1048576) (hz' : szT t' ≤ 1048576) (hr : RP w A t) (hr' : RP w A' t') :
    Calls Tryz.prog 36 #[.agg #[.int .i64 m, .slice A t.length c], .agg #[.int .i64 m', .slice A' t'.length c']] w fun e w' => e = .returned (.int .i64 (codeL2 m t m' t')) ∧ Below w.heap.size w w' := by
  obtain ⟨W, hW, b1, b2, hwb⟩ := start2 28 w m A t.length c m' A' t'.length c'
  have B1 := Lib.hid b1
  have B2 := Lib.hid b2
  have HB := Lib.hid hwb
  have HW := Lib.hid hW
  have HI := Lib.hid (fun W0 (h : Below W.heap.size W W0) => l04Is_any m A c t W0 hz ((hr.below hwb).below h))
  have HI' := Lib.hid (fun W0 (h : Below W.heap.size W W0) => l04Is_any m' A' c' t' W0 hz' ((hr'.below hwb).below h))
  have hlb := lenT hz
  have hlb' := lenT hz'
  unfold codeL2
  obtain ⟨p, hp⟩ : ∃ p, isL m t = p := ⟨_, rfl⟩
  obtain ⟨q, hq⟩ : ∃ q, isL m' t' = q := ⟨_, rfl⟩
  rw [hp] at HI ⊢
  rw [hq] at HI' ⊢
  obtain ⟨L, hL⟩ : ∃ L, t.length = L := ⟨_, rfl⟩
  obtain ⟨L', hL'⟩ : ∃ L, t'.length = L := ⟨_, rfl⟩
  rw [hL] at HI HW B1 hlb ⊢
  rw [hL'] at HI' HW B2 hlb' ⊢
  clear b1 b2 hwb hW hr hr' hz hz' hp hq hL hL'
  cases p with
  | false =>
    rw [if_neg (fun h => absurd h.1 (by decide))]
    go_enter Tryz.func36, Tryz.ntmps36
    go_wp2_with fail
    rw [HW.out]
    refine (HI.out _ (Below.refl _ _)).mono ?_
    rintro e w1 ⟨rfl, hb1⟩
    have HB1 := Lib.hid (below_step HB.out hb1)
    clear hb1
    go_wp2
    go_ret
    exact ⟨rfl, HB1.out⟩
  | true =>
    cases q with
    | false =>
      rw [if_neg (fun h => absurd h.2 (by decide))]
      go_enter Tryz.func36, Tryz.ntmps36
      go_wp2_with fail
      rw [HW.out]
      refine (HI.out _ (Below.refl _ _)).mono ?_
      rintro e w1 ⟨rfl, hb1⟩
      obtain ⟨y1, y2, -⟩ := B2.out.keep hb1
      go_wp2_with fail
      refine (HI'.out _ hb1).mono ?_
      rintro e w2 ⟨rfl, hb2⟩
      have HB1 := Lib.hid (below_step HB.out (below_step hb1 hb2))
      clear hb1 hb2 y1 y2
      go_wp2
      go_ret
      exact ⟨rfl, HB1.out⟩
    | true =>
      rw [if_pos ⟨rfl, rfl⟩]
      obtain ⟨R, hR⟩ : ∃ R, (if m = m' ∧ L = L' then (0 : Int) else 2) = R := ⟨_, rfl⟩
      rw [hR]
      go_enter Tryz.func36, Tryz.ntmps36
      go_wp2_with fail
      rw [HW.out]
      refine (HI.out _ (Below.refl _ _)).mono ?_
      rintro e w1 ⟨rfl, hb1⟩
      obtain ⟨y1, y2, -⟩ := B2.out.keep hb1
      go_wp2_with fail
      refine (HI'.out _ hb1).mono ?_
      rintro e w2 ⟨rfl, hb2⟩
      have hb3 := below_step hb1 hb2
      clear y1 y2
      obtain ⟨x1, x2, -⟩ := B1.out.keep hb3
      obtain ⟨y1, y2, -⟩ := B2.out.keep hb3
      have HB1 := Lib.hid (below_step HB.out hb3)
      clear hb1 hb2 hb3
      by_cases hm : m = m'
      · subst hm
        by_cases hd : L = L'
        · subst hd
          have HR : Hid (R = 0) := Lib.hid (by rw [← hR, if_pos ⟨rfl, rfl⟩])
          clear hR
          go_wp2
          go_ret
          exact ⟨ret_int HR.out.symm, HB1.out⟩
        · have HR : Hid (R = 2) := Lib.hid (by rw [← hR, if_neg (fun h => hd h.2)])
          have hi : ¬ (L : Int) = (L' : Int) := by omega
          obtain ⟨n1, n2⟩ : ((L : Int) == (L' : Int)) = false ∧ ((L : Int) != (L' : Int)) = true := ⟨by simpa using hi, by simpa using hi⟩
          clear hR hd
          go_wp2
          go_ret
          exact ⟨ret_int HR.out.symm, HB1.out⟩
      · have HR : Hid (R = 2) := Lib.hid (by rw [← hR, if_neg (fun h => hm h.1)])
        obtain ⟨n1, n2⟩ : (m == m') = false ∧ (m != m') = true := ⟨by simpa using hm, by simpa using hm⟩
        clear hR
        go_wp2
        go_ret
        exact ⟨ret_int HR.out.symm, HB1.out⟩
end Go.Proofs.YtfhdgcndiljjcaaGreatDoor

/- Contract of AreSameHeight, of the program. -/
namespace Go.Proofs.YtfhdgcndiljjcaaGreatDoor
open Go Go.RowKit Go.WideShapes Go.ChangeShapes Go.ChangeAt

theorem codeL2_isL {m m' : Int} {t t' : List (List Int)} (h : codeL2 m t m' t' = 0) : isL m t = true ∧ isL m' t' = true ∧ m = m' ∧ t.length = t'.length := by
  unfold codeL2 at h
  by_cases h1 : isL m t = true ∧ isL m' t' = true
  · rw [if_pos h1] at h
    by_cases h2 : m = m' ∧ t.length = t'.length
    · exact ⟨h1.1, h1.2, h2.1, h2.2⟩
    · rw [if_neg h2] at h; omega
  · rw [if_neg h1] at h; omega
theorem stM_code {m : Int} {t : List (List Int)} (h0 : isL m t = true) (hp : isP4 m = true) : (stM m t).2.2.2 ≠ 5 := by
  have hc : codeH m t = 0 := by unfold codeH; rw [if_pos h0, if_pos hp]
  unfold stM
  rw [if_pos hc]
  split
  · show (4 : Int) ≠ 5; omega
  · show (0 : Int) ≠ 5; omega
theorem stM_no {m : Int} {t : List (List Int)} (h0 : isL m t = true) (hp : ¬ isP4 m = true) : stM m t = (0, 0, [], 5) := by
  have hc : codeH m t = 5 := by unfold codeH; rw [if_pos h0, if_neg hp]
  unfold stM
  rw [hc, if_neg (by omega)]
/-- a law's stature, its error, and what that means -/
theorem stature_law (m : Int) (A : Option Addr) (c d : Nat) (t : List (List Int)) (w : World) (hr : RP w A t) (h0 : isL m t = true) (e1 : t.length = d + 1) (hE : ErrT w) (z : Value) (hZ : ErrZ w z) :
    ∃ x, (∀ W0, Below w.heap.size w W0 → Calls Tryz.prog 40 #[.agg #[.int .i64 m, .int .i64 d, .slice A t.length c]] W0 fun e w' => ∃ v, e = .returned (.tuple #[.agg #[.int .i64 (stM m t).1, .int .i64 (stM m t).2.1, v], x]) ∧ OwnI w' W0.heap.size v (stM m t).2.2.1 ∧ Below W0.heap.size W0 w') ∧
      (∀ W0, Below w.heap.size w W0 → Calls Tryz.prog 41 #[x] W0 fun e w' => e = .returned (.int .i64 (stM m t).2.2.2) ∧ Below W0.heap.size W0 w') := by
  have hw0 : 0 < w.heap.size := Nat.lt_trans Nat.zero_lt_one hE.lt
  obtain ⟨-, d', e2, ok', hf'⟩ := isL_of h0
  obtain rfl : d' = d := by omega
  by_cases hp : isP4 m = true
  · have hcH : codeH m t = 0 := by unfold codeH; rw [if_pos h0, if_pos hp]
    have hp4 := (isP4_iff m).1 hp
    obtain ⟨p, rfl⟩ := Int.eq_ofNat_of_zero_le (show 0 ≤ m by omega)
    obtain ⟨R, hR⟩ : ∃ R, mulC (p : Int) d' t p (Pl.lin p d' 1) = R := ⟨_, rfl⟩
    have hsR : isS (p : Int) R = true := by rw [← hR]; exact (mulC_cv ok' (Pl.norm_law hf' ok') p (lin_cv ok' 1)).1.toS
    rcases hgt_or (by omega) ok' hf' hR with ⟨h, hH⟩ | ⟨ho, hn⟩
    · rw [stM_ok hcH e1 hR hH]
      have hpos : 1 ≤ p ^ h := Nat.pow_pos (by omega)
      have hC : ordM (p : Int) R = (((p ^ h : Nat) : Int), 0) := by unfold ordM; rw [if_pos hsR]; exact hH.ord
      refine ⟨.nilIface, fun W0 hb => ?_, fun W0 _ => codeOfError_nil W0⟩
      have := stature_ok p d' A c t (p ^ h) W0 ok' hf' hp (hr.below hb) R hR hC hpos hH.le
      rw [tk_pow (by omega)] at this
      exact this
    · rw [stM_none hcH e1 hR hn]
      have hC : (ordM (p : Int) R).2 ≠ 0 := by unfold ordM; rw [if_pos hsR, ho]; show (5 : Int) ≠ 0; omega
      refine ⟨.iface 155 z, fun W0 hb => ?_, fun W0 hb => codeOfError_miss z W0 (hE.keep hb hE.lt)⟩
      refine (stature_err p d' A t.length c 155 z W0 (fun W1 hb1 => ?_)).mono ?_
      · have hbb := hb.trans (hb1.mono hb.size)
        exact andOrder_zero p d' A c t p z W1 ok' hf' hp (by omega) (by omega) (hr.below hbb) (hZ.keep hbb hw0) (by have := hbb.size; omega) (by rw [hR]; exact hC)
      · rintro e w' ⟨rfl, hb2⟩
        exact ⟨_, rfl, OwnI.nil _ _, hb2⟩
  · rw [stM_no h0 hp]
    refine ⟨.iface 83 (.agg #[.int .i64 m]), fun W0 hb => ?_, fun W0 hb => codeOfError_hit m W0 (hE.keep hb hE.lt)⟩
    refine (stature_err m d' A t.length c 83 (.agg #[.int .i64 m]) W0 (fun W1 hb1 => andOrder_no m d' A t.length c m W1 (by simpa using hp))).mono ?_
    rintro e w' ⟨rfl, hb2⟩
    exact ⟨_, rfl, OwnI.nil _ _, hb2⟩
/-- what AreSameHeight answers -/
def sahM (m : Int) (t : List (List Int)) (m' : Int) (t' : List (List Int)) : Bool × Int :=
  if codeL2 m t m' t' = 0 then (if isP4 m = true then ((stM m t).1 == (stM m' t').1 && (stM m t).2.1 == (stM m' t').2.1, 0) else (false, 5)) else (false, codeL2 m t m' t')
set_option maxHeartbeats 16000000 in
set_option maxRecDepth 100000 in
theorem AreSameHeight_any (m : Int) (A : Option Addr) (c : Nat) (t : List (List Int)) (m' : Int) (A' : Option Addr) (c' : Nat) (t' : List (List Int)) (w : World) (hz : szT t ≤ 1048576) (hz' : szT t' ≤ 1048576) (hr : RP w A t) (hr' : RP w A' t') (hE : ErrT w) (z : Value) (hZ : ErrZ w z) :
    Calls Tryz.prog 23 #[.agg #[.int .i64 m, .slice A t.length c], .agg #[.int .i64 m', .slice A' t'.length c']] w fun e w' => e = .returned (.tuple #[.bool (sahM m t m' t').1, .int .i64 (sahM m t m' t').2]) ∧ Below w.heap.size w w' := by
  obtain ⟨W, hW, b1, b2, b4, hwb⟩ := proTT w m A t.length c m' A' t'.length c'
  have B1 := Lib.hid b1
  have B2 := Lib.hid b2
  have HB := Lib.hid hwb
  have HW := Lib.hid hW
  have hc := codeL2_any (w.heap.size + 1 + 1) m A c t m' A' c' t' W hz hz' (hr.below hwb) (hr'.below hwb) b4
  by_cases h0 : codeL2 m t m' t' = 0
  · obtain ⟨l1, l2, rfl, ee⟩ := codeL2_isL h0
    obtain ⟨-, d, e1, ok, -⟩ := isL_of l1
    have e2 : t'.length = d + 1 := by omega
    have hd2 := ok.d2
    rw [h0] at hc
    have HC0 := Lib.hid hc
    have HL1 := Lib.hid (fun W0 => lawOf_nat m A t.length c d W0 e1 (by omega))
    have HL2 := Lib.hid (fun W0 => lawOf_nat m A' t'.length c' d W0 e2 (by omega))
    have hET := hE.keep hwb hE.lt
    have hZT := hZ.keep hwb (Nat.lt_trans Nat.zero_lt_one hE.lt)
    obtain ⟨x, hs1, hx1⟩ := stature_law m A c d t W (hr.below hwb) l1 e1 hET z hZT
    obtain ⟨x', hs2, -⟩ := stature_law m A' c' d t' W (hr'.below hwb) l2 e2 hET z hZT
    have hS0 : sahM m t m t' = if isP4 m = true then ((stM m t).1 == (stM m t').1 && (stM m t).2.1 == (stM m t').2.1, 0) else (false, 5) := by unfold sahM; rw [if_pos h0]
    have hk5 := fun hp => stM_code (t := t) l1 hp
    have hn5 := fun hp => stM_no (t := t) l1 hp
    obtain ⟨⟨H, U, S, C⟩, hQ⟩ : ∃ Q, stM m t = Q := ⟨_, rfl⟩
    obtain ⟨⟨H', U', S', C'⟩, hQ'⟩ : ∃ Q, stM m t' = Q := ⟨_, rfl⟩
    rw [hQ] at hs1 hx1 hS0 hk5 hn5
    rw [hQ'] at hs2 hS0
    rw [hS0]
    have HS1 := Lib.hid hs1
    have HX1 := Lib.hid hx1
    have HS2 := Lib.hid hs2
    obtain ⟨L, hL⟩ : ∃ L, t.length = L := ⟨_, rfl⟩
    obtain ⟨L', hL'⟩ : ∃ L, t'.length = L := ⟨_, rfl⟩
    rw [hL] at HL1 HS1 HW B1 ⊢
    rw [hL'] at HL2 HS2 HW B2 ⊢
    by_cases hp : isP4 m = true
    · rw [if_pos hp]
      have hC5 : ¬ C = 5 := hk5 hp
      have hC6 : (C == 5) = false := by simpa using hC5
      clear b1 b2 b4 hwb hW hr hr' hc h0 ok e1 e2 hz hz' l1 l2 ee hs1 hs2 hx1 hQ hQ' hS0 hk5 hn5 hL hL' hE hZ hET hZT hp
      obtain ⟨x1, x2, x3⟩ := B1.out
      obtain ⟨y1, y2, y3⟩ := B2.out
      go_enter Tryz.func23, Tryz.ntmps23
      go_wp2_with fail
      rw [HW.out]
      refine HC0.out.mono ?_
      rintro e w1 ⟨rfl, hb1⟩
      obtain ⟨z1, z2, z3⟩ := B1.out.keep hb1
      go_wp2_with fail
      refine (HL1.out _).mono ?_
      rintro e w2 ⟨rfl, hb2⟩
      have hbb2 := below_step hb1 hb2
      go_wp2_with fail
      refine (HS1.out _ hbb2).mono ?_
      rintro e w3 ⟨v, rfl, ho, hb3⟩
      obtain ⟨A1, c1, rfl, -⟩ := ho.form
      obtain ⟨X, hX⟩ : ∃ X, w3.alloc (.cells #[.int .i64 H, .int .i64 U, .slice A1 S.length c1] 49) = X := ⟨_, rfl⟩
      have hbX : Below W.heap.size W X := by rw [← hX]; exact below_alloc _ (below_step hbb2 hb3)
      have v5 : VarC 49 X w3.heap.size #[.int .i64 H, .int .i64 U, .slice A1 S.length c1] := by rw [← hX]; exact VarC.new _ _ _
      have HX := Lib.hid hX
      obtain ⟨g7, hg7⟩ : ∃ g, w3.heap.size = g := ⟨_, rfl⟩
      rw [hg7] at v5
      have HG7 := Lib.hid hg7
      have V5 := Lib.hid v5
      have HBX := Lib.hid hbX
      clear hX hbX v5 hg7 hb1 hb2 hb3 hbb2 ho x1 x2 x3 y1 y2 y3 z1 z2 z3
      go_upto_region 5 with fail
      rw [HX.out, HG7.out]
      go_wp2_with fail
      refine (HX1.out _ HBX.out).mono ?_
      rintro e w4 ⟨rfl, hb4⟩
      have hbb4 := below_step HBX.out hb4
      obtain ⟨z1, z2, z3⟩ := B2.out.keep hbb4
      go_wp2_with fail
      refine (HL2.out _).mono ?_
      rintro e w5 ⟨rfl, hb5⟩
      have hbb5 := below_step hbb4 hb5
      go_wp2_with fail
      refine (HS2.out _ hbb5).mono ?_
      rintro e w6 ⟨v', rfl, ho', hb6⟩
      obtain ⟨A2, c2, rfl, -⟩ := ho'.form
      obtain ⟨Y, hY⟩ : ∃ Y, w6.alloc (.cells #[.int .i64 H', .int .i64 U', .slice A2 S'.length c2] 49) = Y := ⟨_, rfl⟩
      have hbXY : Below X.heap.size X Y := by rw [← hY]; exact below_alloc _ (below_step (below_step hb4 hb5) hb6)
      have v9 : VarC 49 Y w6.heap.size #[.int .i64 H', .int .i64 U', .slice A2 S'.length c2] := by rw [← hY]; exact VarC.new _ _ _
      obtain ⟨g9, hg9⟩ : ∃ g, w6.heap.size = g := ⟨_, rfl⟩
      rw [hg9] at v9
      have HG9 := Lib.hid hg9
      have HY := Lib.hid hY
      have v7 := V5.out.keep hbXY
      obtain ⟨q0, q1, -, -, -, -⟩ := v7.tells3
      obtain ⟨r0, r1, -, -, -, -⟩ := v9.tells3
      have HF := Lib.hid (below_step HB.out (below_step HBX.out hbXY))
      clear hY hbXY v9 v7 hg9 hb4 hb5 hb6 hbb4 hbb5 ho' z1 z2 z3
      go_upto_region 8 with fail
      rw [HY.out, HG9.out]
      by_cases hH : H = H'
      · subst hH
        by_cases hU : U = U'
        · subst hU
          go_wp2
          exact bodyPost_ret (v := .tuple #[.bool true, .int .i64 0]) (by simp [results, Tryz.results23, go_sem]) rfl ⟨by simp, HF.out⟩
        · have hU2 : (U == U') = false := by simpa using hU
          go_wp2
          exact bodyPost_ret (v := .tuple #[.bool false, .int .i64 0]) (by simp [results, Tryz.results23, go_sem]) rfl ⟨by simp [hU], HF.out⟩
      · have hH2 : (H == H') = false := by simpa using hH
        go_wp2
        exact bodyPost_ret (v := .tuple #[.bool false, .int .i64 0]) (by simp [results, Tryz.results23, go_sem]) rfl ⟨by simp [hH], HF.out⟩
    · rw [if_neg hp]
      obtain ⟨rfl, rfl, rfl, rfl⟩ : H = 0 ∧ U = 0 ∧ S = [] ∧ C = 5 := by
        have h := hn5 hp
        simpa using h
      clear b1 b2 b4 hwb hW hr hr' hc h0 ok e1 e2 hz hz' l1 l2 ee hs1 hs2 hx1 hQ hQ' hS0 hk5 hn5 hL hL' hE hZ hET hZT hp
      obtain ⟨x1, x2, x3⟩ := B1.out
      obtain ⟨y1, y2, y3⟩ := B2.out
      go_enter Tryz.func23, Tryz.ntmps23
      go_wp2_with fail
      rw [HW.out]
      refine HC0.out.mono ?_
      rintro e w1 ⟨rfl, hb1⟩
      obtain ⟨z1, z2, z3⟩ := B1.out.keep hb1
      go_wp2_with fail
      refine (HL1.out _).mono ?_
      rintro e w2 ⟨rfl, hb2⟩
      have hbb2 := below_step hb1 hb2
      go_wp2_with fail
      refine (HS1.out _ hbb2).mono ?_
      rintro e w3 ⟨v, rfl, ho, hb3⟩
      obtain ⟨A1, c1, rfl, -⟩ := ho.form
      have hbX := below_alloc (.cells #[.int .i64 0, .int .i64 0, .slice A1 0 c1] 49) (below_step hbb2 hb3)
      have HBX := Lib.hid hbX
      have HCE := Lib.hid (HX1.out _ hbX)
      clear hbX hb1 hb2 hb3 hbb2 ho x1 x2 x3 y1 y2 y3 z1 z2 z3
      go_wp2_with fail
      refine HCE.out.mono ?_
      rintro e w4 ⟨rfl, hb4⟩
      go_wp2
      exact bodyPost_ret (v := .tuple #[.bool false, .int .i64 5]) (by simp [results, Tryz.results23, go_sem]) rfl ⟨rfl, below_step HB.out (below_step HBX.out hb4)⟩
  · have HA : Hid (sahM m t m' t' = (false, codeL2 m t m' t')) := Lib.hid (by unfold sahM; rw [if_neg h0])
    rw [HA.out]
    obtain ⟨n1, n2⟩ := ne_facts h0
    obtain ⟨C, hC⟩ : ∃ C, codeL2 m t m' t' = C := ⟨_, rfl⟩
    rw [hC] at hc n1 n2 ⊢
    have HC0 := Lib.hid hc
    obtain ⟨x1, x2, x3⟩ := b1
    obtain ⟨y1, y2, y3⟩ := b2
    clear b4 hwb hW hr hr' hc h0 hz hz' hC HA hE hZ
    go_enter Tryz.func23, Tryz.ntmps23
    go_wp2_with fail
    rw [HW.out]
    refine HC0.out.mono ?_
    rintro e w1 ⟨rfl, hb1⟩
    go_wp2
    exact bodyPost_ret (v := .tuple #[.bool false, .int .i64 C]) (by simp [results, Tryz.results23, go_sem]) rfl ⟨rfl, below_step HB.out hb1⟩
end Go.Proofs.YtfhdgcndiljjcaaGreatDoor

/- Contract of AreSameHeight, of the model. -/
namespace Go.Proofs.YtfhdgcndiljjcaaGreatDoor
open Go Go.RowKit Go.WideShapes Go.ChangeShapes Go.ChangeAt

set_option maxHeartbeats 16000000 in
set_option maxRecDepth 100000 in
theorem sAreSameHeight_any (m : Int) (A : Option Addr) (c : Nat) (t : List (List Int)) (m' : Int) (A' : Option Addr) (c' : Nat) (t' : List (List Int)) (w : World) (hz : szT t ≤ 1048576) (hz' : szT t' ≤ 1048576) (hr : RP w A t) (hr' : RP w A' t') :
    Calls Tryz.prog 22 #[.agg #[.int .i64 m, .slice A t.length c], .agg #[.int .i64 m', .slice A' t'.length c']] w fun e w' => e = .returned (.tuple #[.bool (sahM m t m' t').1, .int .i64 (sahM m t m' t').2]) ∧ Below w.heap.size w w' := by
  obtain ⟨W, hW, b1, b2, hwb⟩ := start2 28 w m A t.length c m' A' t'.length c'
  have B1 := Lib.hid b1
  have B2 := Lib.hid b2
  have HB := Lib.hid hwb
  have HW := Lib.hid hW
  have hc := l04Two_any m A c t m' A' c' t' W hz hz' (hr.below hwb) (hr'.below hwb)
  have HP := Lib.hid (fun W0 => l10Prime_any m A t.length c W0)
  by_cases h0 : codeL2 m t m' t' = 0
  · obtain ⟨l1, l2, rfl, ee⟩ := codeL2_isL h0
    rw [h0] at hc
    have HC0 := Lib.hid hc
    have hS0 : sahM m t m t' = if isP4 m = true then ((stM m t).1 == (stM m t').1 && (stM m t).2.1 == (stM m t').2.1, 0) else (false, 5) := by unfold sahM; rw [if_pos h0]
    by_cases hp : isP4 m = true
    · rw [hp] at HP
      have hc1 : codeH m t = 0 := by unfold codeH; rw [if_pos l1, if_pos hp]
      have hc2 : codeH m t' = 0 := by unfold codeH; rw [if_pos l2, if_pos hp]
      obtain ⟨h, hh, hs, hS⟩ := model_h m A c t W hc1 (hr.below hwb)
      obtain ⟨h', hh', hs', hS'⟩ := model_h m A' c' t' W hc2 (hr'.below hwb)
      rw [if_pos hp] at hS0
      -- the answer
      obtain ⟨Z, hZ⟩ : ∃ Z, sahM m t m t' = Z := ⟨_, rfl⟩
      rw [hZ] at hS0 ⊢
      obtain ⟨S, hSl⟩ : ∃ S, (stM m t).2.2.1 = S := ⟨_, rfl⟩
      obtain ⟨S', hSl'⟩ : ∃ S, (stM m t').2.2.1 = S := ⟨_, rfl⟩
      rw [hSl] at hs
      rw [hSl'] at hs'
      have hans : Z.2 = 0 ∧ ((¬ h = h' ∧ Z.1 = false) ∨ (h = 0 ∧ h' = 0 ∧ Z.1 = true) ∨ (h = h' ∧ 1 ≤ h ∧ 1 ≤ S.length ∧ 1 ≤ S'.length ∧ Z.1 = (Ser.co S 0 == Ser.co S' 0))) := by
        rw [hS0]
        refine ⟨rfl, ?_⟩
        rcases hS with ⟨rfl, e⟩ | ⟨k1, U, T, e, s1, -, s2⟩ <;> rcases hS' with ⟨rfl, e'⟩ | ⟨k1', U', T', e', s1', -, s2'⟩
        · right; left
          rw [e, e']; exact ⟨rfl, rfl, rfl⟩
        · left
          rw [e, e']
          refine ⟨by omega, ?_⟩
          have : ((0 : Int) == (h' : Int)) = false := by simp; omega
          show ((0 : Int) == (h' : Int) && _) = false
          rw [this]; rfl
        · left
          rw [e, e']
          refine ⟨by omega, ?_⟩
          have : ((h : Int) == (0 : Int)) = false := by simp; omega
          show ((h : Int) == (0 : Int) && _) = false
          rw [this]; rfl
        · rw [e] at hSl ⊢
          rw [e'] at hSl' ⊢
          have q1 : T = S := hSl
          have q2 : T' = S' := hSl'
          subst q1; subst q2
          by_cases hhh : h = h'
          · right; right
            subst hhh
            refine ⟨rfl, k1, s1, s1', ?_⟩
            show ((h : Int) == (h : Int) && U == U') = _
            rw [s2, s2']; simp
          · left
            refine ⟨hhh, ?_⟩
            have : ((h : Int) == (h' : Int)) = false := by simp; omega
            show ((h : Int) == (h' : Int) && _) = false
            rw [this]; rfl
      have HAN := Lib.hid hans
      have HH := Lib.hid hh
      have HS := Lib.hid hs
      have HH' := Lib.hid hh'
      have HS' := Lib.hid hs'
      obtain ⟨L, hL⟩ : ∃ L, t.length = L := ⟨_, rfl⟩
      obtain ⟨L', hL'⟩ : ∃ L, t'.length = L := ⟨_, rfl⟩
      rw [hL] at HC0 HP HH HS HW B1 ⊢
      rw [hL'] at HC0 HH' HS' HW B2 ⊢
      clear b1 b2 hwb hW hr hr' hc h0 hz hz' l1 l2 ee hs hs' hh hh' hS hS' hS0 hL hL' hp hc1 hc2 hZ hans hSl hSl'
      obtain ⟨x1, x2, x3⟩ := B1.out
      obtain ⟨y1, y2, y3⟩ := B2.out
      go_enter Tryz.func22, Tryz.ntmps22
      go_wp2_with fail
      rw [HW.out]
      go_wp2_with fail
      refine HC0.out.mono ?_
      rintro e w1 ⟨rfl, hb1⟩
      obtain ⟨z1, z2, z3⟩ := B1.out.keep hb1
      go_wp2_with fail
      refine (HP.out _).mono ?_
      rintro e w2 ⟨rfl, hb2⟩
      have HB2 := Lib.hid (below_step hb1 hb2)
      have HK := Lib.hid (fun W0 (hb : Below w2.heap.size w2 W0) => (⟨⟨(B1.out.keep (below_step HB2.out hb)).1, (B1.out.keep (below_step HB2.out hb)).2.1⟩, ⟨(B2.out.keep (below_step HB2.out hb)).1, (B2.out.keep (below_step HB2.out hb)).2.1⟩, hb⟩ :
        (W0.cell? ⟨w.heap.size, 0, none⟩ = some (.int .i64 m) ∧ W0.cell? ⟨w.heap.size, 1, none⟩ = some (.slice A L c)) ∧ (W0.cell? ⟨w.heap.size + 1, 0, none⟩ = some (.int .i64 m) ∧ W0.cell? ⟨w.heap.size + 1, 1, none⟩ = some (.slice A' L' c')) ∧ Below w2.heap.size w2 W0))
      clear x1 x2 x3 y1 y2 y3 z1 z2 z3 hb1 hb2
      go_upto_region 6 with fail
      go_cut [7, 8] (fun s7 s8 wx => ∃ A1 c1 A2 c2, s7 = .slice A1 S.length c1 ∧ s8 = .slice A2 S'.length c2 ∧ RI wx A1 S ∧ RI wx A2 S' ∧ Below w2.heap.size w2 wx)
      case first =>
        go_region_held3 (fun w' => (w'.cell? ⟨w.heap.size, 0, none⟩ = some (.int .i64 m) ∧ w'.cell? ⟨w.heap.size, 1, none⟩ = some (.slice A L c)) ∧ (w'.cell? ⟨w.heap.size + 1, 0, none⟩ = some (.int .i64 m) ∧ w'.cell? ⟨w.heap.size + 1, 1, none⟩ = some (.slice A' L' c')) ∧ Below w2.heap.size w2 w') (first | exact HK.out _ (below_drew0 _) | exact HK.out _ hkb | exact HK.out _ hka) (first
          | (go_at_call 34; with_reducible refine Calls.mono (HS.out _ (below_step HB2.out (trd (by assumption)))) ?_; rintro e wa ⟨va, rfl, hoa, hba⟩; obtain ⟨A1, c1, rfl, -⟩ := hoa.form; obtain ⟨hka, hza⟩ := reg_end (by assumption) hba)
          | (go_at_call 34; with_reducible refine Calls.mono (HS'.out _ (below_step HB2.out (trd (by assumption)))) ?_; rintro e wb ⟨vb, rfl, hob, hbb⟩; obtain ⟨A2, c2, rfl, -⟩ := hob.form; obtain ⟨hkb, hzb⟩ := reg_end (by assumption) hbb))
        all_goals
          go_wp2_with fail
          go_meet
          case rel => first | exact ⟨_, _, _, _, rfl, rfl, hoa.ri.below hbb, hob.ri, hkb⟩ | exact ⟨_, _, _, _, rfl, rfl, hoa.ri, hob.ri.below hba, hka⟩
      case rest =>
        obtain ⟨w3, hwc⟩ : ∃ w9, w9 = wc := ⟨_, rfl⟩
        subst hwc
        obtain ⟨A1, c1, A2, c2, rfl, rfl, ha, hb, hk⟩ := hcut
        have HRA := Lib.hid ha
        have HRB := Lib.hid hb
        have HB3 := Lib.hid (below_step HB2.out hk)
        obtain ⟨⟨x1, x2⟩, ⟨y1, y2⟩, -⟩ := HK.out _ hk
        clear ha hb hk
        go_wp2_with fail
        refine (HH.out _ HB3.out).mono ?_
        rintro e w4 ⟨v4, R4, rfl, -, hb4⟩
        obtain ⟨z1, z2, z3⟩ := B2.out.keep (below_step HB3.out hb4)
        go_wp2_with fail
        refine (HH'.out _ (below_step HB3.out hb4)).mono ?_
        rintro e w5 ⟨v5, R5, rfl, -, hb5⟩
        have HB5 := Lib.hid (below_step HB.out (below_step HB3.out (below_step hb4 hb5)))
        have hrA := HRA.out.below (below_step hb4 hb5)
        have hrB := HRB.out.below (below_step hb4 hb5)
        obtain ⟨hz2, hcase⟩ := HAN.out
        clear x1 x2 y1 y2 z1 z2 z3 hb4 hb5
        rcases hcase with ⟨n1, n2⟩ | ⟨rfl, rfl, n2⟩ | ⟨rfl, k1, s1, s1', n2⟩
        · have n3 : ((h : Int) == (h' : Int)) = false := by simp; omega
          have n4 : ¬ (h : Int) = (h' : Int) := by omega
          clear hrA hrB
          go_upto_region 9 with fail
          go_quiet (fail)
          go_wp2
          exact bodyPost_ret (v := .tuple #[.bool false, .int .i64 0]) (by simp [results, Tryz.results22, go_sem]) rfl ⟨by rw [n2, hz2], below_drewN HB5.out _⟩
        · clear hrA hrB
          go_upto_region 9 with fail
          go_quiet (fail)
          go_wp2
          exact bodyPost_ret (v := .tuple #[.bool true, .int .i64 0]) (by simp [results, Tryz.results22, go_sem]) rfl ⟨by rw [n2, hz2], below_drewN HB5.out _⟩
        · obtain ⟨ba, oa, rfl, hba, hca⟩ := hrA.at 0 (by omega)
          obtain ⟨bb, ob, rfl, hbb, hcb⟩ := hrB.at 0 (by omega)
          rw [Nat.add_zero] at hca hcb
          obtain ⟨X, hX⟩ : ∃ X, Ser.co S 0 = X := ⟨_, rfl⟩
          obtain ⟨X', hX'⟩ : ∃ X, Ser.co S' 0 = X := ⟨_, rfl⟩
          rw [hX] at hca n2
          rw [hX'] at hcb n2
          have n3 : ((h : Int) == 0) = false := by simp; omega
          have n4 : ¬ (h : Int) = 0 := by omega
          have n5 : ¬ h = 0 := by omega
          have j1 : (0 : Int) < (S.length : Int) := by omega
          have j2 : (0 : Int) < (S'.length : Int) := by omega
          clear hrA hrB hX hX' hba hbb
          go_upto_region 9 with fail
          go_quiet (fail)
          go_wp2
          exact bodyPost_ret (v := .tuple #[.bool (X == X'), .int .i64 0]) (by simp [results, Tryz.results22, go_sem]) rfl ⟨by rw [n2, hz2], below_drewN HB5.out _⟩
    · rw [show isP4 m = false by simpa using hp] at HP
      rw [if_neg hp] at hS0
      rw [hS0]
      obtain ⟨L, hL⟩ : ∃ L, t.length = L := ⟨_, rfl⟩
      obtain ⟨L', hL'⟩ : ∃ L, t'.length = L := ⟨_, rfl⟩
      rw [hL] at HC0 HP HW B1 ⊢
      rw [hL'] at HC0 HW B2 ⊢
      clear b1 b2 hwb hW hr hr' hc h0 hz hz' l1 l2 ee hS0 hL hL' hp
      obtain ⟨x1, x2, x3⟩ := B1.out
      obtain ⟨y1, y2, y3⟩ := B2.out
      go_enter Tryz.func22, Tryz.ntmps22
      go_wp2_with fail
      rw [HW.out]
      go_wp2_with fail
      refine HC0.out.mono ?_
      rintro e w1 ⟨rfl, hb1⟩
      obtain ⟨z1, z2, z3⟩ := B1.out.keep hb1
      go_wp2_with fail
      refine (HP.out _).mono ?_
      rintro e w2 ⟨rfl, hb2⟩
      go_wp2
      exact bodyPost_ret (v := .tuple #[.bool false, .int .i64 5]) (by simp [results, Tryz.results22, go_sem]) rfl ⟨rfl, below_step HB.out (below_step hb1 hb2)⟩
  · have HA : Hid (sahM m t m' t' = (false, codeL2 m t m' t')) := Lib.hid (by unfold sahM; rw [if_neg h0])
    rw [HA.out]
    obtain ⟨n1, n2⟩ := ne_facts h0
    obtain ⟨C, hC⟩ : ∃ C, codeL2 m t m' t' = C := ⟨_, rfl⟩
    rw [hC] at hc n1 n2 ⊢
    have HC0 := Lib.hid hc
    obtain ⟨x1, x2, x3⟩ := b1
    obtain ⟨y1, y2, y3⟩ := b2
    clear hwb hW hr hr' hc h0 hz hz' hC HA HP
    go_enter Tryz.func22, Tryz.ntmps22
    go_wp2_with fail
    rw [HW.out]
    go_wp2_with fail
    refine HC0.out.mono ?_
    rintro e w1 ⟨rfl, hb1⟩
    go_upto_region 3 with fail
    go_wp2
    exact bodyPost_ret (v := .tuple #[.bool false, .int .i64 C]) (by simp [results, Tryz.results22, go_sem]) rfl ⟨rfl, below_step HB.out hb1⟩
end Go.Proofs.YtfhdgcndiljjcaaGreatDoor

