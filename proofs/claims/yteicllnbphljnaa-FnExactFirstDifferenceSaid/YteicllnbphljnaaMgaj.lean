/- Texts of contracts, joined. -/
import Derived.Test.YteicllnbphljnaaMgai
import Derived.Test.YteicllnbphljnaaMgag
/- Contracts of the program's codes of laws, of the law of a plane, of lines and of sums under a law. -/
namespace Go.Proofs.Yteicllnbphljnaa
open Go.RowKit Go.WideShapes Go.ChangeShapes Go.ChangeAt

/-- block g holds planes, one after the other -/
def PLs (w : World) (g : Nat) (xs : List (Int × Option Addr × Nat × List (List Int))) : Prop :=
  g < w.heap.size ∧ ∀ k m A c t, xs[k]? = some (m, A, c, t) → w.cell? ⟨g, k * 2, none⟩ = some (.int .i64 m) ∧ w.cell? ⟨g, k * 2 + 1, none⟩ = some (.slice A t.length c) ∧ RP w A t ∧ szT t ≤ 1048576
theorem PLs.keep {w w' : World} {g : Nat} {xs : List (Int × Option Addr × Nat × List (List Int))} (h : PLs w g xs) (hb : Below w.heap.size w w') : PLs w' g xs :=
  ⟨Nat.lt_of_lt_of_le h.1 hb.size, fun k m A c t hx => by
    obtain ⟨a, b, r, z⟩ := h.2 k m A c t hx
    exact ⟨(hb.cell (p := ⟨g, k * 2, none⟩) h.1).trans a, (hb.cell (p := ⟨g, k * 2 + 1, none⟩) h.1).trans b, r.below hb, z⟩⟩
theorem PLs.one {w : World} {g : Nat} {m : Int} {A : Option Addr} {c : Nat} {t : List (List Int)} (hx : Box w g m A t.length c) (hr : RP w A t) (hz : szT t ≤ 1048576) : PLs w g [(m, A, c, t)] :=
  ⟨hx.2.2, fun k m' A' c' t' h => by
    match k, h with
    | 0, h =>
      simp at h
      obtain ⟨rfl, rfl, rfl, rfl⟩ := h
      exact ⟨hx.1, hx.2.1, hr, hz⟩⟩
theorem PLs.two {w : World} {g : Nat} {m : Int} {A : Option Addr} {c : Nat} {t : List (List Int)} {m' : Int} {A' : Option Addr} {c' : Nat} {t' : List (List Int)} (hx : Box4 w g m A t.length c m' A' t'.length c') (hr : RP w A t) (hr' : RP w A' t') (hz : szT t ≤ 1048576) (hz' : szT t' ≤ 1048576) :
    PLs w g [(m, A, c, t), (m', A', c', t')] :=
  ⟨hx.1.2.2, fun k m0 A0 c0 t0 h => by
    match k, h with
    | 0, h =>
      simp at h
      obtain ⟨rfl, rfl, rfl, rfl⟩ := h
      exact ⟨hx.1.1, hx.1.2.1, hr, hz⟩
    | 1, h =>
      simp at h
      obtain ⟨rfl, rfl, rfl, rfl⟩ := h
      exact ⟨hx.2.1, hx.2.2, hr', hz'⟩⟩
def lawS (xs : List (Int × Option Addr × Nat × List (List Int))) : Bool := xs.all fun x => isL x.1 x.2.2.2
set_option maxHeartbeats 8000000 in
set_option maxRecDepth 100000 in
theorem codeOfLaws_any (g : Nat) (xs : List (Int × Option Addr × Nat × List (List Int))) (C : Int) (w : World) (hx : PLs w g xs) (hn : xs.length ≤ 1000)
    (hcp : lawS xs = true → ∀ W0, Below w.heap.size w W0 → Calls Try.prog 88 #[.slice (some ⟨g, 0, none⟩) xs.length xs.length] W0 fun e w' => e = .returned (.int .i64 C) ∧ Below W0.heap.size W0 w') :
    Calls Try.prog 95 #[.slice (some ⟨g, 0, none⟩) xs.length xs.length] w fun e w' => e = .returned (.int .i64 (if lawS xs = true then C else 1)) ∧ Below w.heap.size w w' := by
  have HX := Lib.hid hx
  have HCP := Lib.hid hcp
  obtain ⟨R, hR⟩ : ∃ R, (if lawS xs = true then C else 1) = R := ⟨_, rfl⟩
  have HRR := Lib.hid hR
  rw [hR]
  obtain ⟨n, hxn⟩ : ∃ n, xs.length = n := ⟨_, rfl⟩
  have HN := Lib.hid hxn
  rw [hxn] at hn HCP ⊢
  have HLT := Lib.hid (fun k (hk : k < n) => (by
    obtain ⟨⟨m', A', c', l'⟩, hx⟩ : ∃ x, xs[k]? = some x := ⟨_, List.getElem?_eq_getElem (by omega)⟩
    exact ⟨m', A', c', l', hx⟩ : ∃ m' A' c' l', xs[k]? = some (m', A', c', l')))
  clear hx hcp hR hxn
  go_enter Try.func95, Try.ntmps95
  go_wp2
  go_loopw [4, 7] (fun _ i wr => ∃ k : Nat, k ≤ n ∧ i = .int .i64 k ∧ lawS (xs.take k) = true ∧ Below w.heap.size w wr) (fun _ i _ => n - (intOf i).toNat)
  case atStart => exact ⟨0, Nat.zero_le _, rfl, rfl, Below.refl _ _⟩
  case round =>
    obtain ⟨k, hk, rfl, hall, hbel⟩ := hrel
    have HA := Lib.hid hall
    have HBE := Lib.hid hbel
    clear hall
    by_cases hlt : k < n
    · obtain ⟨m', A', c', l', hxk⟩ := HLT.out k hlt
      obtain ⟨x1, x2, x3, x4⟩ := (HX.out.keep hbel).2 k m' A' c' l' hxk
      have HXK := Lib.hid hxk
      have HIS := Lib.hid (fun W0 (h : Below wr.heap.size wr W0) => IsLaw_any m' A' c' l' W0 x4 (x3.below h))
      obtain ⟨L', hL'⟩ : ∃ L, l'.length = L := ⟨_, rfl⟩
      obtain ⟨b', hb'⟩ : ∃ b, isL m' l' = b := ⟨_, rfl⟩
      have HBB := Lib.hid hb'
      rw [hL', hb'] at HIS
      rw [hL'] at x2
      have j0 : (0 : Int) ≤ (k : Int) := by omega
      have j1 : (k : Int) < (n : Int) := by omega
      clear hbel hxk x3 x4 hL' hb'
      cases b' with
      | true =>
        have HOK := Lib.hid (show lawS (xs.take (k + 1)) = true by unfold lawS; rw [all_take _ _ _ _ HXK.out]; exact and_t HA.out HBB.out)
        go_wp2_with fail
        refine (HIS.out _ (below_one _ _)).mono ?_
        rintro e w2 ⟨rfl, hb2⟩
        have HB2 := Lib.hid (below_step (below_alloc (.cells #[.int .i64 m', .slice A' L' c'] 33) HBE.out) hb2)
        clear hb2 x1 x2
        go_wp2
        go_roundw
        case rel => exact ⟨k + 1, by omega, by go_num, HOK.out, HB2.out⟩
        case measure => simp only [intOf]; omega
      | false =>
        have HNO : Hid (R = 1) := Lib.hid (by rw [← HRR.out, if_neg]; unfold lawS; rw [all_bad _ _ _ _ HXK.out HBB.out]; decide)
        go_wp2_with fail
        refine (HIS.out _ (below_one _ _)).mono ?_
        rintro e w2 ⟨rfl, hb2⟩
        have HB2 := Lib.hid (below_step (below_alloc (.cells #[.int .i64 m', .slice A' L' c'] 33) HBE.out) hb2)
        clear hb2 x1 x2
        go_wp2
        go_ret
        exact ⟨ret_int HNO.out.symm, HB2.out⟩
    · obtain rfl : k = n := by omega
      have hal : lawS xs = true := by
        have := HA.out
        rwa [List.take_of_length_le (by have := HN.out; omega)] at this
      have HC := Lib.hid (HCP.out hal _ hbel)
      have HYES : Hid (R = C) := Lib.hid (by rw [← HRR.out, if_pos hal])
      clear HA hbel hal
      go_wp2_with fail
      refine HC.out.mono ?_
      rintro e w2 ⟨rfl, hb2⟩
      have HB2 := Lib.hid (below_step HBE.out hb2)
      clear hb2
      go_wp2
      go_ret
      exact ⟨ret_int HYES.out.symm, HB2.out⟩
def codeL1 (m : Int) (t : List (List Int)) : Int := if isL m t = true then 0 else 1
def codeL2 (m : Int) (t : List (List Int)) (m' : Int) (t' : List (List Int)) : Int := if isL m t = true ∧ isL m' t' = true then (if m = m' ∧ t.length = t'.length then 0 else 2) else 1
theorem codeL1_any (g : Nat) (m : Int) (A : Option Addr) (c : Nat) (t : List (List Int)) (w : World) (hz : szT t ≤ 1048576) (hr : RP w A t) (hx : Box w g m A t.length c) :
    Calls Try.prog 95 #[.slice (some ⟨g, 0, none⟩) 1 1] w fun e w' => e = .returned (.int .i64 (codeL1 m t)) ∧ Below w.heap.size w w' := by
  have h := codeOfLaws_any g [(m, A, c, t)] 0 w (PLs.one hx hr hz) (by simp) (fun hal W0 hb => by
    have := codeOfPlanes1_any g m A c t W0 hz (hr.below hb) (hx.keep hb)
    have hp : isP m t = true := (isL_of (by simpa [lawS] using hal)).1
    rw [show codeP1 m t = 0 by unfold codeP1; rw [if_pos hp]] at this
    exact this)
  have e : (if lawS [(m, A, c, t)] = true then (0 : Int) else 1) = codeL1 m t := by simp [lawS, codeL1]
  rw [e] at h
  exact h
theorem codeL2_any (g : Nat) (m : Int) (A : Option Addr) (c : Nat) (t : List (List Int)) (m' : Int) (A' : Option Addr) (c' : Nat) (t' : List (List Int)) (w : World) (hz : szT t ≤ 1048576) (hz' : szT t' ≤ 1048576) (hr : RP w A t) (hr' : RP w A' t') (hx : Box4 w g m A t.length c m' A' t'.length c') :
    Calls Try.prog 95 #[.slice (some ⟨g, 0, none⟩) 2 2] w fun e w' => e = .returned (.int .i64 (codeL2 m t m' t')) ∧ Below w.heap.size w w' := by
  have h := codeOfLaws_any g [(m, A, c, t), (m', A', c', t')] (if m = m' ∧ t.length = t'.length then 0 else 2) w (PLs.two hx hr hr' hz hz') (by simp) (fun hal W0 hb => by
    have := codeOfPlanes2_any g m A c t m' A' c' t' W0 hz hz' (hr.below hb) (hr'.below hb) (hx.keep hb)
    have hal' : isL m t = true ∧ isL m' t' = true := by simpa [lawS] using hal
    rw [show codeP2 m t m' t' = if m = m' ∧ t.length = t'.length then 0 else 2 by unfold codeP2; rw [if_pos ⟨(isL_of hal'.1).1, (isL_of hal'.2).1⟩]] at this
    exact this)
  have e : (if lawS [(m, A, c, t), (m', A', c', t')] = true then (if m = m' ∧ t.length = t'.length then (0 : Int) else 2) else 1) = codeL2 m t m' t' := by simp [lawS, codeL2]
  rw [e] at h
  exact h
/-- the code of a law and series -/
def codeLw (m : Int) (t : List (List Int)) (xs : List (Int × Option Addr × Nat × List Int)) : Int := if isL m t = true then (if allS xs = true then (if alkS m t.length xs = true ∧ curS xs = true then 0 else 2) else 1) else 1
theorem codeLw_of {m : Int} {t : List (List Int)} {xs : List (Int × Option Addr × Nat × List Int)} (h : isL m t = true) : codeLw m t xs = if codeLC (isP m t) m t.length xs = 5 then 2 else codeLC (isP m t) m t.length xs := by
  unfold codeLw codeLC codeL
  rw [if_pos h, (isL_of h).1]
  by_cases h1 : allS xs = true
  · simp only [h1, and_self, if_true]
    by_cases h2 : alkS m t.length xs = true
    · by_cases h3 : curS xs = true
      · simp [h2, h3]
      · simp [h2, h3]
    · simp [h2]
  · simp [h1]
set_option maxHeartbeats 8000000 in
set_option maxRecDepth 100000 in
theorem codeLw_any (g : Nat) (m : Int) (A : Option Addr) (c : Nat) (t : List (List Int)) (xs : List (Int × Option Addr × Nat × List Int)) (w : World) (hz : szT t ≤ 1048576) (hr : RP w A t) (hx : SL w g xs) (hn : xs.length ≤ 1000) :
    Calls Try.prog 99 #[.agg #[.int .i64 m, .slice A t.length c], .slice (some ⟨g, 0, none⟩) xs.length xs.length] w fun e w' => e = .returned (.int .i64 (codeLw m t xs)) ∧ Below w.heap.size w w' := by
  obtain ⟨W, hW, b1, hwb⟩ := start1 33 w m A t.length c
  have B1 := Lib.hid b1
  have HB := Lib.hid hwb
  have HW := Lib.hid hW
  have HI := Lib.hid (fun W0 (h : Below W.heap.size W W0) => IsLaw_any m A c t W0 hz ((hr.below hwb).below h))
  have HC := Lib.hid (fun W0 (h : Below W.heap.size W W0) => codePCL_any g m A c t xs W0 hz ((hr.below hwb).below h) ((hx.keep hwb).keep h) hn)
  by_cases h0 : isL m t = true
  · rw [h0] at HI
    rw [codeLw_of h0]
    obtain ⟨K, hK⟩ : ∃ K, codeLC (isP m t) m t.length xs = K := ⟨_, rfl⟩
    rw [hK] at HC ⊢
    obtain ⟨R, hR⟩ : ∃ R, (if K = 5 then 2 else K) = R := ⟨_, rfl⟩
    have HRR := Lib.hid hR
    rw [hR]
    clear hR
    obtain ⟨n, hxn⟩ : ∃ n, xs.length = n := ⟨_, rfl⟩
    rw [hxn] at hn HC ⊢
    obtain ⟨L, hL⟩ : ∃ L, t.length = L := ⟨_, rfl⟩
    rw [hL] at HI HC HW B1 ⊢
    clear b1 hwb hW hr hz hx hK hxn hL h0
    go_enter Try.func99, Try.ntmps99
    go_wp2_with fail
    rw [HW.out]
    refine (HI.out _ (Below.refl _ _)).mono ?_
    rintro e w1 ⟨rfl, hb1⟩
    obtain ⟨x1, x2, x3⟩ := B1.out.keep hb1
    go_wp2_with fail
    refine (HC.out _ hb1).mono ?_
    rintro e w2 ⟨rfl, hb2⟩
    have HB2 := Lib.hid (below_step HB.out (below_step hb1 hb2))
    clear hb1 hb2 x1 x2 x3
    by_cases hk : K = 5
    · have HR : Hid (R = 2) := Lib.hid (by rw [← HRR.out, if_pos hk])
      have e1 : (K == 5) = true := by simpa using hk
      clear hk
      go_wp2
      go_ret
      exact ⟨ret_int HR.out.symm, HB2.out⟩
    · have HR : Hid (R = K) := Lib.hid (by rw [← HRR.out, if_neg hk])
      obtain ⟨n1, n2⟩ : (K == 5) = false ∧ (K != 5) = true := ⟨by simpa using hk, by simpa using hk⟩
      go_wp2
      go_ret
      exact ⟨ret_int HR.out.symm, HB2.out⟩
  · have h0' : isL m t = false := by simpa using h0
    rw [h0'] at HI
    rw [show codeLw m t xs = 1 by unfold codeLw; rw [if_neg h0]]
    obtain ⟨n, hxn⟩ : ∃ n, xs.length = n := ⟨_, rfl⟩
    rw [hxn]
    obtain ⟨L, hL⟩ : ∃ L, t.length = L := ⟨_, rfl⟩
    rw [hL] at HI HW B1 ⊢
    clear b1 hwb hW hr hz hx hxn hL h0 h0' HC
    go_enter Try.func99, Try.ntmps99
    go_wp2_with fail
    rw [HW.out]
    refine (HI.out _ (Below.refl _ _)).mono ?_
    rintro e w1 ⟨rfl, hb1⟩
    have HB1 := Lib.hid (below_step HB.out hb1)
    clear hb1
    go_wp2
    go_ret
    exact ⟨rfl, HB1.out⟩
end Go.Proofs.Yteicllnbphljnaa

/- Contracts of the law of a plane, its lines and sums. -/
namespace Go.Proofs.Yteicllnbphljnaa
open Go.RowKit Go.WideShapes Go.ChangeShapes Go.ChangeAt

/-- a plane's box and a law's variable -/
theorem pro_law (w : World) (m : Int) (A : Option Addr) (n c : Nat) : ∃ W, (w.alloc (.cells #[.int .i64 m, .slice A n c] 33)).alloc (.cells #[.int .i64 0, .int .i64 0, .slice none 0 0] 97) = W ∧
    Box W w.heap.size m A n c ∧ VarC 97 W (w.heap.size + 1) #[.int .i64 0, .int .i64 0, .slice none 0 0] ∧ Below w.heap.size w W := by
  refine ⟨_, rfl, (Box.newT _ _ _ _ _ _).keep (below_one _ _), ?_, below_alloc _ (below_one _ _)⟩
  have := VarC.new 97 (w.alloc (.cells #[.int .i64 m, .slice A n c] 33)) #[.int .i64 0, .int .i64 0, .slice none 0 0]
  simpa using this
set_option maxHeartbeats 2000000 in
set_option maxRecDepth 100000 in
theorem lawOf_nat (m : Int) (A : Option Addr) (n c d : Nat) (w : World) (hn : n = d + 1) (hd : d ≤ 1000) :
    Calls Try.prog 96 #[.agg #[.int .i64 m, .slice A n c]] w fun e w' => e = .returned (.agg #[.int .i64 m, .int .i64 d, .slice A n c]) ∧ Below w.heap.size w w' := by
  obtain ⟨W, hW, b1, v2, hwb⟩ := pro_law w m A n c
  have B1 := Lib.hid b1
  have V2 := Lib.hid v2
  have HB := Lib.hid hwb
  have HW := Lib.hid hW
  have HG := Lib.hid (fun W0 => gridOf_nat m A n c d W0 hn hd)
  clear b1 v2 hwb hW hn
  obtain ⟨x1, x2, x3⟩ := B1.out
  go_enter Try.func96, Try.ntmps96
  go_wp2_with fail
  rw [HW.out]
  refine (HG.out _).mono ?_
  rintro e w1 ⟨rfl, hb1⟩
  have hv := V2.out.keep hb1
  obtain ⟨q0, q1, q2, q3, q4, q5⟩ := hv.tells3
  have hs := hv.set3 (.int .i64 m) (.int .i64 d) (.slice A n c)
  obtain ⟨f0, f1, f2, -⟩ := hs.tells3
  have F4 := Lib.hid (below_set3 (below_step HB.out hb1) (show w.heap.size ≤ w.heap.size + 1 by omega) (.int .i64 m) (.int .i64 d) (.slice A n c))
  unfold set3 at f0 f1 f2 F4
  clear hv hs hb1 x1 x2 x3
  go_wp2
  exact bodyPost_ret (v := .agg #[.int .i64 m, .int .i64 d, .slice A n c]) (by simp [results, Try.results96, go_sem, f0, f1, f2]) rfl ⟨rfl, F4.out⟩
/-- a law's box and a series' variable -/
theorem pro_lawS (w : World) (m : Int) (d : Nat) (A : Option Addr) (n c : Nat) : ∃ W, (w.alloc (.cells #[.int .i64 m, .int .i64 d, .slice A n c] 97)).alloc (.cells #[.int .i64 0, .slice none 0 0] 30) = W ∧
    GBox W w.heap.size m d A n c ∧ VarC 30 W (w.heap.size + 1) #[.int .i64 0, .slice none 0 0] ∧ Below w.heap.size w W := by
  refine ⟨_, rfl, (GBox.new _ _ _ _ _ _ _).keep (below_one _ _), ?_, below_alloc _ (below_one _ _)⟩
  have := VarC.new 30 (w.alloc (.cells #[.int .i64 m, .int .i64 d, .slice A n c] 97)) #[.int .i64 0, .slice none 0 0]
  simpa using this
set_option maxHeartbeats 2000000 in
set_option maxRecDepth 100000 in
theorem line_any (m : Int) (d : Nat) (A : Option Addr) (n c : Nat) (u : Int) (w : World) (m1 : 2 ≤ m) (m2 : m ≤ 10000) (hd : d ≤ 10) (h1 : 0 ≤ u) (h2 : u ≤ 1) :
    Calls Try.prog 106 #[.agg #[.int .i64 m, .int .i64 d, .slice A n c], .int .i64 u] w fun e w' => ∃ v, e = .returned (.agg #[.int .i64 m, v]) ∧ OwnI w' w.heap.size v (Pl.lin m d u) ∧ Below w.heap.size w w' := by
  obtain ⟨W, hW, b1, v2, hwb⟩ := pro_lawS w m d A n c
  have B1 := Lib.hid b1
  have V2 := Lib.hid v2
  have HB := Lib.hid hwb
  have HW := Lib.hid hW
  have HM := Lib.hid (fun W0 => monomial_any m d 1 u W0 (by omega) m2 (by omega) (by omega) (by omega))
  obtain ⟨R, hR⟩ : ∃ R, Pl.lin m d u = R := ⟨_, rfl⟩
  rw [show Ser.cut m d (Ser.mon 1 u) = R from hR] at HM
  rw [hR]
  have hsz : w.heap.size + 1 < W.heap.size := v2.lt
  clear b1 v2 hwb hW hR
  obtain ⟨x1, x2, x3, x4⟩ := B1.out
  go_enter Try.func106, Try.ntmps106
  go_wp2_with fail
  rw [HW.out]
  refine (HM.out _).mono ?_
  rintro e w1 ⟨v, rfl, ho, hb1⟩
  obtain ⟨A1, c1, rfl, -⟩ := ho.form
  have hv := V2.out.keep hb1
  obtain ⟨q0, q1, q2, q3⟩ := hv.tells2
  obtain ⟨f0, f1, f2, f3⟩ := fin_serC (w := w) hv ho hsz (by omega) (below_step HB.out hb1) (.int .i64 m) (.slice A1 R.length c1)
  have F2 := Lib.hid (OwnI.more (b' := w.heap.size) f2 (by omega))
  have F3 := Lib.hid f3
  clear f2 f3 ho hb1 hv x1 x2 x3 x4
  go_wp2
  exact bodyPost_ret (v := .agg #[.int .i64 m, .slice A1 R.length c1]) (by simp [results, Try.results106, go_sem, f0, f1]) rfl ⟨_, rfl, F2.out, F3.out⟩
/-- a law's box, two series' boxes, a series' variable -/
theorem pro_lawSS (w : World) (m : Int) (d : Nat) (A : Option Addr) (n c : Nat) (m1 : Int) (A1 : Option Addr) (n1 c1 : Nat) (m2 : Int) (A2 : Option Addr) (n2 c2 : Nat) :
    ∃ W, (((w.alloc (.cells #[.int .i64 m, .int .i64 d, .slice A n c] 97)).alloc (.cells #[.int .i64 m1, .slice A1 n1 c1] 30)).alloc (.cells #[.int .i64 m2, .slice A2 n2 c2] 30)).alloc (.cells #[.int .i64 0, .slice none 0 0] 30) = W ∧
    GBox W w.heap.size m d A n c ∧ Box W (w.heap.size + 1) m1 A1 n1 c1 ∧ Box W (w.heap.size + 1 + 1) m2 A2 n2 c2 ∧ VarC 30 W (w.heap.size + 1 + 1 + 1) #[.int .i64 0, .slice none 0 0] ∧ Below w.heap.size w W := by
  refine ⟨_, rfl, (((GBox.new _ _ _ _ _ _ _).keep (below_one _ _)).keep (below_one _ _)).keep (below_one _ _), ?_, ?_, ?_, below_alloc _ (below_alloc _ (below_alloc _ (below_one _ _)))⟩
  · have := ((Box.newT 30 (w.alloc (.cells #[.int .i64 m, .int .i64 d, .slice A n c] 97)) m1 A1 n1 c1).keep (below_one _ (.cells #[.int .i64 m2, .slice A2 n2 c2] 30))).keep (below_one _ (.cells #[.int .i64 0, .slice none 0 0] 30))
    simpa using this
  · have := (Box.newT 30 ((w.alloc (.cells #[.int .i64 m, .int .i64 d, .slice A n c] 97)).alloc (.cells #[.int .i64 m1, .slice A1 n1 c1] 30)) m2 A2 n2 c2).keep (below_one _ (.cells #[.int .i64 0, .slice none 0 0] 30))
    simpa using this
  · have := VarC.new 30 (((w.alloc (.cells #[.int .i64 m, .int .i64 d, .slice A n c] 97)).alloc (.cells #[.int .i64 m1, .slice A1 n1 c1] 30)).alloc (.cells #[.int .i64 m2, .slice A2 n2 c2] 30)) #[.int .i64 0, .slice none 0 0]
    simpa using this
set_option maxHeartbeats 4000000 in
set_option maxRecDepth 100000 in
theorem sum_any (m : Int) (d : Nat) (A : Option Addr) (c : Nat) (t : List (List Int)) (A1 : Option Addr) (c1 : Nat) (l1 : List Int) (A2 : Option Addr) (c2 : Nat) (l2 : List Int) (w : World) (hs : Pl.Ok m d t) (s1 : SerOk m d l1) (s2 : SerOk m d l2) (z1 : Ser.co l1 0 = 0) (z2 : Ser.co l2 0 = 0) (hr : RP w A t) (hr1 : RI w A1 l1) (hr2 : RI w A2 l2) :
    Calls Try.prog 100 #[.agg #[.int .i64 m, .int .i64 d, .slice A t.length c], .agg #[.int .i64 m, .slice A1 l1.length c1], .agg #[.int .i64 m, .slice A2 l2.length c2]] w fun e w' => ∃ v, e = .returned (.agg #[.int .i64 m, v]) ∧ OwnI w' w.heap.size v (Pl.putL m d (Pl.pc t) l1 l2) ∧ Below w.heap.size w w' := by
  obtain ⟨W, hW, b1, b2, b3, v4, hwb⟩ := pro_lawSS w m d A t.length c m A1 l1.length c1 m A2 l2.length c2
  have B1 := Lib.hid b1
  have B2 := Lib.hid b2
  have B3 := Lib.hid b3
  have V4 := Lib.hid v4
  have HB := Lib.hid hwb
  have HW := Lib.hid hW
  have HP := Lib.hid (withCurves_any m d A c t A1 c1 l1 A2 c2 l2 W hs s1 s2 z1 z2 (hr.below hwb) (hr1.below hwb) (hr2.below hwb))
  have HD := Lib.hid (fun (W0 : World) (A0 : Option Addr) (c0 : Nat) (h : RP W0 A0 (Pl.botT m d (Pl.pc t) l1 l2)) => by
    have := diagonal_any m d A0 c0 (Pl.botT m d (Pl.pc t) l1 l2) W0 (hs.tab _) h
    rw [show Ser.cut m d (diaF (Pl.botT m d (Pl.pc t) l1 l2)) = Pl.putL m d (Pl.pc t) l1 l2 from Pl.diag_cut m d (Pl.pc t) l1 l2] at this
    exact this)
  obtain ⟨T, hT⟩ : ∃ T, Pl.botT m d (Pl.pc t) l1 l2 = T := ⟨_, rfl⟩
  obtain ⟨R, hR⟩ : ∃ R, Pl.putL m d (Pl.pc t) l1 l2 = R := ⟨_, rfl⟩
  rw [hT] at HP HD
  rw [hR] at HD ⊢
  obtain ⟨L, hL⟩ : ∃ L, t.length = L := ⟨_, rfl⟩
  obtain ⟨n1, hn1⟩ : ∃ L, l1.length = L := ⟨_, rfl⟩
  obtain ⟨n2, hn2⟩ : ∃ L, l2.length = L := ⟨_, rfl⟩
  rw [hL] at HP HW B1 ⊢
  rw [hn1] at HP HW B2 ⊢
  rw [hn2] at HP HW B3 ⊢
  have hsz : w.heap.size + 1 + 1 + 1 < W.heap.size := v4.lt
  clear b1 b2 b3 v4 hwb hW hr hr1 hr2 hs s1 s2 z1 z2 hT hR hL hn1 hn2
  obtain ⟨x1, x2, x3, x4⟩ := B1.out
  obtain ⟨y1, y2, -⟩ := B2.out
  obtain ⟨y3, y4, -⟩ := B3.out
  go_enter Try.func100, Try.ntmps100
  go_wp2_with fail
  rw [HW.out]
  refine HP.out.mono ?_
  rintro e w1 ⟨v1, rfl, ho1, hb1⟩
  obtain ⟨A3, c3, rfl, -⟩ := ho1.len
  clear x1 x2 x3 x4 y1 y2 y3 y4
  go_wp2_with fail
  refine (HD.out _ _ _ ho1.rp).mono ?_
  rintro e w2 ⟨v2, rfl, ho2, hb2⟩
  obtain ⟨A4, c4, rfl, -⟩ := ho2.form
  have hb := below_step hb1 hb2
  have hv := V4.out.keep hb
  obtain ⟨q0, q1, q2, q3⟩ := hv.tells2
  have hsz1 := hb1.size
  obtain ⟨f0, f1, f2, f3⟩ := fin_serC (w := w) hv ho2 (by omega) (by omega) (below_step HB.out hb) (.int .i64 m) (.slice A4 R.length c4)
  have F2 := Lib.hid (OwnI.more (b' := w.heap.size) f2 (by omega))
  have F3 := Lib.hid f3
  clear f2 f3 ho1 ho2 hb1 hb2 hb hv
  go_wp2
  exact bodyPost_ret (v := .agg #[.int .i64 m, .slice A4 R.length c4]) (by simp [results, Try.results100, go_sem, f0, f1]) rfl ⟨_, rfl, F2.out, F3.out⟩
end Go.Proofs.Yteicllnbphljnaa

/- Contracts of layers and of the agreement of two laws. -/
namespace Go.Proofs.Yteicllnbphljnaa
open Go.RowKit Go.WideShapes Go.ChangeShapes Go.ChangeAt

/-- the coefficients of one degree -/
def layC (m : Int) (t : List (List Int)) (n : Nat) : List Int := Ser.cut m n fun i => Pl.pc t i (n - i)
theorem layC_length (m : Int) (t : List (List Int)) (n : Nat) : (layC m t n).length = n + 1 := Ser.cut_length _ _ _
theorem layC_co {m : Int} {d : Nat} {t : List (List Int)} (hs : Pl.Ok m d t) (n i : Nat) (h : i ≤ n) : Ser.co (layC m t n) i = Pl.pc t i (n - i) := by
  unfold layC
  rw [Ser.co_cut h]
  have := hs.pc i (n - i)
  exact Int.emod_eq_of_lt this.1 this.2
/-- two tables agree in one degree -/
def eqL (m : Int) (t t' : List (List Int)) (n : Nat) : Bool := decide (layC m t n = layC m t' n)
theorem eqL_yes {m : Int} {d : Nat} {t t' : List (List Int)} (hs : Pl.Ok m d t) (hs' : Pl.Ok m d t') (n : Nat) (h : ∀ i, i ≤ n → Pl.pc t i (n - i) = Pl.pc t' i (n - i)) : eqL m t t' n = true :=
  list_same (by rw [layC_length, layC_length]) (fun j hj => by
    rw [layC_length] at hj
    rw [layC_co hs n j (by omega), layC_co hs' n j (by omega), h j (by omega)])
theorem eqL_no {m : Int} {d : Nat} {t t' : List (List Int)} (hs : Pl.Ok m d t) (hs' : Pl.Ok m d t') (n i : Nat) (hi : i ≤ n) (h : ¬ Pl.pc t i (n - i) = Pl.pc t' i (n - i)) : eqL m t t' n = false :=
  list_ne i (by rw [layC_co hs n i hi, layC_co hs' n i hi]; exact h)
/-- from k on, as far as the next degree agrees -/
def agr (E : Nat → Bool) : Nat → Nat → Nat
  | 0, k => k
  | n + 1, k => if E (k + 1) = true then agr E n (k + 1) else k
theorem agr_go {E : Nat → Bool} {d k o : Nat} (hk : k < d) (h : agr E (d - k) k = o) (he : E (k + 1) = true) : agr E (d - (k + 1)) (k + 1) = o := by
  rw [show d - k = (d - (k + 1)) + 1 by omega, agr, if_pos he] at h
  exact h
theorem agr_no {E : Nat → Bool} {d k o : Nat} (hk : k < d) (h : agr E (d - k) k = o) (he : E (k + 1) = false) : o = k := by
  rw [show d - k = (d - (k + 1)) + 1 by omega, agr, if_neg (by rw [he]; decide)] at h
  exact h.symm
theorem agr_le (E : Nat → Bool) : ∀ n k, k ≤ agr E n k ∧ agr E n k ≤ k + n := by
  intro n
  induction n with
  | zero => intro k; exact ⟨Nat.le_refl _, Nat.le_refl _⟩
  | succ n ih =>
    intro k
    rw [agr]
    split
    · have := ih (k + 1); omega
    · omega
/-- laws agree in degree 1 -/
theorem law_one {m : Int} {d : Nat} {t t' : List (List Int)} (hs : Pl.Ok m d t) (hs' : Pl.Ok m d t') (h : Pl.fau m d (Pl.pc t) = none) (h' : Pl.fau m d (Pl.pc t') = none) : eqL m t t' 1 = true := by
  have hd1 := hs.d1
  have key : ∀ {u : List (List Int)}, Pl.Ok m d u → Pl.fau m d (Pl.pc u) = none → ∀ i, i ≤ 1 → Pl.pc u i (1 - i) = 1 := by
    intro u hu hf i hi
    have hN : Pl.fauP d (Pl.pc u) = none ∧ Pl.fauS d (Pl.pc u) = none := by
      unfold Pl.fau at hf
      cases h1 : Pl.fauP d (Pl.pc u) with
      | some x => rw [h1] at hf; cases hf
      | none =>
        rw [h1, Pl.orE_none] at hf
        cases h2 : Pl.fauS d (Pl.pc u) with
        | some x => rw [h2] at hf; cases hf
        | none => exact ⟨rfl, rfl⟩
    have hn := Pl.norm_of hN.1 hN.2 (fun i j hij => hu.over i j hij)
    match i, hi with
    | 0, _ => exact (hn.y 1 (by omega)).trans rfl
    | 1, _ => exact (hn.x 1 (by omega)).trans rfl
  exact eqL_yes hs hs' 1 (fun i hi => by rw [key hs h i hi, key hs' h' i hi])
set_option maxHeartbeats 4000000 in
set_option maxRecDepth 100000 in
theorem layer_any (m : Int) (d : Nat) (A : Option Addr) (c : Nat) (t : List (List Int)) (n : Nat) (w : World) (hs : Pl.Ok m d t) (hr : RP w A t) (hn : n ≤ d) :
    Calls Try.prog 112 #[.agg #[.int .i64 m, .int .i64 d, .slice A t.length c], .int .i64 n] w fun e w' => ∃ v, e = .returned v ∧ OwnI w' w.heap.size v (layC m t n) ∧ Below w.heap.size w w' := by
  obtain ⟨b, off, rfl⟩ := hr.some (by rw [hs.len]; omega)
  have HG1 := Lib.hid (GBox.new 74 w m d (some ⟨b, off, none⟩) t.length c)
  have HWB := Lib.hid (below_one w (.cells #[.int .i64 m, .int .i64 d, .slice (some ⟨b, off, none⟩) t.length c] 74))
  obtain ⟨W, hW⟩ : ∃ W, w.alloc (.cells #[.int .i64 m, .int .i64 d, .slice (some ⟨b, off, none⟩) t.length c] 74) = W := ⟨_, rfl⟩
  have HWS : Hid (W.heap.size = w.heap.size + 1) := Lib.hid (by rw [← hW]; simp)
  rw [hW] at HG1 HWB
  have HW := Lib.hid hW
  have HB := HWB
  have HS := Lib.hid hs
  have HR := Lib.hid (hr.below HWB.out)
  have hd2 := hs.d2
  have hmk : ∀ W : World, (Instr.makeSlice 25 (.int .i64 ((n : Int) + 1)) (.int .i64 ((n : Int) + 1))).run Try.prog W = .ok (.slice (some ⟨W.heap.size, 0, none⟩) (n + 1) (n + 1)) (W.alloc (.cells (madeCells #[.int .i64 0] (n + 1)) 2)) := by
    intro W
    have := run_make_row' (P := Try.prog) 25 2 (.int .i64 0) 8 Try.underlying25 info64 rfl .i64 .i64 (n + 1) (by omega) (by omega) W
    rwa [show ((n + 1 : Nat) : Int) = (n : Int) + 1 by omega] at this
  have hm0 := OwnI.made W (n + 1) (by unfold maxLen; omega)
  rw [HWS.out] at hm0
  have HM := Lib.hid hm0
  clear hm0
  obtain ⟨L, hL⟩ : ∃ L, t.length = L := ⟨_, rfl⟩
  have HL := Lib.hid hL
  have HLd := Lib.hid (hL.symm.trans hs.len)
  have HCO := Lib.hid (fun i (hi : i ≤ n) => layC_co hs n i hi)
  rw [hL] at HG1 HW ⊢
  have hw1 : IntKind.i64.wrap ((n : Int) + 1) = (n : Int) + 1 := by rw [IntKind.wrap_i64]; omega
  clear hW hr hs hL
  obtain ⟨x1, x2, x3, x4⟩ := HG1.out
  go_enter Try.func112, Try.ntmps112
  go_wp2
  rw [HW.out]
  go_wp2
  clear x1 x2 x3 x4
  go_loopw [6, 12] (fun _ q wr => ∃ k : Nat, k ≤ n + 1 ∧ q = .int .i64 k ∧ OwnI wr (w.heap.size + 1) (.slice (some ⟨w.heap.size + 1, 0, none⟩) (n + 1) (n + 1)) ((layC m t n).take k ++ List.replicate (n + 1 - k) 0) ∧ Below W.heap.size W wr) (fun _ q _ => n + 1 - (intOf q).toNat)
  case atStart => exact ⟨0, Nat.zero_le _, rfl, by simpa using HM.out, below_one _ _⟩
  case round =>
    clear HM hmk
    obtain ⟨k, hk, rfl, hown, hbel⟩ := hrel
    have HBE := Lib.hid hbel
    have HO := Lib.hid hown
    by_cases hlt : k < n + 1
    · obtain ⟨p1, p2, p3, M, hM, x1, x2, x3⟩ := (HG1.out.keep hbel).num' HL.out HS.out (HR.out.below hbel) k (n - k) (by omega)
      obtain ⟨_, _, o3, o4⟩ := hown.cells
      have hd1 := o3 k (by simp [layC_length]; omega)
      have hf1 := o4 k
      obtain ⟨y, hy⟩ : ∃ y, ((layC m t n).take k ++ List.replicate (n + 1 - k) 0)[k]?.getD 0 = y := ⟨_, rfl⟩
      rw [hy] at hd1
      have hst := cut_step m n (fun i => Pl.pc t i (n - i)) k (by omega)
      have r1 := HS.out.pc k (n - k)
      rw [Int.emod_eq_of_lt r1.1 r1.2] at hst
      have hset := hown.set k (Pl.pc t k (n - k))
      rw [show (layC m t n).take k ++ List.replicate (n + 1 - k) 0 = (Ser.cut m n fun i => Pl.pc t i (n - i)).take k ++ List.replicate (n + 1 - k) 0 from rfl, hst] at hset
      obtain ⟨X, hX⟩ : ∃ X, Pl.pc t k (n - k) = X := ⟨_, rfl⟩
      rw [hX] at x3 hset
      have HSE := Lib.hid hset
      have HBX := Lib.hid (hbel.setCell (p := ⟨w.heap.size + 1, k, none⟩) (by show W.heap.size ≤ w.heap.size + 1; rw [HWS.out]; exact Nat.le_refl _) (.int .i64 X))
      have hLd := HLd.out
      have j0 : (0 : Int) ≤ (k : Int) := by omega
      have j1 : (k : Int) < (L : Int) := by omega
      have j2 : (0 : Int) ≤ (n : Int) - (k : Int) := by omega
      have j3 : (n : Int) - (k : Int) < (M : Int) := by omega
      have j4 : ((n : Int) - (k : Int)).toNat = n - k := by omega
      have j5 : (k : Int) < (n : Int) + 1 := by omega
      clear hbel hown o3 o4 hy hst hset hX hM hLd r1
      go_wp2
      go_roundw
      case rel => exact ⟨k + 1, by omega, by go_num, HSE.out, HBX.out⟩
      case measure => simp only [intOf]; omega
    · obtain rfl : k = n + 1 := by omega
      have ho := HO.out
      rw [List.take_of_length_le (by rw [layC_length]; exact Nat.le_refl _), Nat.sub_self, List.replicate_zero, List.append_nil] at ho
      have HF := Lib.hid (ho.more (show w.heap.size ≤ w.heap.size + 1 by omega))
      clear hbel hown ho
      go_wp2
      go_ret
      exact ⟨_, rfl, HF.out, below_step HB.out HBE.out⟩
set_option maxHeartbeats 8000000 in
set_option maxRecDepth 100000 in
theorem l04Agreement_any (m : Int) (d : Nat) (A : Option Addr) (c : Nat) (t : List (List Int)) (A' : Option Addr) (c' : Nat) (t' : List (List Int)) (w : World) (hs : Pl.Ok m d t) (hs' : Pl.Ok m d t') (hr : RP w A t) (hr' : RP w A' t') :
    Calls Try.prog 108 #[.agg #[.int .i64 m, .slice A t.length c], .agg #[.int .i64 m, .slice A' t'.length c']] w fun e w' => e = .returned (.int .i64 (agr (eqL m t t') d 0 : Nat)) ∧ Below w.heap.size w w' := by
  obtain ⟨b, off, rfl⟩ := hr.some (by rw [hs.len]; omega)
  obtain ⟨b', off', rfl⟩ := hr'.some (by rw [hs'.len]; omega)
  obtain ⟨W, hW, b1, b2, hwb⟩ := start2 33 w m (some ⟨b, off, none⟩) t.length c m (some ⟨b', off', none⟩) t'.length c'
  have B1 := Lib.hid b1
  have B2 := Lib.hid b2
  have HB := Lib.hid hwb
  have HW := Lib.hid hW
  have hd2 := hs.d2
  have HNUM := Lib.hid (rp_num_in (hr.below hwb) hs)
  have HNUM' := Lib.hid (rp_num_in (hr'.below hwb) hs')
  have HY := Lib.hid (fun n h => eqL_yes hs hs' n h)
  have HNO := Lib.hid (fun n i hi h => eqL_no hs hs' n i hi h)
  obtain ⟨o, ho⟩ : ∃ o, agr (eqL m t t') d 0 = o := ⟨_, rfl⟩
  have HO := Lib.hid (show agr (eqL m t t') (d - 0) 0 = o from ho)
  rw [ho]
  obtain ⟨E, hE⟩ : ∃ E, eqL m t t' = E := ⟨_, rfl⟩
  rw [hE] at HY HNO HO
  obtain ⟨L, hL⟩ : ∃ L, t.length = L := ⟨_, rfl⟩
  rw [hL] at B1 HW ⊢
  have HLd := Lib.hid (hL.symm.trans hs.len)
  obtain ⟨L', hL'⟩ : ∃ L, t'.length = L := ⟨_, rfl⟩
  rw [hL'] at B2 HW ⊢
  obtain rfl : L' = L := by have := hs.len; have := hs'.len; omega
  have hLb : L' ≤ 11 := by have := HLd.out; omega
  clear b1 b2 hwb hW hr hr' hs hs' hL hL' ho hE
  go_enter Try.func108, Try.ntmps108
  go_wp2
  rw [HW.out]
  go_loopw [5, 6] (fun s5 _ wr => ∃ n : Nat, n ≤ d ∧ s5 = .int .i64 ((n : Int) + 1) ∧ agr E (d - n) n = o ∧ Below W.heap.size W wr) (fun s5 _ _ => d + 2 - (intOf s5).toNat)
  case atStart => exact ⟨0, Nat.zero_le _, by first | rfl | go_num, HO.out, Below.refl _ _⟩
  case round =>
    clear HO
    obtain ⟨n, hn, rfl, hag, hbel⟩ := hrel
    have HBE := Lib.hid hbel
    have hLd := HLd.out
    obtain ⟨x1, x2, -⟩ := B1.out.keep hbel
    by_cases hlt : n < d
    · have HAG := Lib.hid hag
      have j1 : (n : Int) + 1 < (L' : Int) := by omega
      clear hbel hag hLd
      go_wp2
      clear x1 x2
      go_loopw [6] (fun s6 wr => ∃ i : Nat, i ≤ n + 2 ∧ s6 = .int .i64 i ∧ (∀ j, j < i → Pl.pc t j (n + 1 - j) = Pl.pc t' j (n + 1 - j)) ∧ Below W.heap.size W wr) (fun s6 _ => n + 3 - (intOf s6).toNat)
      case atStart => exact ⟨0, Nat.zero_le _, rfl, fun j h => absurd h (Nat.not_lt_zero _), HBE.out⟩
      case round =>
        clear HBE
        obtain ⟨i, hi, rfl, hall, hbel⟩ := hrel
        have HBE := Lib.hid hbel
        have HAL := Lib.hid hall
        have hLd := HLd.out
        clear hall
        by_cases hil : i ≤ n + 1
        · obtain ⟨x1, x2, -⟩ := B1.out.keep hbel
          obtain ⟨y1, y2, -⟩ := B2.out.keep hbel
          obtain ⟨b3, o3, c3, M1, hM1, f1, f2⟩ := HNUM.out i (n + 1 - i) wr (by omega) hbel
          obtain ⟨b4, o4, c4, M2, hM2, f3, f4⟩ := HNUM'.out i (n + 1 - i) wr (by omega) hbel
          have hne := HNO.out (n + 1) i hil
          obtain ⟨X, hX⟩ : ∃ X, Pl.pc t i (n + 1 - i) = X := ⟨_, rfl⟩
          obtain ⟨Y, hY⟩ : ∃ Y, Pl.pc t' i (n + 1 - i) = Y := ⟨_, rfl⟩
          rw [hX] at f2
          rw [hY] at f4
          rw [hX, hY] at hne
          have j2 : (0 : Int) ≤ (i : Int) := by omega
          have j3 : (i : Int) ≤ (n : Int) + 1 := by omega
          have j4 : (i : Int) < (L' : Int) := by omega
          have j5 : (0 : Int) ≤ (n : Int) + 1 - (i : Int) := by omega
          have j6 : (n : Int) + 1 - (i : Int) < (M1 : Int) := by omega
          have j7 : (n : Int) + 1 - (i : Int) < (M2 : Int) := by omega
          have j8 : ((n : Int) + 1 - (i : Int)).toNat = n + 1 - i := by omega
          clear hbel hM1 hM2 hLd
          by_cases hxy : X = Y
          · have HXY := Lib.hid (hX.trans (hxy.trans hY.symm))
            subst hxy
            clear hX hY hne
            go_wp2
            go_quiet (fail)
            go_wp2
            go_roundw
            case rel => exact ⟨i + 1, by omega, by go_num, fun q hq => (Nat.lt_succ_iff_lt_or_eq.1 hq).elim (HAL.out q) (fun h => h ▸ HXY.out), below_drewN HBE.out _⟩
            case measure => simp only [intOf]; omega
          · have HR : Hid (o = n) := Lib.hid (agr_no hlt HAG.out (hne hxy))
            obtain ⟨n1, n2⟩ : (X == Y) = false ∧ (X != Y) = true := ⟨by simpa using hxy, by simpa using hxy⟩
            clear hX hY hne
            go_wp2
            go_quiet (fail)
            go_wp2
            go_ret
            exact ⟨ret_int (by rw [HR.out]), below_drewN (below_step HB.out HBE.out) _⟩
        · have HR : Hid (agr E (d - (n + 1)) (n + 1) = o) := Lib.hid (agr_go hlt HAG.out (HY.out (n + 1) (fun q hq => HAL.out q (by omega))))
          have j3 : ¬ (i : Int) ≤ (n : Int) + 1 := by omega
          clear hbel hLd
          go_wp2
          go_roundw
          case rel => exact ⟨n + 1, by omega, by go_num, HR.out, HBE.out⟩
          case measure => simp only [intOf]; omega
    · obtain rfl : n = d := by omega
      rw [Nat.sub_self] at hag
      have HR : Hid (o = n) := Lib.hid (show o = n from hag.symm)
      have j1 : ¬ (n : Int) + 1 < (L' : Int) := by omega
      have j2 : (L' : Int) - 1 = (n : Int) := by omega
      clear hag hbel hLd
      go_wp2
      go_ret
      exact ⟨ret_int (by rw [HR.out]), below_step HB.out HBE.out⟩
end Go.Proofs.Yteicllnbphljnaa

/- Contracts of AgreementOf, of the program and of the model. -/
namespace Go.Proofs.Yteicllnbphljnaa
open Go.RowKit Go.WideShapes Go.ChangeShapes Go.ChangeAt

/-- two grids' boxes and the way from W, in the walk's form, are kept by a call -/
theorem gg_keep {W w w' : World} {g g' : Nat} {x y z x' y' z' : Value} (hb : Below w.heap.size w w')
    (h : (w.cell? ⟨g, 0, none⟩ = some x ∧ w.cell? ⟨g, 1, none⟩ = some y ∧ w.cell? ⟨g, 2, none⟩ = some z ∧ g < w.heap.size) ∧ (w.cell? ⟨g', 0, none⟩ = some x' ∧ w.cell? ⟨g', 1, none⟩ = some y' ∧ w.cell? ⟨g', 2, none⟩ = some z' ∧ g' < w.heap.size) ∧ Below W.heap.size W w) :
    (w'.cell? ⟨g, 0, none⟩ = some x ∧ w'.cell? ⟨g, 1, none⟩ = some y ∧ w'.cell? ⟨g, 2, none⟩ = some z ∧ g < w'.heap.size) ∧ (w'.cell? ⟨g', 0, none⟩ = some x' ∧ w'.cell? ⟨g', 1, none⟩ = some y' ∧ w'.cell? ⟨g', 2, none⟩ = some z' ∧ g' < w'.heap.size) ∧ Below W.heap.size W w' :=
  ⟨gb_keep hb h.1, gb_keep hb h.2.1, below_step h.2.2 hb⟩
set_option maxHeartbeats 8000000 in
set_option maxRecDepth 100000 in
theorem agreement_any (m : Int) (d : Nat) (A : Option Addr) (c : Nat) (t : List (List Int)) (A' : Option Addr) (c' : Nat) (t' : List (List Int)) (w : World) (hs : Pl.Ok m d t) (hs' : Pl.Ok m d t') (h1 : eqL m t t' 1 = true) (hr : RP w A t) (hr' : RP w A' t') :
    Calls Try.prog 109 #[.agg #[.int .i64 m, .int .i64 d, .slice A t.length c], .agg #[.int .i64 m, .int .i64 d, .slice A' t'.length c']] w fun e w' => e = .returned (.int .i64 (agr (eqL m t t') d 0 : Nat)) ∧ Below w.heap.size w w' := by
  obtain ⟨W, hW, b1, b2, -, hwb⟩ := (⟨_, rfl, (GBox.new 97 w m d A t.length c).keep (below_one _ _), by have := GBox.new 97 (w.alloc (.cells #[.int .i64 m, .int .i64 d, .slice A t.length c] 97)) m d A' t'.length c'; simpa using this, trivial, below_alloc _ (below_one _ _)⟩ :
    ∃ W, (w.alloc (.cells #[.int .i64 m, .int .i64 d, .slice A t.length c] 97)).alloc (.cells #[.int .i64 m, .int .i64 d, .slice A' t'.length c'] 97) = W ∧ GBox W w.heap.size m d A t.length c ∧ GBox W (w.heap.size + 1) m d A' t'.length c' ∧ True ∧ Below w.heap.size w W)
  have B1 := Lib.hid b1
  have B2 := Lib.hid b2
  have HB := Lib.hid hwb
  have HW := Lib.hid hW
  have hd1 := hs.d1
  have hd2 := hs.d2
  have HLF := Lib.hid (fun (n : Nat) (W0 : World) (hn : n ≤ d) (h : Below W.heap.size W W0) => layer_any m d A c t n W0 hs ((hr.below hwb).below h) hn)
  have HLG := Lib.hid (fun (n : Nat) (W0 : World) (hn : n ≤ d) (h : Below W.heap.size W W0) => layer_any m d A' c' t' n W0 hs' ((hr'.below hwb).below h) hn)
  obtain ⟨o, ho⟩ : ∃ o, agr (eqL m t t') d 0 = o := ⟨_, rfl⟩
  have HO := Lib.hid (agr_go (d := d) (k := 0) (by omega) ho h1)
  rw [ho]
  obtain ⟨L, hL⟩ : ∃ L, t.length = L := ⟨_, rfl⟩
  rw [hL] at B1 HW HLF ⊢
  obtain ⟨L', hL'⟩ : ∃ L, t'.length = L := ⟨_, rfl⟩
  rw [hL'] at B2 HW HLG ⊢
  clear b1 b2 hwb hW hr hr' hs hs' hL hL' ho h1
  go_enter Try.func109, Try.ntmps109
  go_wp2
  rw [HW.out]
  go_loopw [5] (fun s5 wr => ∃ k : Nat, k ≤ d ∧ 1 ≤ k ∧ s5 = .int .i64 k ∧ agr (eqL m t t') (d - k) k = o ∧ Below W.heap.size W wr) (fun s5 _ => d + 2 - (intOf s5).toNat)
  case atStart => exact ⟨1, hd1, Nat.le_refl _, rfl, HO.out, Below.refl _ _⟩
  case round =>
    clear HO
    obtain ⟨k, hk, hk1, rfl, hag, hbel⟩ := hrel
    have HBE := Lib.hid hbel
    obtain ⟨x1, x2, x3, x4⟩ := B1.out.keep hbel
    obtain ⟨y1, y2, y3, y4⟩ := B2.out.keep hbel
    by_cases hlt : k < d
    · have HAG := Lib.hid hag
      have hf := fun (W0 : World) (h : Below W.heap.size W W0) => HLF.out (k + 1) W0 (by omega) h
      have hg := fun (W0 : World) (h : Below W.heap.size W W0) => HLG.out (k + 1) W0 (by omega) h
      rw [show ((k + 1 : Nat) : Int) = (k : Int) + 1 by omega] at hf hg
      have HF := Lib.hid hf
      have HG := Lib.hid hg
      have HEQ := Lib.hid (fun (Aa : Option Addr) (ca : Nat) (Ab : Option Addr) (cb : Nat) (W0 : World) (h : RI W0 Aa (layC m t (k + 1))) (h' : RI W0 Ab (layC m t' (k + 1))) =>
        eqS_any Aa ca (layC m t (k + 1)) Ab cb (layC m t' (k + 1)) W0 (by rw [layC_length]; omega) h h')
      obtain ⟨e, he⟩ : ∃ e, eqL m t t' (k + 1) = e := ⟨_, rfl⟩
      rw [show decide (layC m t (k + 1) = layC m t' (k + 1)) = e from he] at HEQ
      have HE := Lib.hid he
      obtain ⟨P1, hP1⟩ : ∃ P, layC m t (k + 1) = P := ⟨_, rfl⟩
      obtain ⟨P2, hP2⟩ : ∃ P, layC m t' (k + 1) = P := ⟨_, rfl⟩
      rw [hP1] at HF HEQ
      rw [hP2] at HG HEQ
      have j1 : (k : Int) < (d : Int) := by omega
      have hw1 : IntKind.i64.wrap ((k : Int) + 1) = (k : Int) + 1 := by rw [IntKind.wrap_i64]; omega
      have X0 := Lib.hid (gg_keep (below_drew0 wr) ⟨⟨x1, x2, x3, x4⟩, ⟨y1, y2, y3, y4⟩, hbel⟩)
      clear hf hg he hP1 hP2 hag hbel x1 x2 x3 x4 y1 y2 y3 y4
      cases e with
      | true =>
        have HR := Lib.hid (agr_go hlt HAG.out HE.out)
        go_wp2
        go_region_held3 (fun w' => (w'.cell? ⟨w.heap.size, 0, none⟩ = some (.int .i64 m) ∧ w'.cell? ⟨w.heap.size, 1, none⟩ = some (.int .i64 d) ∧ w'.cell? ⟨w.heap.size, 2, none⟩ = some (.slice A L c) ∧ w.heap.size < w'.heap.size) ∧ (w'.cell? ⟨w.heap.size + 1, 0, none⟩ = some (.int .i64 m) ∧ w'.cell? ⟨w.heap.size + 1, 1, none⟩ = some (.int .i64 d) ∧ w'.cell? ⟨w.heap.size + 1, 2, none⟩ = some (.slice A' L' c') ∧ w.heap.size + 1 < w'.heap.size) ∧ Below W.heap.size W w') (first | exact X0.out | exact gg_keep hbc (by assumption) | exact gg_keep hbb (by assumption) | exact gg_keep hba (by assumption)) (first
          | (go_at_call 112; with_reducible refine Calls.mono (HF.out _ (thr3 (by assumption))) ?_; rintro e wa ⟨va, rfl, oa, hba⟩; obtain ⟨Aa, ca, rfl, -⟩ := oa.form; have ra := oa.ri)
          | (go_at_call 112; with_reducible refine Calls.mono (HG.out _ (thr3 (by assumption))) ?_; rintro e wb ⟨vb, rfl, ob, hbb⟩; obtain ⟨Ab, cb, rfl, -⟩ := ob.form; have rb := ob.ri)
          | (go_at_call 146; with_reducible refine Calls.mono (HEQ.out _ _ _ _ _ (by first | exact ra | exact ra.below hbb) (by first | exact rb | exact rb.below hba)) ?_; rintro e wc ⟨rfl, hbc⟩))
        all_goals
          have HB9 := Lib.hid (show Below W.heap.size W wc from thr3 (by assumption))
          clear ra rb oa ob hba hbb hbc
          go_wp2
          go_roundw
          case rel => exact ⟨k + 1, by omega, by omega, by go_num, HR.out, HB9.out⟩
          case measure => simp only [intOf]; omega
      | false =>
        have HR : Hid (o = k) := Lib.hid (agr_no hlt HAG.out HE.out)
        go_wp2
        go_region_held3 (fun w' => (w'.cell? ⟨w.heap.size, 0, none⟩ = some (.int .i64 m) ∧ w'.cell? ⟨w.heap.size, 1, none⟩ = some (.int .i64 d) ∧ w'.cell? ⟨w.heap.size, 2, none⟩ = some (.slice A L c) ∧ w.heap.size < w'.heap.size) ∧ (w'.cell? ⟨w.heap.size + 1, 0, none⟩ = some (.int .i64 m) ∧ w'.cell? ⟨w.heap.size + 1, 1, none⟩ = some (.int .i64 d) ∧ w'.cell? ⟨w.heap.size + 1, 2, none⟩ = some (.slice A' L' c') ∧ w.heap.size + 1 < w'.heap.size) ∧ Below W.heap.size W w') (first | exact X0.out | exact gg_keep hbc (by assumption) | exact gg_keep hbb (by assumption) | exact gg_keep hba (by assumption)) (first
          | (go_at_call 112; with_reducible refine Calls.mono (HF.out _ (thr3 (by assumption))) ?_; rintro e wa ⟨va, rfl, oa, hba⟩; obtain ⟨Aa, ca, rfl, -⟩ := oa.form; have ra := oa.ri)
          | (go_at_call 112; with_reducible refine Calls.mono (HG.out _ (thr3 (by assumption))) ?_; rintro e wb ⟨vb, rfl, ob, hbb⟩; obtain ⟨Ab, cb, rfl, -⟩ := ob.form; have rb := ob.ri)
          | (go_at_call 146; with_reducible refine Calls.mono (HEQ.out _ _ _ _ _ (by first | exact ra | exact ra.below hbb) (by first | exact rb | exact rb.below hba)) ?_; rintro e wc ⟨rfl, hbc⟩))
        all_goals
          have HB9 := Lib.hid (show Below W.heap.size W wc from thr3 (by assumption))
          clear ra rb oa ob hba hbb hbc
          go_wp2
          go_ret
          exact ⟨ret_int (by rw [HR.out]), below_step HB.out HB9.out⟩
    · obtain rfl : k = d := by omega
      rw [Nat.sub_self] at hag
      have HR : Hid (o = k) := Lib.hid (show o = k from hag.symm)
      clear hag hbel
      go_wp2
      go_quiet (fail)
      go_wp2
      go_ret
      exact ⟨ret_int (by rw [HR.out]), below_drewN (below_step HB.out HBE.out) _⟩
end Go.Proofs.Yteicllnbphljnaa

/- Contracts of AgreementOf, of the program and of the model. -/
namespace Go.Proofs.Yteicllnbphljnaa
open Go.RowKit Go.WideShapes Go.ChangeShapes Go.ChangeAt

theorem codeL2_ok {m : Int} {t : List (List Int)} {m' : Int} {t' : List (List Int)} (h : codeL2 m t m' t' = 0) :
    m = m' ∧ ∃ d, t.length = d + 1 ∧ t'.length = d + 1 ∧ Pl.Ok m d t ∧ Pl.Ok m d t' ∧ eqL m t t' 1 = true := by
  unfold codeL2 at h
  by_cases h1 : isL m t = true ∧ isL m' t' = true
  · rw [if_pos h1] at h
    by_cases h2 : m = m' ∧ t.length = t'.length
    · obtain ⟨rfl, h3⟩ := h2
      obtain ⟨_, d, e, ok, hf⟩ := isL_of h1.1
      obtain ⟨_, d', e', ok', hf'⟩ := isL_of h1.2
      obtain rfl : d' = d := by omega
      exact ⟨rfl, d', e, e', ok, ok', law_one ok ok' hf hf'⟩
    · rw [if_neg h2] at h; exact absurd h (by decide)
  · rw [if_neg h1] at h; exact absurd h (by decide)
/-- the model of AgreementOf -/
def agrL (m : Int) (t : List (List Int)) (m' : Int) (t' : List (List Int)) : Int × Int := if codeL2 m t m' t' = 0 then (((agr (eqL m t t') (t.length - 1) 0 : Nat) : Int), 0) else (0, codeL2 m t m' t')
/-- two planes' boxes and the list of both -/
theorem proTT (w : World) (m : Int) (A : Option Addr) (n c : Nat) (m' : Int) (A' : Option Addr) (n' c' : Nat) : ∃ W, ((w.alloc (.cells #[.int .i64 m, .slice A n c] 33)).alloc (.cells #[.int .i64 m', .slice A' n' c'] 33)).alloc (.cells #[.int .i64 m, .slice A n c, .int .i64 m', .slice A' n' c'] 33) = W ∧
    Box W w.heap.size m A n c ∧ Box W (w.heap.size + 1) m' A' n' c' ∧ Box4 W (w.heap.size + 1 + 1) m A n c m' A' n' c' ∧ Below w.heap.size w W := by
  obtain ⟨W0, h0, h1, h2, h4⟩ := start2 33 w m A n c m' A' n' c'
  have hs : W0.heap.size = w.heap.size + 1 + 1 := by rw [← h0]; simp
  rw [h0]
  refine ⟨_, rfl, h1.keep (below_one _ _), h2.keep (below_one _ _), ?_, below_alloc _ h4⟩
  have hv := VarC.new 33 W0 #[.int .i64 m, .slice A n c, .int .i64 m', .slice A' n' c']
  rw [hs] at hv
  exact ⟨⟨hv.cell 0 _ rfl, hv.cell 1 _ rfl, hv.lt⟩, hv.cell 2 _ rfl, hv.cell 3 _ rfl⟩
/-- two planes' boxes and the way from W, in the walk's form, are kept by a call -/
theorem bb_keep {W w w' : World} {g g' : Nat} {x y x' y' : Value} (hb : Below w.heap.size w w')
    (h : (w.cell? ⟨g, 0, none⟩ = some x ∧ w.cell? ⟨g, 1, none⟩ = some y ∧ g < w.heap.size) ∧ (w.cell? ⟨g', 0, none⟩ = some x' ∧ w.cell? ⟨g', 1, none⟩ = some y' ∧ g' < w.heap.size) ∧ Below W.heap.size W w) :
    (w'.cell? ⟨g, 0, none⟩ = some x ∧ w'.cell? ⟨g, 1, none⟩ = some y ∧ g < w'.heap.size) ∧ (w'.cell? ⟨g', 0, none⟩ = some x' ∧ w'.cell? ⟨g', 1, none⟩ = some y' ∧ g' < w'.heap.size) ∧ Below W.heap.size W w' :=
  ⟨⟨(hb.cell (p := ⟨g, 0, none⟩) h.1.2.2).trans h.1.1, (hb.cell (p := ⟨g, 1, none⟩) h.1.2.2).trans h.1.2.1, Nat.lt_of_lt_of_le h.1.2.2 hb.size⟩,
   ⟨(hb.cell (p := ⟨g', 0, none⟩) h.2.1.2.2).trans h.2.1.1, (hb.cell (p := ⟨g', 1, none⟩) h.2.1.2.2).trans h.2.1.2.1, Nat.lt_of_lt_of_le h.2.1.2.2 hb.size⟩, below_step h.2.2 hb⟩
set_option maxHeartbeats 8000000 in
set_option maxRecDepth 100000 in
theorem AgreementOf_any (m : Int) (A : Option Addr) (c : Nat) (t : List (List Int)) (m' : Int) (A' : Option Addr) (c' : Nat) (t' : List (List Int)) (w : World) (hz : szT t ≤ 1048576) (hz' : szT t' ≤ 1048576) (hr : RP w A t) (hr' : RP w A' t') :
    Calls Try.prog 55 #[.agg #[.int .i64 m, .slice A t.length c], .agg #[.int .i64 m', .slice A' t'.length c']] w fun e w' => e = .returned (.tuple #[.int .i64 (agrL m t m' t').1, .int .i64 (agrL m t m' t').2]) ∧ Below w.heap.size w w' := by
  obtain ⟨W, hW, b1, b2, b4, hwb⟩ := proTT w m A t.length c m' A' t'.length c'
  have B1 := Lib.hid b1
  have B2 := Lib.hid b2
  have HB := Lib.hid hwb
  have HW := Lib.hid hW
  have hc := codeL2_any (w.heap.size + 1 + 1) m A c t m' A' c' t' W hz hz' (hr.below hwb) (hr'.below hwb) b4
  by_cases h0 : codeL2 m t m' t' = 0
  · obtain ⟨rfl, d, e1, e2, ok, ok', h1⟩ := codeL2_ok h0
    rw [h0] at hc
    have HC0 := Lib.hid hc
    have HA : Hid (agrL m t m t' = (((agr (eqL m t t') d 0 : Nat) : Int), 0)) := Lib.hid (by unfold agrL; rw [if_pos h0, e1]; rfl)
    rw [HA.out]
    have hd2 := ok.d2
    have HL1 := Lib.hid (fun W0 => lawOf_nat m A t.length c d W0 e1 (by omega))
    have HL2 := Lib.hid (fun W0 => lawOf_nat m A' t'.length c' d W0 e2 (by omega))
    have HAG := Lib.hid (fun W0 (h : Below W.heap.size W W0) => agreement_any m d A c t A' c' t' W0 ok ok' h1 ((hr.below hwb).below h) ((hr'.below hwb).below h))
    obtain ⟨o, ho⟩ : ∃ o, agr (eqL m t t') d 0 = o := ⟨_, rfl⟩
    rw [ho] at HAG ⊢
    obtain ⟨L, hL⟩ : ∃ L, t.length = L := ⟨_, rfl⟩
    obtain ⟨L', hL'⟩ : ∃ L, t'.length = L := ⟨_, rfl⟩
    rw [hL] at HL1 HAG HW B1 ⊢
    rw [hL'] at HL2 HAG HW B2 ⊢
    clear b1 b2 b4 hwb hW hr hr' hc h0 ok ok' e1 e2 hz hz' h1 ho hL hL' HA
    go_enter Try.func55, Try.ntmps55
    go_wp2_with fail
    rw [HW.out]
    refine HC0.out.mono ?_
    rintro e w1 ⟨rfl, hb1⟩
    have X0 := Lib.hid (bb_keep (below_drew0 w1) ⟨B1.out.keep hb1, B2.out.keep hb1, hb1⟩)
    go_wp2
    go_region_held3 (fun w' => (w'.cell? ⟨w.heap.size, 0, none⟩ = some (.int .i64 m) ∧ w'.cell? ⟨w.heap.size, 1, none⟩ = some (.slice A L c) ∧ w.heap.size < w'.heap.size) ∧ (w'.cell? ⟨w.heap.size + 1, 0, none⟩ = some (.int .i64 m) ∧ w'.cell? ⟨w.heap.size + 1, 1, none⟩ = some (.slice A' L' c') ∧ w.heap.size + 1 < w'.heap.size) ∧ Below W.heap.size W w') (first | exact X0.out | exact bb_keep hbc (by assumption) | exact bb_keep hbb (by assumption) | exact bb_keep hba (by assumption)) (first
      | (go_at_call 96; with_reducible refine Calls.mono (HL1.out _) ?_; rintro e wa ⟨rfl, hba⟩)
      | (go_at_call 96; with_reducible refine Calls.mono (HL2.out _) ?_; rintro e wb ⟨rfl, hbb⟩)
      | (go_at_call 109; with_reducible refine Calls.mono (HAG.out _ (thr3 (by assumption))) ?_; rintro e wc ⟨rfl, hbc⟩))
    all_goals
      have HB9 := Lib.hid (show Below W.heap.size W wc from thr3 (by assumption))
      clear hba hbb hbc hb1
      go_wp2
      go_ret2
      exact ⟨rfl, below_step HB.out HB9.out⟩
  · have HA : Hid (agrL m t m' t' = (0, codeL2 m t m' t')) := Lib.hid (by unfold agrL; rw [if_neg h0])
    rw [HA.out]
    obtain ⟨n1, n2⟩ := ne_facts h0
    obtain ⟨C, hC⟩ : ∃ C, codeL2 m t m' t' = C := ⟨_, rfl⟩
    rw [hC] at n1 n2 h0 hc ⊢
    have HC0 := Lib.hid hc
    clear b1 b2 b4 hwb hW hr hr' hz hz' hc hC HA
    go_enter Try.func55, Try.ntmps55
    go_wp2_with fail
    rw [HW.out]
    refine HC0.out.mono ?_
    rintro e w1 ⟨rfl, hb1⟩
    have HB1 := Lib.hid (below_step HB.out hb1)
    clear hb1
    go_wp2
    go_ret2
    exact ⟨rfl, HB1.out⟩
/-! the model -/
set_option maxHeartbeats 8000000 in
set_option maxRecDepth 100000 in
theorem l04Two_any (m : Int) (A : Option Addr) (c : Nat) (t : List (List Int)) (m' : Int) (A' : Option Addr) (c' : Nat) (t' : List (List Int)) (w : World) (hz : szT t ≤ 1048576) (hz' : szT t' ≤ 1048576) (hr : RP w A t) (hr' : RP w A' t') :
    Calls Try.prog 107 #[.agg #[.int .i64 m, .slice A t.length c], .agg #[.int .i64 m', .slice A' t'.length c']] w fun e w' => e = .returned (.int .i64 (codeL2 m t m' t')) ∧ Below w.heap.size w w' := by
  obtain ⟨W, hW, b1, b2, hwb⟩ := start2 33 w m A t.length c m' A' t'.length c'
  have B1 := Lib.hid b1
  have B2 := Lib.hid b2
  have HB := Lib.hid hwb
  have HW := Lib.hid hW
  have HI := Lib.hid (fun W0 (h : Below W.heap.size W W0) => l04Is_any m A c t W0 hz ((hr.below hwb).below h))
  have HI' := Lib.hid (fun W0 (h : Below W.heap.size W W0) => l04Is_any m' A' c' t' W0 hz' ((hr'.below hwb).below h))
  have hlb := lenT hz
  have hlb' := lenT hz'
  unfold codeL2
  obtain ⟨p, hp⟩ : ∃ p, isL m t = p := ⟨_, rfl⟩
  obtain ⟨q, hq⟩ : ∃ q, isL m' t' = q := ⟨_, rfl⟩
  rw [hp] at HI ⊢
  rw [hq] at HI' ⊢
  obtain ⟨L, hL⟩ : ∃ L, t.length = L := ⟨_, rfl⟩
  obtain ⟨L', hL'⟩ : ∃ L, t'.length = L := ⟨_, rfl⟩
  rw [hL] at HI HW B1 hlb ⊢
  rw [hL'] at HI' HW B2 hlb' ⊢
  clear b1 b2 hwb hW hr hr' hz hz' hp hq hL hL'
  cases p with
  | false =>
    rw [if_neg (fun h => absurd h.1 (by decide))]
    go_enter Try.func107, Try.ntmps107
    go_wp2_with fail
    rw [HW.out]
    refine (HI.out _ (Below.refl _ _)).mono ?_
    rintro e w1 ⟨rfl, hb1⟩
    have HB1 := Lib.hid (below_step HB.out hb1)
    clear hb1
    go_wp2
    go_ret
    exact ⟨rfl, HB1.out⟩
  | true =>
    cases q with
    | false =>
      rw [if_neg (fun h => absurd h.2 (by decide))]
      go_enter Try.func107, Try.ntmps107
      go_wp2_with fail
      rw [HW.out]
      refine (HI.out _ (Below.refl _ _)).mono ?_
      rintro e w1 ⟨rfl, hb1⟩
      obtain ⟨y1, y2, -⟩ := B2.out.keep hb1
      go_wp2_with fail
      refine (HI'.out _ hb1).mono ?_
      rintro e w2 ⟨rfl, hb2⟩
      have HB1 := Lib.hid (below_step HB.out (below_step hb1 hb2))
      clear hb1 hb2 y1 y2
      go_wp2
      go_ret
      exact ⟨rfl, HB1.out⟩
    | true =>
      rw [if_pos ⟨rfl, rfl⟩]
      obtain ⟨R, hR⟩ : ∃ R, (if m = m' ∧ L = L' then (0 : Int) else 2) = R := ⟨_, rfl⟩
      rw [hR]
      go_enter Try.func107, Try.ntmps107
      go_wp2_with fail
      rw [HW.out]
      refine (HI.out _ (Below.refl _ _)).mono ?_
      rintro e w1 ⟨rfl, hb1⟩
      obtain ⟨y1, y2, -⟩ := B2.out.keep hb1
      go_wp2_with fail
      refine (HI'.out _ hb1).mono ?_
      rintro e w2 ⟨rfl, hb2⟩
      have hb3 := below_step hb1 hb2
      clear y1 y2
      obtain ⟨x1, x2, -⟩ := B1.out.keep hb3
      obtain ⟨y1, y2, -⟩ := B2.out.keep hb3
      have HB1 := Lib.hid (below_step HB.out hb3)
      clear hb1 hb2 hb3
      by_cases hm : m = m'
      · subst hm
        by_cases hd : L = L'
        · subst hd
          have HR : Hid (R = 0) := Lib.hid (by rw [← hR, if_pos ⟨rfl, rfl⟩])
          clear hR
          go_wp2
          go_ret
          exact ⟨ret_int HR.out.symm, HB1.out⟩
        · have HR : Hid (R = 2) := Lib.hid (by rw [← hR, if_neg (fun h => hd h.2)])
          have hi : ¬ (L : Int) = (L' : Int) := by omega
          obtain ⟨n1, n2⟩ : ((L : Int) == (L' : Int)) = false ∧ ((L : Int) != (L' : Int)) = true := ⟨by simpa using hi, by simpa using hi⟩
          clear hR hd
          go_wp2
          go_ret
          exact ⟨ret_int HR.out.symm, HB1.out⟩
      · have HR : Hid (R = 2) := Lib.hid (by rw [← hR, if_neg (fun h => hm h.1)])
        obtain ⟨n1, n2⟩ : (m == m') = false ∧ (m != m') = true := ⟨by simpa using hm, by simpa using hm⟩
        clear hR
        go_wp2
        go_ret
        exact ⟨ret_int HR.out.symm, HB1.out⟩
set_option maxHeartbeats 4000000 in
set_option maxRecDepth 100000 in
theorem sAgreementOf_any (m : Int) (A : Option Addr) (c : Nat) (t : List (List Int)) (m' : Int) (A' : Option Addr) (c' : Nat) (t' : List (List Int)) (w : World) (hz : szT t ≤ 1048576) (hz' : szT t' ≤ 1048576) (hr : RP w A t) (hr' : RP w A' t') :
    Calls Try.prog 54 #[.agg #[.int .i64 m, .slice A t.length c], .agg #[.int .i64 m', .slice A' t'.length c']] w fun e w' => e = .returned (.tuple #[.int .i64 (agrL m t m' t').1, .int .i64 (agrL m t m' t').2]) ∧ Below w.heap.size w w' := by
  obtain ⟨W, hW, b1, b2, hwb⟩ := start2 33 w m A t.length c m' A' t'.length c'
  have B1 := Lib.hid b1
  have B2 := Lib.hid b2
  have HB := Lib.hid hwb
  have HW := Lib.hid hW
  have hc := l04Two_any m A c t m' A' c' t' W hz hz' (hr.below hwb) (hr'.below hwb)
  obtain ⟨x1, x2, -⟩ := B1.out
  obtain ⟨y1, y2, -⟩ := B2.out
  by_cases h0 : codeL2 m t m' t' = 0
  · obtain ⟨rfl, d, e1, e2, ok, ok', h1⟩ := codeL2_ok h0
    rw [h0] at hc
    have HC0 := Lib.hid hc
    have HA : Hid (agrL m t m t' = (((agr (eqL m t t') d 0 : Nat) : Int), 0)) := Lib.hid (by unfold agrL; rw [if_pos h0, e1]; rfl)
    rw [HA.out]
    have HAG := Lib.hid (fun W0 (h : Below W.heap.size W W0) => l04Agreement_any m d A c t A' c' t' W0 ok ok' ((hr.below hwb).below h) ((hr'.below hwb).below h))
    obtain ⟨o, ho⟩ : ∃ o, agr (eqL m t t') d 0 = o := ⟨_, rfl⟩
    have hob : o ≤ 10 := by rw [← ho]; have := (agr_le (eqL m t t') d 0).2; have := ok.d2; omega
    rw [ho] at HAG ⊢
    obtain ⟨L, hL⟩ : ∃ L, t.length = L := ⟨_, rfl⟩
    obtain ⟨L', hL'⟩ : ∃ L, t'.length = L := ⟨_, rfl⟩
    rw [hL] at HC0 HAG HW B1 x2 ⊢
    rw [hL'] at HC0 HAG HW B2 y2 ⊢
    clear b1 b2 hwb hW hr hr' hc h0 ok ok' e1 e2 hz hz' h1 ho hL hL' HA
    go_enter Try.func54, Try.ntmps54
    go_wp2_with fail
    rw [HW.out]
    refine HC0.out.mono ?_
    rintro e w1 ⟨rfl, hb1⟩
    clear x1 x2 y1 y2
    obtain ⟨x1, x2, -⟩ := B1.out.keep hb1
    obtain ⟨y1, y2, -⟩ := B2.out.keep hb1
    go_wp2_with fail
    refine (HAG.out _ hb1).mono ?_
    rintro e w2 ⟨rfl, hb2⟩
    have HB9 := Lib.hid (below_step HB.out (below_step hb1 hb2))
    clear hb1 hb2 x1 x2 y1 y2
    go_wp2
    go_ret2
    exact ⟨rfl, HB9.out⟩
  · have HA : Hid (agrL m t m' t' = (0, codeL2 m t m' t')) := Lib.hid (by unfold agrL; rw [if_neg h0])
    rw [HA.out]
    obtain ⟨n1, n2⟩ := ne_facts h0
    obtain ⟨C, hC⟩ : ∃ C, codeL2 m t m' t' = C := ⟨_, rfl⟩
    rw [hC] at n1 n2 h0 hc ⊢
    have HC0 := Lib.hid hc
    clear b1 b2 hwb hW hr hr' hz hz' hc hC HA
    go_enter Try.func54, Try.ntmps54
    go_wp2_with fail
    rw [HW.out]
    refine HC0.out.mono ?_
    rintro e w1 ⟨rfl, hb1⟩
    have HB1 := Lib.hid (below_step HB.out hb1)
    clear hb1 x1 x2 y1 y2
    go_wp2
    go_ret2
    exact ⟨rfl, HB1.out⟩
end Go.Proofs.Yteicllnbphljnaa

