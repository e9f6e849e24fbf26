/- Texts of contracts, joined. -/
import Derived.Test.YtfhdgcndiljjcabGreatMgag
import Derived.Test.YtfhdgcndiljjcabGreatMgad
import Derived.Test.YtfhdgcndiljjcabGreatMgaf
import Derived.Test.YtfhdgcndiljjcabGreatMgab
import Derived.Test.YtfhdgcndiljjcabGreatMgaa
/- Contract of the model's sum for f(a(t), b(t)). -/
namespace Go.Proofs.YtfhdgcndiljjcabGreat
open Go.RowKit Go.WideShapes Go.ChangeShapes Go.ChangeAt
end Go.Proofs.YtfhdgcndiljjcabGreat

/- Contract of the model's table for f(a(x), b(y)). -/
namespace Go.Proofs.YtfhdgcndiljjcabGreat
open Go.RowKit Go.WideShapes Go.ChangeShapes Go.ChangeAt
end Go.Proofs.YtfhdgcndiljjcabGreat

/- Contracts of a series put upon a plane: Horner's tables, the model's loop. -/
namespace Go.Proofs.YtfhdgcndiljjcabGreat
open Go.RowKit Go.WideShapes Go.ChangeShapes Go.ChangeAt
namespace Pl
/-- Horner's table when the last k coefficients have been taken in -/
def hor (m : Int) (d : Nat) (l : List Int) (F : Nat → Nat → Int) : Nat → List (List Int)
  | 0 => tab m d fun _ _ => 0
  | k + 1 => tab m d fun p q => mul2 (pc (hor m d l F k)) F p q + (if p = 0 ∧ q = 0 then Ser.co l (d - k) else 0)
theorem hor_length (m : Int) (d : Nat) (l : List Int) (F : Nat → Nat → Int) (k : Nat) : (hor m d l F k).length = d + 1 := by
  cases k <;> (unfold hor; exact tab_length _ _ _)
theorem mul2_left0 (a b : Nat → Nat → Int) (ha : ∀ i j, a i j = 0) (p q : Nat) : mul2 a b p q = 0 := by
  unfold mul2
  have h1 : ∀ n, Ser.psum (fun _ => (0 : Int)) n = 0 := fun n => by induction n with
    | zero => rfl
    | succ n ih => rw [Ser.psum, ih]; rfl
  rw [Ser.psum_ext (g := fun _ => 0) _ (fun k _ => ?_), h1]
  rw [Ser.psum_ext (g := fun _ => 0) _ (fun l _ => by rw [ha, Int.zero_mul]), h1]
theorem pc_zero (m : Int) (d : Nat) (i j : Nat) : pc (tab m d fun _ _ => 0) i j = 0 := by
  by_cases h : i + j ≤ d
  · rw [pc_tab h, Int.zero_emod]
  · rw [pc_over (by omega)]
/-- the program's step, for a plane with the constant 0 -/
theorem hor_stepP {m : Int} {d : Nat} {l : List Int} {F : Nat → Nat → Int} (k : Nat) (hF : F 0 0 = 0) (h1 : 0 ≤ Ser.co l (d - k)) (h2 : Ser.co l (d - k) < m) :
    (tab m d (mul2 (pc (hor m d l F k)) F)).set 0 ((rw' (tab m d (mul2 (pc (hor m d l F k)) F)) 0).set 0 (Ser.co l (d - k))) = hor m d l F (k + 1) := by
  refine tab_put (Nat.zero_le _) ?_ (fun p q _ hne => ?_)
  · rw [if_pos ⟨rfl, rfl⟩]
    have : mul2 (pc (hor m d l F k)) F 0 0 = 0 := by
      unfold mul2
      simp [Ser.psum, hF]
    rw [this, Int.zero_add, Int.emod_eq_of_lt h1 h2]
  · rw [if_neg hne, Int.add_zero]
/-- where the program begins -/
theorem hor_one {m : Int} {d : Nat} {l : List Int} (F : Nat → Nat → Int) (h1 : 0 ≤ Ser.co l d) (h2 : Ser.co l d < m) : tab m d (gosF (Ser.cut m d (Ser.mon 0 (Ser.co l d))) 0) = hor m d l F 1 := by
  show _ = tab m d _
  refine tab_congr (Eq.of m d (fun p q hpq => ?_))
  rw [mul2_left0 (pc (hor m d l F 0)) F (pc_zero m d), Int.zero_add]
  unfold gosF
  rw [if_pos rfl, Nat.sub_zero]
  by_cases hq : q = 0
  · rw [if_pos hq, Ser.co_cut (by omega)]
    unfold Ser.mon
    by_cases hp : p = 0
    · rw [if_pos hp, if_pos ⟨hp, hq⟩, Int.emod_eq_of_lt h1 h2]
    · rw [if_neg hp, if_neg (fun h => hp h.1), Int.zero_emod]
  · rw [if_neg hq, if_neg (fun h => hq h.2)]
end Pl
end Go.Proofs.YtfhdgcndiljjcabGreat

/- Contract of a series put upon a grid, of the program. -/
namespace Go.Proofs.YtfhdgcndiljjcabGreat
open Go.RowKit Go.WideShapes Go.ChangeShapes Go.ChangeAt
/-- a grid has been stored into a new variable -/
theorem reg_newG {wk cur wd : World} {A : Option Addr} {n c : Nat} {T : List (List Int)} (hk : wk.heap.size ≤ cur.heap.size) (ho : OwnR wd cur.heap.size wd.heap.size (.slice A n c) T) (hb : Below wk.heap.size wk wd) (m d : Int) (t : TypeId) :
    VarC t (wd.alloc (.cells #[.int .i64 m, .int .i64 d, .slice A n c] t)) wd.heap.size #[.int .i64 m, .int .i64 d, .slice A n c] ∧ OwnR (wd.alloc (.cells #[.int .i64 m, .int .i64 d, .slice A n c] t)) cur.heap.size wd.heap.size (.slice A n c) T ∧
    (wd.heap.size < cur.heap.size ∨ wd.heap.size ≤ wd.heap.size) ∧ wk.heap.size ≤ cur.heap.size ∧ wd.heap.size ≤ (wd.alloc (.cells #[.int .i64 m, .int .i64 d, .slice A n c] t)).heap.size ∧ Below wk.heap.size wk (wd.alloc (.cells #[.int .i64 m, .int .i64 d, .slice A n c] t)) ∧ wk.heap.size ≤ wd.heap.size :=
  ⟨VarC.new _ _ _, ho.keep (below_one _ _), .inr (Nat.le_refl _), hk, (below_one wd _).size, below_alloc _ hb, hb.size⟩
/-- a grid has been stored into a variable that lay there before the call -/
theorem reg_finG {t : TypeId} {wk cur wd : World} {g : Nat} {A : Option Addr} {n c : Nat} {T : List (List Int)} {x y z : Value} (hk : wk.heap.size ≤ g) (hgc : g < cur.heap.size) (hle : wk.heap.size ≤ cur.heap.size) (hv : VarC t wd g #[x, y, z]) (ho : OwnR wd cur.heap.size wd.heap.size (.slice A n c) T) (hb : Below wk.heap.size wk wd) (m d : Int) :
    VarC t (((wd.setCell ⟨g, 0, none⟩ (.int .i64 m)).setCell ⟨g, 1, none⟩ (.int .i64 d)).setCell ⟨g, 2, none⟩ (.slice A n c)) g #[.int .i64 m, .int .i64 d, .slice A n c] ∧
    OwnR (((wd.setCell ⟨g, 0, none⟩ (.int .i64 m)).setCell ⟨g, 1, none⟩ (.int .i64 d)).setCell ⟨g, 2, none⟩ (.slice A n c)) cur.heap.size wd.heap.size (.slice A n c) T ∧
    (g < cur.heap.size ∨ wd.heap.size ≤ g) ∧ wk.heap.size ≤ cur.heap.size ∧ wd.heap.size ≤ (((wd.setCell ⟨g, 0, none⟩ (.int .i64 m)).setCell ⟨g, 1, none⟩ (.int .i64 d)).setCell ⟨g, 2, none⟩ (.slice A n c)).heap.size ∧
    Below wk.heap.size wk (((wd.setCell ⟨g, 0, none⟩ (.int .i64 m)).setCell ⟨g, 1, none⟩ (.int .i64 d)).setCell ⟨g, 2, none⟩ (.slice A n c)) ∧ wk.heap.size ≤ g :=
  ⟨hv.set3 _ _ _, ho.far (Span.of_grown (lo := g) (hi := g + 1) (grown_set3 wd g _ _ _) (fun b hb => by injection hb with hb; omega)) (.inr (by omega)), .inl hgc, hle, (grown_set3 wd g _ _ _).size, below_set3 hb hk _ _ _, hk⟩
/-- a series' box, a grid's box, the result's variable -/
theorem gproA (w : World) (m : Int) (A : Option Addr) (n c : Nat) (m' : Int) (d' : Nat) (A' : Option Addr) (n' c' : Nat) : ∃ W, ((w.alloc (.cells #[.int .i64 m, .slice A n c] 39)).alloc (.cells #[.int .i64 m', .int .i64 d', .slice A' n' c'] 55)).alloc (.cells #[.int .i64 0, .int .i64 0, .slice none 0 0] 55) = W ∧
    Box W w.heap.size m A n c ∧ GBox W (w.heap.size + 1) m' d' A' n' c' ∧ VarC 55 W (w.heap.size + 1 + 1) #[.int .i64 0, .int .i64 0, .slice none 0 0] ∧ Below w.heap.size w W := by
  refine ⟨_, rfl, ((Box.newT _ _ _ _ _ _).keep (below_one _ _)).keep (below_one _ _), ?_, ?_, below_alloc _ (below_alloc _ (below_one _ _))⟩
  · have := (GBox.new 55 (w.alloc (.cells #[.int .i64 m, .slice A n c] 39)) m' d' A' n' c').keep (below_one _ (.cells #[.int .i64 0, .int .i64 0, .slice none 0 0] 55))
    simpa using this
  · have := VarC.new 55 ((w.alloc (.cells #[.int .i64 m, .slice A n c] 39)).alloc (.cells #[.int .i64 m', .int .i64 d', .slice A' n' c'] 55)) #[.int .i64 0, .int .i64 0, .slice none 0 0]
    simpa using this
theorem bcb2 {W w' : World} {g b o : Nat} {m x : Int} {A : Option Addr} {n c : Nat} (h : Box W g m A n c) (hc : W.cell? ⟨b, o, none⟩ = some (.int .i64 x)) (hlt : b < W.heap.size) (hb : Below W.heap.size W w') :
    (w'.cell? ⟨g, 0, none⟩ = some (.int .i64 m) ∧ w'.cell? ⟨g, 1, none⟩ = some (.slice A n c)) ∧ (w'.cell? ⟨b, o, none⟩ = some (.int .i64 x)) ∧ Below W.heap.size W w' := ⟨box_in h hb, (hb.cell (p := ⟨b, o, none⟩) hlt).trans hc, hb⟩
end Go.Proofs.YtfhdgcndiljjcabGreat

/- Contracts of CoefficientOf, of the program and of the model. -/
namespace Go.Proofs.YtfhdgcndiljjcabGreat
open Go.RowKit Go.WideShapes Go.ChangeShapes Go.ChangeAt
/-- what the load of one number of a plane reads -/
theorem Box.num {W : World} {g : Nat} {m : Int} {d b off c : Nat} {t : List (List Int)} (hb : Box W g m (some ⟨b, off, none⟩) t.length c) (hs : Pl.Ok m d t) (hr : RP W (some ⟨b, off, none⟩) t) (i j : Nat) (hij : i + j ≤ d) :
    ∃ b' off' c' L N, L = d + 1 ∧ N = d - i + 1 ∧ W.cell? ⟨g, 1, none⟩ = some (.slice (some ⟨b, off, none⟩) L c) ∧ W.cell? ⟨b, off + i, none⟩ = some (.slice (some ⟨b', off', none⟩) N c') ∧ W.cell? ⟨b', off' + j, none⟩ = some (.int .i64 (Pl.pc t i j)) := by
  obtain ⟨_, x2, _⟩ := hb
  obtain ⟨b0, off0, b', off', c', e, -, k1, -, k2⟩ := hr.num i j (by rw [hs.len]; omega) (by rw [hs.row i (by omega)]; omega)
  injection e with e
  injection e with e1 e2
  subst e1 e2
  exact ⟨b', off', c', t.length, _, hs.len, hs.row i (by omega), x2, k1, k2⟩
end Go.Proofs.YtfhdgcndiljjcabGreat

/- Contracts of ApplySeries, of the program and of the model. -/
namespace Go.Proofs.YtfhdgcndiljjcabGreat
open Go.RowKit Go.WideShapes Go.ChangeShapes Go.ChangeAt
end Go.Proofs.YtfhdgcndiljjcabGreat

/- Contracts of the model's IsSeries and IsCurve. -/
namespace Go.Proofs.YtfhdgcndiljjcabGreat
open Go.RowKit Go.WideShapes Go.ChangeShapes Go.ChangeAt
end Go.Proofs.YtfhdgcndiljjcabGreat

/- Contracts of SubstituteCurves and SubstituteBoth, of the program and of the model. -/
namespace Go.Proofs.YtfhdgcndiljjcabGreat
open Go.RowKit Go.WideShapes Go.ChangeShapes Go.ChangeAt
/-! the model -/
end Go.Proofs.YtfhdgcndiljjcabGreat

/- Contracts of the program's codes of laws, of the law of a plane, of lines and of sums under a law. -/
namespace Go.Proofs.YtfhdgcndiljjcabGreat
open Go.RowKit Go.WideShapes Go.ChangeShapes Go.ChangeAt
/-- block g holds planes, one after the other -/
def PLs (w : World) (g : Nat) (xs : List (Int × Option Addr × Nat × List (List Int))) : Prop :=
  g < w.heap.size ∧ ∀ k m A c t, xs[k]? = some (m, A, c, t) → w.cell? ⟨g, k * 2, none⟩ = some (.int .i64 m) ∧ w.cell? ⟨g, k * 2 + 1, none⟩ = some (.slice A t.length c) ∧ RP w A t ∧ szT t ≤ 1048576
theorem PLs.keep {w w' : World} {g : Nat} {xs : List (Int × Option Addr × Nat × List (List Int))} (h : PLs w g xs) (hb : Below w.heap.size w w') : PLs w' g xs :=
  ⟨Nat.lt_of_lt_of_le h.1 hb.size, fun k m A c t hx => by
    obtain ⟨a, b, r, z⟩ := h.2 k m A c t hx
    exact ⟨(hb.cell (p := ⟨g, k * 2, none⟩) h.1).trans a, (hb.cell (p := ⟨g, k * 2 + 1, none⟩) h.1).trans b, r.below hb, z⟩⟩
theorem PLs.one {w : World} {g : Nat} {m : Int} {A : Option Addr} {c : Nat} {t : List (List Int)} (hx : Box w g m A t.length c) (hr : RP w A t) (hz : szT t ≤ 1048576) : PLs w g [(m, A, c, t)] :=
  ⟨hx.2.2, fun k m' A' c' t' h => by
    match k, h with
    | 0, h =>
      simp at h
      obtain ⟨rfl, rfl, rfl, rfl⟩ := h
      exact ⟨hx.1, hx.2.1, hr, hz⟩⟩
theorem PLs.two {w : World} {g : Nat} {m : Int} {A : Option Addr} {c : Nat} {t : List (List Int)} {m' : Int} {A' : Option Addr} {c' : Nat} {t' : List (List Int)} (hx : Box4 w g m A t.length c m' A' t'.length c') (hr : RP w A t) (hr' : RP w A' t') (hz : szT t ≤ 1048576) (hz' : szT t' ≤ 1048576) :
    PLs w g [(m, A, c, t), (m', A', c', t')] :=
  ⟨hx.1.2.2, fun k m0 A0 c0 t0 h => by
    match k, h with
    | 0, h =>
      simp at h
      obtain ⟨rfl, rfl, rfl, rfl⟩ := h
      exact ⟨hx.1.1, hx.1.2.1, hr, hz⟩
    | 1, h =>
      simp at h
      obtain ⟨rfl, rfl, rfl, rfl⟩ := h
      exact ⟨hx.2.1, hx.2.2, hr', hz'⟩⟩
def lawS (xs : List (Int × Option Addr × Nat × List (List Int))) : Bool := xs.all fun x => isL x.1 x.2.2.2
set_option maxHeartbeats 8000000 in
set_option maxRecDepth 100000 in
theorem codeOfLaws_any (g : Nat) (xs : List (Int × Option Addr × Nat × List (List Int))) (C : Int) (w : World) (hx : PLs w g xs) (hn : xs.length ≤ 1000)
    (hcp : lawS xs = true → ∀ W0, Below w.heap.size w W0 → Calls Tryz.prog 92 #[.slice (some ⟨g, 0, none⟩) xs.length xs.length] W0 fun e w' => e = .returned (.int .i64 C) ∧ Below W0.heap.size W0 w') :
    Calls Tryz.prog 57 #[.slice (some ⟨g, 0, none⟩) xs.length xs.length] w fun e w' => e = .returned (.int .i64 (if lawS xs = true then C else 1)) ∧ Below w.heap.size w w' := by
  have HX := Lib.hid hx
  have HCP := Lib.hid hcp
  obtain ⟨R, hR⟩ : ∃ R, (if lawS xs = true then C else 1) = R := ⟨_, rfl⟩
  have HRR := Lib.hid hR
  rw [hR]
  obtain ⟨n, hxn⟩ : ∃ n, xs.length = n := ⟨_, rfl⟩
  have HN := Lib.hid hxn
  rw [hxn] at hn HCP ⊢
  have HLT := Lib.hid (fun k (hk : k < n) => (by
    obtain ⟨⟨m', A', c', l'⟩, hx⟩ : ∃ x, xs[k]? = some x := ⟨_, List.getElem?_eq_getElem (by omega)⟩
    exact ⟨m', A', c', l', hx⟩ : ∃ m' A' c' l', xs[k]? = some (m', A', c', l')))
  clear hx hcp hR hxn
  go_enter Tryz.func57, Tryz.ntmps57
  go_wp2
  go_loopw [4, 7] (fun _ i wr => ∃ k : Nat, k ≤ n ∧ i = .int .i64 k ∧ lawS (xs.take k) = true ∧ Below w.heap.size w wr) (fun _ i _ => n - (intOf i).toNat)
  case atStart => exact ⟨0, Nat.zero_le _, rfl, rfl, Below.refl _ _⟩
  case round =>
    obtain ⟨k, hk, rfl, hall, hbel⟩ := hrel
    have HA := Lib.hid hall
    have HBE := Lib.hid hbel
    clear hall
    by_cases hlt : k < n
    · obtain ⟨m', A', c', l', hxk⟩ := HLT.out k hlt
      obtain ⟨x1, x2, x3, x4⟩ := (HX.out.keep hbel).2 k m' A' c' l' hxk
      have HXK := Lib.hid hxk
      have HIS := Lib.hid (fun W0 (h : Below wr.heap.size wr W0) => IsLaw_any m' A' c' l' W0 x4 (x3.below h))
      obtain ⟨L', hL'⟩ : ∃ L, l'.length = L := ⟨_, rfl⟩
      obtain ⟨b', hb'⟩ : ∃ b, isL m' l' = b := ⟨_, rfl⟩
      have HBB := Lib.hid hb'
      rw [hL', hb'] at HIS
      rw [hL'] at x2
      have j0 : (0 : Int) ≤ (k : Int) := by omega
      have j1 : (k : Int) < (n : Int) := by omega
      clear hbel hxk x3 x4 hL' hb'
      cases b' with
      | true =>
        have HOK := Lib.hid (show lawS (xs.take (k + 1)) = true by unfold lawS; rw [all_take _ _ _ _ HXK.out]; exact and_t HA.out HBB.out)
        go_wp2_with fail
        refine (HIS.out _ (below_one _ _)).mono ?_
        rintro e w2 ⟨rfl, hb2⟩
        have HB2 := Lib.hid (below_step (below_alloc (.cells #[.int .i64 m', .slice A' L' c'] 29) HBE.out) hb2)
        clear hb2 x1 x2
        go_wp2
        go_roundw
        case rel => exact ⟨k + 1, by omega, by go_num, HOK.out, HB2.out⟩
        case measure => simp only [intOf]; omega
      | false =>
        have HNO : Hid (R = 1) := Lib.hid (by rw [← HRR.out, if_neg]; unfold lawS; rw [all_bad _ _ _ _ HXK.out HBB.out]; decide)
        go_wp2_with fail
        refine (HIS.out _ (below_one _ _)).mono ?_
        rintro e w2 ⟨rfl, hb2⟩
        have HB2 := Lib.hid (below_step (below_alloc (.cells #[.int .i64 m', .slice A' L' c'] 29) HBE.out) hb2)
        clear hb2 x1 x2
        go_wp2
        go_ret
        exact ⟨ret_int HNO.out.symm, HB2.out⟩
    · obtain rfl : k = n := by omega
      have hal : lawS xs = true := by
        have := HA.out
        rwa [List.take_of_length_le (by have := HN.out; omega)] at this
      have HC := Lib.hid (HCP.out hal _ hbel)
      have HYES : Hid (R = C) := Lib.hid (by rw [← HRR.out, if_pos hal])
      clear HA hbel hal
      go_wp2_with fail
      refine HC.out.mono ?_
      rintro e w2 ⟨rfl, hb2⟩
      have HB2 := Lib.hid (below_step HBE.out hb2)
      clear hb2
      go_wp2
      go_ret
      exact ⟨ret_int HYES.out.symm, HB2.out⟩
def codeL1 (m : Int) (t : List (List Int)) : Int := if isL m t = true then 0 else 1
theorem codeL1_any (g : Nat) (m : Int) (A : Option Addr) (c : Nat) (t : List (List Int)) (w : World) (hz : szT t ≤ 1048576) (hr : RP w A t) (hx : Box w g m A t.length c) :
    Calls Tryz.prog 57 #[.slice (some ⟨g, 0, none⟩) 1 1] w fun e w' => e = .returned (.int .i64 (codeL1 m t)) ∧ Below w.heap.size w w' := by
  have h := codeOfLaws_any g [(m, A, c, t)] 0 w (PLs.one hx hr hz) (by simp) (fun hal W0 hb => by
    have := codeOfPlanes1_any g m A c t W0 hz (hr.below hb) (hx.keep hb)
    have hp : isP m t = true := (isL_of (by simpa [lawS] using hal)).1
    rw [show codeP1 m t = 0 by unfold codeP1; rw [if_pos hp]] at this
    exact this)
  have e : (if lawS [(m, A, c, t)] = true then (0 : Int) else 1) = codeL1 m t := by simp [lawS, codeL1]
  rw [e] at h
  exact h
end Go.Proofs.YtfhdgcndiljjcabGreat

/- Contracts of the law of a plane, its lines and sums. -/
namespace Go.Proofs.YtfhdgcndiljjcabGreat
open Go.RowKit Go.WideShapes Go.ChangeShapes Go.ChangeAt
/-- a plane's box and a law's variable -/
theorem pro_law (w : World) (m : Int) (A : Option Addr) (n c : Nat) : ∃ W, (w.alloc (.cells #[.int .i64 m, .slice A n c] 29)).alloc (.cells #[.int .i64 0, .int .i64 0, .slice none 0 0] 57) = W ∧
    Box W w.heap.size m A n c ∧ VarC 57 W (w.heap.size + 1) #[.int .i64 0, .int .i64 0, .slice none 0 0] ∧ Below w.heap.size w W := by
  refine ⟨_, rfl, (Box.newT _ _ _ _ _ _).keep (below_one _ _), ?_, below_alloc _ (below_one _ _)⟩
  have := VarC.new 57 (w.alloc (.cells #[.int .i64 m, .slice A n c] 29)) #[.int .i64 0, .int .i64 0, .slice none 0 0]
  simpa using this
set_option maxHeartbeats 2000000 in
set_option maxRecDepth 100000 in
theorem lawOf_nat (m : Int) (A : Option Addr) (n c d : Nat) (w : World) (hn : n = d + 1) (hd : d ≤ 1000) :
    Calls Tryz.prog 31 #[.agg #[.int .i64 m, .slice A n c]] w fun e w' => e = .returned (.agg #[.int .i64 m, .int .i64 d, .slice A n c]) ∧ Below w.heap.size w w' := by
  obtain ⟨W, hW, b1, v2, hwb⟩ := pro_law w m A n c
  have B1 := Lib.hid b1
  have V2 := Lib.hid v2
  have HB := Lib.hid hwb
  have HW := Lib.hid hW
  have HG := Lib.hid (fun W0 => gridOf_nat m A n c d W0 hn hd)
  clear b1 v2 hwb hW hn
  obtain ⟨x1, x2, x3⟩ := B1.out
  go_enter Tryz.func31, Tryz.ntmps31
  go_wp2_with fail
  rw [HW.out]
  refine (HG.out _).mono ?_
  rintro e w1 ⟨rfl, hb1⟩
  have hv := V2.out.keep hb1
  obtain ⟨q0, q1, q2, q3, q4, q5⟩ := hv.tells3
  have hs := hv.set3 (.int .i64 m) (.int .i64 d) (.slice A n c)
  obtain ⟨f0, f1, f2, -⟩ := hs.tells3
  have F4 := Lib.hid (below_set3 (below_step HB.out hb1) (show w.heap.size ≤ w.heap.size + 1 by omega) (.int .i64 m) (.int .i64 d) (.slice A n c))
  unfold set3 at f0 f1 f2 F4
  clear hv hs hb1 x1 x2 x3
  go_wp2
  exact bodyPost_ret (v := .agg #[.int .i64 m, .int .i64 d, .slice A n c]) (by simp [results, Tryz.results31, go_sem, f0, f1, f2]) rfl ⟨rfl, F4.out⟩
end Go.Proofs.YtfhdgcndiljjcabGreat

/- Plain facts of laws: their rows, lines and inverses. -/
namespace Go.Proofs.YtfhdgcndiljjcabGreat
open Go.RowKit Go.WideShapes Go.ChangeShapes Go.ChangeAt
namespace Pl
theorem fau_parts {m : Int} {d : Nat} {F : Nat → Nat → Int} (h : fau m d F = none) : fauP d F = none ∧ fauS d F = none := by
  unfold fau at h
  cases h1 : fauP d F with
  | some x => rw [h1] at h; cases h
  | none =>
    rw [h1, orE_none] at h
    cases h2 : fauS d F with
    | some x => rw [h2] at h; cases h
    | none => exact ⟨rfl, rfl⟩
theorem norm_law {m : Int} {d : Nat} {t : List (List Int)} (h : fau m d (pc t) = none) (hs : Ok m d t) : Norm d (pc t) := norm_of (fau_parts h).1 (fau_parts h).2 (fun i j hij => hs.over i j hij)
end Pl
end Go.Proofs.YtfhdgcndiljjcabGreat

