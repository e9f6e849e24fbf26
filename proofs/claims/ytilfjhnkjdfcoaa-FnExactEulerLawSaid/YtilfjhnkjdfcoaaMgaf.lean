/- Texts of contracts, joined. -/
import Derived.Test.YtilfjhnkjdfcoaaMgab
import Derived.Test.YtilfjhnkjdfcoaaMgac
import Derived.Test.YtilfjhnkjdfcoaaMgae
import Derived.Test.YtilfjhnkjdfcoaaMgad
import Derived.Deep.DeepCutAuto
/- Contracts of the codes of a plane and one series, of the program and of the model. -/
namespace Go.Proofs.Ytilfjhnkjdfcoaa
open Go.RowKit Go.WideShapes Go.ChangeShapes Go.ChangeAt

/-- the code of a plane and one series -/
def codePS (m : Int) (t : List (List Int)) (m' : Int) (l : List Int) : Int := if isP m t = true ∧ isS m' l = true then (if m' = m ∧ l.length = t.length then 0 else 2) else 1
theorem codePS_ok {m : Int} {t : List (List Int)} {m' : Int} {l : List Int} (h : codePS m t m' l = 0) : m' = m ∧ ∃ d, t.length = d + 1 ∧ l.length = d + 1 ∧ Pl.Ok m d t ∧ SerOk m d l := by
  unfold codePS at h
  by_cases h1 : isP m t = true ∧ isS m' l = true
  · rw [if_pos h1] at h
    by_cases h2 : m' = m ∧ l.length = t.length
    · obtain ⟨rfl, h2⟩ := h2
      obtain ⟨d, e, s⟩ := plOk_of h1.1
      obtain ⟨d', e', s'⟩ := serOk_of h1.2
      obtain rfl : d' = d := by omega
      exact ⟨rfl, d', e, e', s, s'⟩
    · rw [if_neg h2] at h; exact absurd h (by decide)
  · rw [if_neg h1] at h; exact absurd h (by decide)
end Go.Proofs.Ytilfjhnkjdfcoaa

/- Contracts of a series put upon a plane: Horner's tables, the model's loop. -/
namespace Go.Proofs.Ytilfjhnkjdfcoaa
open Go.RowKit Go.WideShapes Go.ChangeShapes Go.ChangeAt

namespace Pl
/-- Horner's table when the last k coefficients have been taken in -/
def hor (m : Int) (d : Nat) (l : List Int) (F : Nat → Nat → Int) : Nat → List (List Int)
  | 0 => tab m d fun _ _ => 0
  | k + 1 => tab m d fun p q => mul2 (pc (hor m d l F k)) F p q + (if p = 0 ∧ q = 0 then Ser.co l (d - k) else 0)
theorem hor_length (m : Int) (d : Nat) (l : List Int) (F : Nat → Nat → Int) (k : Nat) : (hor m d l F k).length = d + 1 := by
  cases k <;> (unfold hor; exact tab_length _ _ _)
theorem hor_ok {m : Int} {d : Nat} (m1 : 2 ≤ m) (m2 : m ≤ 10000) (d1 : 1 ≤ d) (d2 : d ≤ 10) (l : List Int) (F : Nat → Nat → Int) (k : Nat) : Ok m d (hor m d l F k) := by
  cases k <;> (unfold hor; exact Ok.of_tab m1 m2 d1 d2 _)
theorem mul2_left0 (a b : Nat → Nat → Int) (ha : ∀ i j, a i j = 0) (p q : Nat) : mul2 a b p q = 0 := by
  unfold mul2
  have h1 : ∀ n, Ser.psum (fun _ => (0 : Int)) n = 0 := fun n => by induction n with
    | zero => rfl
    | succ n ih => rw [Ser.psum, ih]; rfl
  rw [Ser.psum_ext (g := fun _ => 0) _ (fun k _ => ?_), h1]
  rw [Ser.psum_ext (g := fun _ => 0) _ (fun l _ => by rw [ha, Int.zero_mul]), h1]
theorem pc_zero (m : Int) (d : Nat) (i j : Nat) : pc (tab m d fun _ _ => 0) i j = 0 := by
  by_cases h : i + j ≤ d
  · rw [pc_tab h, Int.zero_emod]
  · rw [pc_over (by omega)]
/-- the model's step -/
theorem hor_step {m : Int} {d : Nat} (l : List Int) (F : Nat → Nat → Int) (k : Nat) :
    (tab m d (mul2 (pc (hor m d l F k)) F)).set 0 ((rw' (tab m d (mul2 (pc (hor m d l F k)) F)) 0).set 0 ((pc (tab m d (mul2 (pc (hor m d l F k)) F)) 0 0 + Ser.co l (d - k)) % m)) = hor m d l F (k + 1) := by
  rw [pc_tab (Nat.zero_le _)]
  refine tab_put (Nat.zero_le _) ?_ (fun p q _ hne => ?_)
  · rw [if_pos ⟨rfl, rfl⟩, Int.emod_add_emod]
  · rw [if_neg hne, Int.add_zero]
/-- the program's step, for a plane with the constant 0 -/
theorem hor_stepP {m : Int} {d : Nat} {l : List Int} {F : Nat → Nat → Int} (k : Nat) (hF : F 0 0 = 0) (h1 : 0 ≤ Ser.co l (d - k)) (h2 : Ser.co l (d - k) < m) :
    (tab m d (mul2 (pc (hor m d l F k)) F)).set 0 ((rw' (tab m d (mul2 (pc (hor m d l F k)) F)) 0).set 0 (Ser.co l (d - k))) = hor m d l F (k + 1) := by
  refine tab_put (Nat.zero_le _) ?_ (fun p q _ hne => ?_)
  · rw [if_pos ⟨rfl, rfl⟩]
    have : mul2 (pc (hor m d l F k)) F 0 0 = 0 := by
      unfold mul2
      simp [Ser.psum, hF]
    rw [this, Int.zero_add, Int.emod_eq_of_lt h1 h2]
  · rw [if_neg hne, Int.add_zero]
/-- where the program begins -/
theorem hor_one {m : Int} {d : Nat} {l : List Int} (F : Nat → Nat → Int) (h1 : 0 ≤ Ser.co l d) (h2 : Ser.co l d < m) : tab m d (gosF (Ser.cut m d (Ser.mon 0 (Ser.co l d))) 0) = hor m d l F 1 := by
  show _ = tab m d _
  refine tab_congr (Eq.of m d (fun p q hpq => ?_))
  rw [mul2_left0 (pc (hor m d l F 0)) F (pc_zero m d), Int.zero_add]
  unfold gosF
  rw [if_pos rfl, Nat.sub_zero]
  by_cases hq : q = 0
  · rw [if_pos hq, Ser.co_cut (by omega)]
    unfold Ser.mon
    by_cases hp : p = 0
    · rw [if_pos hp, if_pos ⟨hp, hq⟩, Int.emod_eq_of_lt h1 h2]
    · rw [if_neg hp, if_neg (fun h => hp h.1), Int.zero_emod]
  · rw [if_neg hq, if_neg (fun h => hq h.2)]
end Pl

end Go.Proofs.Ytilfjhnkjdfcoaa

/- Contract of a series put upon a grid, of the program. -/
namespace Go.Proofs.Ytilfjhnkjdfcoaa
open Go.RowKit Go.WideShapes Go.ChangeShapes Go.ChangeAt

/-- a grid has been stored into a new variable -/
theorem reg_newG {wk cur wd : World} {A : Option Addr} {n c : Nat} {T : List (List Int)} (hk : wk.heap.size ≤ cur.heap.size) (ho : OwnR wd cur.heap.size wd.heap.size (.slice A n c) T) (hb : Below wk.heap.size wk wd) (m d : Int) (t : TypeId) :
    VarC t (wd.alloc (.cells #[.int .i64 m, .int .i64 d, .slice A n c] t)) wd.heap.size #[.int .i64 m, .int .i64 d, .slice A n c] ∧ OwnR (wd.alloc (.cells #[.int .i64 m, .int .i64 d, .slice A n c] t)) cur.heap.size wd.heap.size (.slice A n c) T ∧
    (wd.heap.size < cur.heap.size ∨ wd.heap.size ≤ wd.heap.size) ∧ wk.heap.size ≤ cur.heap.size ∧ wd.heap.size ≤ (wd.alloc (.cells #[.int .i64 m, .int .i64 d, .slice A n c] t)).heap.size ∧ Below wk.heap.size wk (wd.alloc (.cells #[.int .i64 m, .int .i64 d, .slice A n c] t)) ∧ wk.heap.size ≤ wd.heap.size :=
  ⟨VarC.new _ _ _, ho.keep (below_one _ _), .inr (Nat.le_refl _), hk, (below_one wd _).size, below_alloc _ hb, hb.size⟩
/-- a grid has been stored into a variable that lay there before the call -/
theorem reg_finG {t : TypeId} {wk cur wd : World} {g : Nat} {A : Option Addr} {n c : Nat} {T : List (List Int)} {x y z : Value} (hk : wk.heap.size ≤ g) (hgc : g < cur.heap.size) (hle : wk.heap.size ≤ cur.heap.size) (hv : VarC t wd g #[x, y, z]) (ho : OwnR wd cur.heap.size wd.heap.size (.slice A n c) T) (hb : Below wk.heap.size wk wd) (m d : Int) :
    VarC t (((wd.setCell ⟨g, 0, none⟩ (.int .i64 m)).setCell ⟨g, 1, none⟩ (.int .i64 d)).setCell ⟨g, 2, none⟩ (.slice A n c)) g #[.int .i64 m, .int .i64 d, .slice A n c] ∧
    OwnR (((wd.setCell ⟨g, 0, none⟩ (.int .i64 m)).setCell ⟨g, 1, none⟩ (.int .i64 d)).setCell ⟨g, 2, none⟩ (.slice A n c)) cur.heap.size wd.heap.size (.slice A n c) T ∧
    (g < cur.heap.size ∨ wd.heap.size ≤ g) ∧ wk.heap.size ≤ cur.heap.size ∧ wd.heap.size ≤ (((wd.setCell ⟨g, 0, none⟩ (.int .i64 m)).setCell ⟨g, 1, none⟩ (.int .i64 d)).setCell ⟨g, 2, none⟩ (.slice A n c)).heap.size ∧
    Below wk.heap.size wk (((wd.setCell ⟨g, 0, none⟩ (.int .i64 m)).setCell ⟨g, 1, none⟩ (.int .i64 d)).setCell ⟨g, 2, none⟩ (.slice A n c)) ∧ wk.heap.size ≤ g :=
  ⟨hv.set3 _ _ _, ho.far (Span.of_grown (lo := g) (hi := g + 1) (grown_set3 wd g _ _ _) (fun b hb => by injection hb with hb; omega)) (.inr (by omega)), .inl hgc, hle, (grown_set3 wd g _ _ _).size, below_set3 hb hk _ _ _, hk⟩
/-- a series' box, a grid's box, the result's variable -/
theorem gproA (w : World) (m : Int) (A : Option Addr) (n c : Nat) (m' : Int) (d' : Nat) (A' : Option Addr) (n' c' : Nat) : ∃ W, ((w.alloc (.cells #[.int .i64 m, .slice A n c] 52)).alloc (.cells #[.int .i64 m', .int .i64 d', .slice A' n' c'] 43)).alloc (.cells #[.int .i64 0, .int .i64 0, .slice none 0 0] 43) = W ∧
    Box W w.heap.size m A n c ∧ GBox W (w.heap.size + 1) m' d' A' n' c' ∧ VarC 43 W (w.heap.size + 1 + 1) #[.int .i64 0, .int .i64 0, .slice none 0 0] ∧ Below w.heap.size w W := by
  refine ⟨_, rfl, ((Box.newT _ _ _ _ _ _).keep (below_one _ _)).keep (below_one _ _), ?_, ?_, below_alloc _ (below_alloc _ (below_one _ _))⟩
  · have := (GBox.new 43 (w.alloc (.cells #[.int .i64 m, .slice A n c] 52)) m' d' A' n' c').keep (below_one _ (.cells #[.int .i64 0, .int .i64 0, .slice none 0 0] 43))
    simpa using this
  · have := VarC.new 43 ((w.alloc (.cells #[.int .i64 m, .slice A n c] 52)).alloc (.cells #[.int .i64 m', .int .i64 d', .slice A' n' c'] 43)) #[.int .i64 0, .int .i64 0, .slice none 0 0]
    simpa using this
theorem bcb2 {W w' : World} {g b o : Nat} {m x : Int} {A : Option Addr} {n c : Nat} (h : Box W g m A n c) (hc : W.cell? ⟨b, o, none⟩ = some (.int .i64 x)) (hlt : b < W.heap.size) (hb : Below W.heap.size W w') :
    (w'.cell? ⟨g, 0, none⟩ = some (.int .i64 m) ∧ w'.cell? ⟨g, 1, none⟩ = some (.slice A n c)) ∧ (w'.cell? ⟨b, o, none⟩ = some (.int .i64 x)) ∧ Below W.heap.size W w' := ⟨box_in h hb, (hb.cell (p := ⟨b, o, none⟩) hlt).trans hc, hb⟩

set_option maxHeartbeats 16000000 in
set_option maxRecDepth 100000 in
theorem appliedTo_any (m : Int) (d : Nat) (A : Option Addr) (c : Nat) (l : List Int) (A' : Option Addr) (c' : Nat) (t : List (List Int)) (w : World) (hs : SerOk m d l) (hs' : Pl.Ok m d t) (h00 : Pl.pc t 0 0 = 0) (hr : RI w A l) (hr' : RP w A' t) :
    Calls Try.prog 37 #[.agg #[.int .i64 m, .slice A l.length c], .agg #[.int .i64 m, .int .i64 d, .slice A' t.length c']] w fun e w' => ∃ v, e = .returned (.agg #[.int .i64 m, .int .i64 d, v]) ∧ OwnR w' w.heap.size w'.heap.size v (Pl.hor m d l (Pl.pc t) (d + 1)) ∧ Below w.heap.size w w' := by
  obtain ⟨W, hW, b1, b2, v3, hwb⟩ := gproA w m A l.length c m d A' t.length c'
  have B1 := Lib.hid b1
  have B2 := Lib.hid b2
  have V3 := Lib.hid v3
  have HB := Lib.hid hwb
  have HW := Lib.hid hW
  have HR := Lib.hid hr
  have HR' := Lib.hid hr'
  have HSZ : w.heap.size + 1 + 1 < W.heap.size := v3.lt
  have m1 := hs.m1
  have m2 := hs.m2
  have hd := hs.d2
  have hd1 := hs.d1
  have HS := Lib.hid hs
  have HS' := Lib.hid hs'
  have H00 := Lib.hid h00
  obtain ⟨b, off, rfl, hbb, hcd⟩ := hr.at d (by rw [hs.len]; omega)
  have hcd1 := (hwb.cell (p := ⟨b, off + d, none⟩) hbb).trans hcd
  obtain ⟨r1, r2⟩ := hs.red d
  have h1 := Pl.hor_one (Pl.pc t) r1 r2
  obtain ⟨X, hX⟩ : ∃ X, Ser.co l d = X := ⟨_, rfl⟩
  rw [hX] at hcd1 r1 r2 h1
  have HDG := Lib.hid (fun W0 => degree_nat m (some ⟨b, off, none⟩) l.length c d W0 hs.len (by omega))
  have HMO := Lib.hid (fun W0 => monomial_any m d 0 X W0 (by omega) m2 (by omega) (by omega) (by omega))
  have HGS := Lib.hid (fun (W0 : World) (A0 : Option Addr) (c0 : Nat) (h : RI W0 A0 (Ser.cut m d (Ser.mon 0 X))) => gridOfSeries_any m d A0 c0 _ 0 W0 ⟨m1, m2, by omega, by omega, Ser.cut_length _ _ _, Ser.cut_red (by omega) _ _⟩ h)
  have HT := Lib.hid (fun (k : Nat) (A1 : Option Addr) (c1 : Nat) (W0 : World) (h : RP W0 A1 (Pl.hor m d l (Pl.pc t) k)) (h' : RP W0 A' t) => by
    have := gtimes_any m d A1 c1 (Pl.hor m d l (Pl.pc t) k) A' c' t W0 (Pl.hor_ok m1 m2 hd1 hd l _ k) hs' h h'
    rw [Pl.hor_length] at this
    exact this)
  obtain ⟨L0, hL0⟩ : ∃ L0, Ser.cut m d (Ser.mon 0 X) = L0 := ⟨_, rfl⟩
  rw [hL0] at HMO HGS h1
  obtain ⟨T0, hT0⟩ : ∃ T0, Pl.tab m d (gosF L0 0) = T0 := ⟨_, rfl⟩
  rw [hT0] at HGS h1
  have HT0 := Lib.hid h1
  have z1 : (0 : Int) ≤ (d : Int) := by omega
  have z2 : (d : Int) < (l.length : Int) := by have := hs.len; omega
  have hWb : b < W.heap.size := Nat.lt_of_lt_of_le hbb hwb.size
  obtain ⟨L', hL'⟩ : ∃ L, t.length = L := ⟨_, rfl⟩
  rw [hL'] at HT B2 HW ⊢
  clear b1 b2 v3 hwb hW hr hr' hs hs' hcd hX hL0 hT0 h1 h00 hL'
  go_enter Try.func37, Try.ntmps37
  go_wp2_with fail
  rw [HW.out]
  refine (HDG.out _).mono ?_
  rintro e W1 ⟨rfl, hb1⟩
  have Y1 := Lib.hid (B1.out.keep hb1)
  have Y2 := Lib.hid (B2.out.keep hb1)
  have V1 := Lib.hid (V3.out.keep hb1)
  have HB1 := Lib.hid (below_step HB.out hb1)
  have HSZ1 : w.heap.size + 1 + 1 < W1.heap.size := (V3.out.keep hb1).lt
  have hcd2 := (hb1.cell (p := ⟨b, off + d, none⟩) hWb).trans hcd1
  have hW1b : b < W1.heap.size := Nat.lt_of_lt_of_le hWb hb1.size
  clear hb1 hcd1 HDG B1 B2 V3 HB
  obtain ⟨x1, x2, x3⟩ := Y1.out
  go_wp2
  go_cut [6] (fun s6 wx => ∃ g A1 c1 lo hi, s6 = .pointer (some ⟨g, 0, none⟩) ∧ VarC 43 wx g #[.int .i64 m, .int .i64 d, .slice A1 T0.length c1] ∧ OwnR wx lo hi (.slice A1 T0.length c1) T0 ∧ (g < lo ∨ hi ≤ g) ∧ W1.heap.size ≤ lo ∧ hi ≤ wx.heap.size ∧ Below W1.heap.size W1 wx ∧ W1.heap.size ≤ g)
  case first =>
    go_region_held3 (fun w' => (w'.cell? ⟨w.heap.size, 0, none⟩ = some (.int .i64 m) ∧ w'.cell? ⟨w.heap.size, 1, none⟩ = some (.slice (some ⟨b, off, none⟩) l.length c)) ∧ (w'.cell? ⟨b, off + d, none⟩ = some (.int .i64 X)) ∧ Below W1.heap.size W1 w') (first | exact bcb2 Y1.out hcd2 hW1b (below_drew0 _) | exact bcb2 Y1.out hcd2 hW1b hbel | exact bcb2 Y1.out hcd2 hW1b hka | exact bcb2 Y1.out hcd2 hW1b (below_alloc _ (trd (by assumption))) | exact bcb2 Y1.out hcd2 hW1b (below_alloc _ hbel) | exact bcb2 Y1.out hcd2 hW1b (below_alloc _ hka) | exact bcb2 Y1.out hcd2 hW1b (reg_finG hwg hgc hle hv hog hbel m d).2.2.2.2.2.1 | exact (by assumption)) (first
      | (go_at_call 40; refine (HMO.out _).mono ?_; rintro e wa ⟨sd, rfl, hod, hba⟩; obtain ⟨Ad, cd, rfl, hri⟩ := hod.form; obtain ⟨hka, hka2⟩ := reg_end (by assumption) hba)
      | (go_at_call 41; refine (HGS.out _ _ _ (by first | exact hri | exact hri.below (below_one _ _))).mono ?_; rintro e wd ⟨sg, rfl, hog, hbd⟩; obtain ⟨Ag, cg, rfl, -⟩ := hog.len; obtain ⟨hbel, hle⟩ := reg_end (by assumption) hbd; first | (refine use_it (varC_keep ((VarC.new 43 W1 _).drew.keep hba) hbd) ?_; rintro ⟨hv, hgc⟩; have hwg := varC_at (k := W1.heap.size) hv (Nat.le_refl _); obtain ⟨q0, q1, q2, q3, q4, q5⟩ := hv.tells3) | (refine use_it (varC_keep (VarC.new 43 _ _) hbd) ?_; rintro ⟨hv, hgc⟩; have hwg := varC_at (k := W1.heap.size) hv hka.size; obtain ⟨q0, q1, q2, q3, q4, q5⟩ := hv.tells3) | skip))
    all_goals
      go_wp2_with fail
      go_meet
      case rel => first | exact ⟨_, _, _, _, _, rfl, reg_newG hle hog hbel m d _⟩ | exact ⟨_, _, _, _, _, rfl, reg_finG hwg hgc hle hv hog hbel m d⟩
  case rest =>
    obtain ⟨w2, hwc⟩ : ∃ w9, w9 = wc := ⟨_, rfl⟩
    subst hwc
    obtain ⟨g7, A7, c7, lo7, hi7, rfl, v7, o7, hg7, hl7, hh7, hb7, hgw⟩ := hcut
    have hT0l : T0.length = d + 1 := by rw [HT0.out, Pl.hor_length]
    rw [hT0l] at v7 o7
    rw [HT0.out] at o7
    have O7 := Lib.hid o7
    have V7 := Lib.hid v7
    have B7 := Lib.hid hb7
    have G7 : Hid (g7 < lo7 ∨ hi7 ≤ g7) := Lib.hid hg7
    clear v7 o7 hb7 hg7 HMO HGS x1 x2 x3 hcd2 HT0 hT0l
    go_wp2
    go_loopw [7] (fun s7 wr => ∃ (j t0 : Nat) (I : Int) (A1 : Option Addr) (c1 lo hi : Nat), j + t0 = d ∧ I = (t0 : Int) - 1 ∧ s7 = .int .i64 I ∧ VarC 43 wr g7 #[.int .i64 m, .int .i64 d, .slice A1 (d + 1) c1] ∧ OwnR wr lo hi (.slice A1 (d + 1) c1) (Pl.hor m d l (Pl.pc t) (j + 1)) ∧ (g7 < lo ∨ hi ≤ g7) ∧ W1.heap.size ≤ lo ∧ hi ≤ wr.heap.size ∧ Below W1.heap.size W1 wr) (fun s7 _ => (intOf s7 + 1).toNat)
    case atStart => exact ⟨0, d, _, A7, c7, lo7, hi7, by omega, rfl, rfl, V7.out, O7.out, G7.out, hl7, hh7, B7.out⟩
    case round =>
      clear V7 O7 G7 B7 hl7 hh7
      obtain ⟨j, t0, I, A1, c1, lo, hi, hjt, hI, rfl, v1, o1, hg1, hl1, hh1, hb1⟩ := hrel
      have VV := Lib.hid v1
      have OO := Lib.hid o1
      have BB := Lib.hid hb1
      have VR := Lib.hid (V1.out.keep hb1)
      clear v1 o1 hb1
      rcases t0 with _ | i
      · obtain rfl : j = d := by omega
        obtain rfl : I = -1 := by omega
        clear hI hjt hg1
        obtain ⟨z3, z4, z5, -⟩ := VV.out.tells3
        obtain ⟨q0, q1, q2, q3, q4, q5⟩ := VR.out.tells3
        obtain ⟨f0, f1, f2, f3, f4⟩ := fin_grid (w := w) VR.out OO.out (.inl (by omega)) (by omega) hh1 (below_step HB1.out BB.out) (.int .i64 m) (.int .i64 j) (.slice A1 (j + 1) c1)
        have F3 := Lib.hid (f3.low (show w.heap.size ≤ lo by omega))
        have F4 := Lib.hid f4
        unfold set3 at f0 f1 f2
        clear f3 f4
        go_wp2
        exact bodyPost_ret (v := .agg #[.int .i64 m, .int .i64 j, .slice A1 (j + 1) c1]) (by simp [results, Try.results37, go_sem, f0, f1, f2]) rfl ⟨_, rfl, F3.out, F4.out⟩
      · obtain rfl : I = (i : Int) := by omega
        have hik : d - (j + 1) = i := by omega
        have hid : i ≤ d := by omega
        have HTK := Lib.hid (HT.out (j + 1) A1 c1 wr OO.out.rp (HR'.out.below (below_step HB1.out BB.out)))
        have hst := Pl.hor_stepP (m := m) (d := d) (l := l) (F := Pl.pc t) (j + 1) H00.out (by rw [hik]; exact (HS.out.red i).1) (by rw [hik]; exact (HS.out.red i).2)
        rw [hik] at hst
        obtain ⟨F, hF⟩ : ∃ F, Pl.mul2 (Pl.pc (Pl.hor m d l (Pl.pc t) (j + 1))) (Pl.pc t) = F := ⟨_, rfl⟩
        rw [hF] at HTK hst
        have HST := Lib.hid hst
        have HJT := Lib.hid hjt
        obtain ⟨z3, z4, z5, -⟩ := VV.out.tells3
        obtain ⟨y1, y2, y3, -⟩ := Y2.out.keep BB.out
        have hgr : g7 < wr.heap.size := VV.out.lt
        clear hI hst hF hik hjt hg1 hh1
        go_wp2_with fail
        refine HTK.out.mono ?_
        rintro e w3 ⟨v3, rfl, ho3, hb3⟩
        obtain ⟨g, cv, rfl⟩ := ho3.openv (by rw [Pl.tab_length]; omega)
        rw [Pl.tab_length] at ho3 ⊢
        clear z3 z4 z5 y1 y2 y3
        have v3 := VV.out.keep hb3
        obtain ⟨q0, q1, q2, q3, q4, q5⟩ := v3.tells3
        obtain ⟨X9, hX9⟩ : ∃ X9, set3 w3 g7 (.int .i64 m) (.int .i64 d) (.slice (some ⟨g, 0, none⟩) (d + 1) cv) = X9 := ⟨_, rfl⟩
        obtain ⟨f0, f1, f2, ox, bx⟩ := fin_grid (w := W1) v3 ho3 (.inl hgr) hgw (Nat.le_refl _) (below_step BB.out hb3) (.int .i64 m) (.int .i64 d) (.slice (some ⟨g, 0, none⟩) (d + 1) cv)
        have vx := v3.set3 (.int .i64 m) (.int .i64 d) (.slice (some ⟨g, 0, none⟩) (d + 1) cv)
        rw [hX9] at f0 f1 f2 ox bx vx
        obtain ⟨b4, c4, h1, h2, h3, h4, hcel⟩ := ox.numB 0 0 (d + 1) (by rw [Pl.tab_length]; omega) (by rw [Pl.tab_row m d _ 0 (by omega), Ser.cut_length]; omega) (by omega)
        obtain ⟨k4, k5, k6, k7⟩ := hcel X9.drew (below_drew0 X9)
        obtain ⟨b', off', hbe, hbb', hci⟩ := (HR.out.below (below_step HB1.out bx)).at i (by have := HS.out.len; omega)
        injection hbe with hbe
        injection hbe with hbe1 hbe2
        subst hbe1 hbe2
        obtain ⟨Z, hZ⟩ : ∃ Z, Ser.co l i = Z := ⟨_, rfl⟩
        have hst := HST.out
        rw [hZ] at hci hst
        have h8 := k7 Z
        rw [hst] at h8
        have hwr := BB.out.size
        have ne2 : b4 ≠ g7 := by omega
        have V9 := Lib.hid (vx.far b4 0 (.int .i64 Z) ne2)
        have BX := Lib.hid (bx.drew.setCell (p := ⟨b4, 0, none⟩) (show W1.heap.size ≤ b4 by omega) (.int .i64 Z))
        have HO2 := Lib.hid (h8.more (show X9.heap.size ≤ (X9.drew.setCell ⟨b4, 0, none⟩ (.int .i64 Z)).heap.size by show X9.heap.size ≤ (X9.heap.modify _ _).size; simp))
        have HHS : Hid ((X9.drew.setCell ⟨b4, 0, none⟩ (.int .i64 Z)).heap.size ≤ (X9.drew.setCell ⟨b4, 0, none⟩ (.int .i64 Z)).heap.size) := Lib.hid (Nat.le_refl _)
        obtain ⟨x5, x6, -⟩ := Y1.out.keep bx
        have j0 : (0 : Int) ≤ (i : Int) := by omega
        have j1 : (i : Int) < (l.length : Int) := by have := HS.out.len; have := HJT.out; omega
        have j2 : (0 : Int) < (d : Int) + 1 := by omega
        unfold set3 at hX9
        have HX := Lib.hid hX9
        clear ho3 hb3 v3 vx ox bx hZ hst hcel k7 h8 h1 h2 h3 h4 ne2 hX9 hbb'
        go_upto_region 7 with fail
        rw [HX.out]
        clear HX q0 q1 q2 q3 q4 q5
        go_still_tail 10, (by kernel_rfl)
        change wpList _ _ _ _ _ X9.drew
        go_wp2
        go_roundw
        case rel => exact ⟨j + 1, i, _, _, cv, wr.heap.size, _, by have := HJT.out; omega, rfl, by first | rfl | go_num, V9.out, HO2.out, .inl hgr, hwr, HHS.out, BX.out⟩
        case measure => simp only [intOf]; omega
end Go.Proofs.Ytilfjhnkjdfcoaa

/- A region that draws its order, one of whose operations makes a new block when it likes: whatever the others do is shown in worlds that may have grown meanwhile. -/
namespace Go.Proofs.Ytilfjhnkjdfcoaa
open Go Go.RowKit

section
variable {P : Program} {ops : Array Oper} {Q : Exit → Act → World → Prop} {md : Region.Mode} {S : World → Prop} {n f s G0 : Nat} {mk : Nat → Value} {zs : Array Value} {t : TypeId}

/-- the slot's value points at the block that has been made -/
def Ph (mk : Nat → Value) (G0 : Nat) (zs : Array Value) (t : TypeId) (v : Value) (w : World) : Prop := ∃ g, v = mk g ∧ G0 ≤ g ∧ w.heap[g]? = some (.cells zs t (0, 0))
theorem Ph.keep {v : Value} {w w' : World} (h : Ph mk G0 zs t v w) (hb : Below w.heap.size w w') : Ph mk G0 zs t v w' := by
  obtain ⟨g, h1, h2, h3⟩ := h
  exact ⟨g, h1, h2, (hb.block g (Array.getElem?_eq_some_iff.1 h3).1).trans h3⟩
/-- number f has not come up yet, or has -/
def Both (P : Program) (md : Region.Mode) (ops : Array Oper) (Q : Exit → Act → World → Prop) (S : World → Prop) (n f s G0 : Nat) (mk : Nat → Value) (zs : Array Value) (t : TypeId) (fuel : Nat) (listed : Array Bool) (a : Act) (w : World) : Prop :=
  G0 ≤ w.heap.size ∧ (∀ w', Below w.heap.size w w' → S w' → wpTilN P md ops Q S n (fuel + 1) listed a w') ∧
  (∀ v w', Below w.heap.size w w' → S w' → Ph mk G0 zs t v w' → wpTilN P md ops Q S n fuel (listed.setIfInBounds f true) (a.put (some s) v) w')
theorem put_self {a : Act} {v : Value} (h : a.tmps.getD s undef = v) : a.put (some s) v = a := by
  unfold Act.put
  dsimp only
  have : a.tmps.setIfInBounds s v = a.tmps := by
    apply Array.ext_getElem?
    intro i
    rw [Array.getElem?_setIfInBounds]
    by_cases hi : s = i
    · subst hi
      by_cases hs : s < a.tmps.size
      · simp [hs] at h ⊢
        exact h.symm
      · simp [hs]
    · simp [hi]
  rw [this]
theorem put_comm {a : Act} {dst : Option Tmp} (h : dst ≠ some s) (v v' : Value) : (a.put (some s) v').put dst v = (a.put dst v).put (some s) v' := by
  cases dst with
  | none => rfl
  | some d =>
    have hne : s ≠ d := fun e => h (by rw [e])
    unfold Act.put
    dsimp only
    rw [Array.setIfInBounds_comm _ _ hne]
theorem both_step {i : Nat} {o : Oper} {fuel : Nat} {listed : Array Bool} {a : Act} {w : World} (hal : ∀ (w : World) (K : Act → World → Prop), K (a.put (some s) (mk w.heap.size)) (w.alloc (.cells zs t)) → wpOp P ops Q f K a w)
    (hSa : ∀ w, S w → S (w.alloc (.cells zs t))) (hG : G0 ≤ w.heap.size) (hrA : (Region.ready md ops listed).all (fun j => j == f || j == i) = true) (hrC : (Region.ready md ops listed).contains i = true) (hrB : Region.ready md ops (listed.setIfInBounds f true) = [i])
    (hif : i ≠ f) (hin : i < n) (hfn : f < n) (ho : ops[i]? = some o)
    (h : ∀ (v : Value) (w' : World), Below w.heap.size w w' → S w' → ∀ K : Act → World → Prop, Shut (∀ a' w'', a'.tmps.getD s undef = v → Below w'.heap.size w' w'' → S w'' → Both P md ops Q S n f s G0 mk zs t fuel (listed.setIfInBounds i true) a' w'' → K a' w'') →
      if Region.wanted o (yielded ops (a.put (some s) v).tmps) = true then Oper.wp P o (a.put (some s) v) w' K Q else K ((a.put (some s) v).put o.dst undef) w') :
    Both P md ops Q S n f s G0 mk zs t (fuel + 1) listed a w := by
  have c2 : ∀ v w', Below w.heap.size w w' → S w' → Ph mk G0 zs t v w' → wpTilN P md ops Q S n (fuel + 1) (listed.setIfInBounds f true) (a.put (some s) v) w' := by
    intro v w' hb hS hp
    refine ⟨fun e => (by rw [e] at hrB; cases hrB), fun j hj => ?_⟩
    rw [hrB] at hj
    obtain rfl : j = i := by simpa using hj
    refine wpOp_step ho (fun K hK => h v w' hb hS K (fun a' w'' hsl hB hS' hbo => hK a' w'' ⟨fun _ => hS', ?_⟩))
    have := hbo.2.2 v w'' (Below.refl _ _) hS' (hp.keep hB)
    rw [put_self hsl, Array.setIfInBounds_comm _ _ hif] at this
    exact this
  refine ⟨hG, fun w' hb hS => ⟨fun e => (by rw [e] at hrC; cases hrC), fun j hj => ?_⟩, c2⟩
  have hj2 := List.all_eq_true.1 hrA j hj
  rw [Bool.or_eq_true, beq_iff_eq, beq_iff_eq] at hj2
  rcases hj2 with rfl | rfl
  · have hG' : G0 ≤ w'.heap.size := Nat.le_trans hG hb.size
    exact hal w' _ ⟨fun _ => hSa w' hS, c2 _ _ (hb.trans ((Below.refl _ w').alloc (hb.size) _)) (hSa w' hS) ⟨_, rfl, hG', heap_alloc_new w' _⟩⟩
  · have hps : a.put (some s) (a.tmps.getD s undef) = a := put_self rfl
    have h' := h (a.tmps.getD s undef) w' hb hS
    rw [hps] at h'
    exact wpOp_step ho (fun K hK => h' K (fun a' w'' _ _ hS' hbo => hK a' w'' ⟨fun _ => hS', hbo.2.1 w'' (Below.refl _ _) hS'⟩))
theorem both_take {i : Nat} {oi : Oper} {dst : Option Tmp} (v : Value) {fuel : Nat} {listed : Array Bool} {a : Act} {w : World} (hi : ops[i]? = some oi) (hd : oi.dst = dst) (hds : dst ≠ some s) (hs : Region.noSelect ops = true)
    (hf : Region.free md ops listed i = true) (hf' : Region.free md ops (listed.setIfInBounds f true) i = true)
    (hr : (Region.ready md ops listed).contains i = true) (hr' : (Region.ready md ops (listed.setIfInBounds f true)).contains i = true)
    (hw : waitN md ops listed n i = true) (hw' : waitN md ops (listed.setIfInBounds f true) n i = true) (hif : i ≠ f) (hQ : ∀ c a w, Q (.panic c) (a.put dst v) w → Q (.panic c) a w) (hy : ∀ v', YieldsIf P ops S oi v (a.put (some s) v'))
    (h : Both P md ops Q S n f s G0 mk zs t fuel (listed.setIfInBounds i true) (a.put dst v) w) : Both P md ops Q S n f s G0 mk zs t (fuel + 1) listed a w := by
  refine ⟨h.1, fun w' hb hS => ?_, fun v' w' hb hS hp => ?_⟩
  · have hy0 := hy (a.tmps.getD s undef)
    rw [put_self rfl] at hy0
    exact tilN_take v hi hd hs hf hr hw hQ hy0 hS (h.2.1 w' hb hS)
  · refine tilN_take v hi hd hs hf' hr' hw' hQ (hy v') hS ?_
    rw [put_comm hds, Array.setIfInBounds_comm _ _ (fun e => hif e.symm)]
    exact h.2.2 v' w' hb hS hp
theorem both_end {fuel : Nat} {listed : Array Bool} {a : Act} {w : World} (hal : ∀ (w : World) (K : Act → World → Prop), K (a.put (some s) (mk w.heap.size)) (w.alloc (.cells zs t)) → wpOp P ops Q f K a w)
    (hSa : ∀ w, S w → S (w.alloc (.cells zs t))) (hG : G0 ≤ w.heap.size) (hr : Region.ready md ops listed = [f]) (hfn : f < n)
    (h : ∀ (g : Nat) (w' : World), G0 ≤ g → Below w.heap.size w w' → S w' → w'.heap[g]? = some (.cells zs t (0, 0)) → wpTilN P md ops Q S n fuel (listed.setIfInBounds f true) (a.put (some s) (mk g)) w') :
    Both P md ops Q S n f s G0 mk zs t fuel listed a w := by
  refine ⟨hG, fun w' hb hS => ⟨fun e => (by rw [e] at hr; cases hr), fun j hj => ?_⟩, fun v w' hb hS hp => ?_⟩
  · rw [hr] at hj
    obtain rfl : j = f := by simpa using hj
    exact hal w' _ ⟨fun _ => hSa w' hS, h _ _ (Nat.le_trans hG hb.size) (hb.trans ((Below.refl _ w').alloc hb.size _)) (hSa w' hS) (heap_alloc_new w' _)⟩
  · obtain ⟨g, rfl, h1, h2⟩ := hp
    exact h g w' h1 hb hS h2
/-- from here on number f may come up -/
theorem both_in {fuel : Nat} {listed : Array Bool} {a : Act} {w : World} (f s G0 : Nat) (mk : Nat → Value) (zs : Array Value) (t : TypeId) (hS : S w) (h : Both P md ops Q S n f s G0 mk zs t fuel listed a w) : wpTilN P md ops Q S n (fuel + 1) listed a w := h.2.1 w (Below.refl _ _) hS
theorem region_free {id fuel : Nat} {a : Act} {w : World} (S : World → Prop) (n f s G0 : Nat) (mk : Nat → Value) (zs : Array Value) (t : TypeId) (hm : P.follows .mixedOrders = true) (hz : ops.size = fuel + 1) (hS : S w.drew)
    (h : Both P .any ops Q S n f s G0 mk zs t fuel (Array.replicate ops.size false) a w.drew) : (Code.region id ops true).wp P Q a w := by
  refine region_tilN S n hm ?_
  have := h.2.1 _ (Below.refl _ _) hS
  rw [hz] at this ⊢
  exact this
end
/-- a store into a variable leaves a table alone that a call has made -/
theorem OwnR.offvar {w w' : World} {lo hi g : Nat} {v : Value} {rows : List (List Int)} {T : TypeId} {cs : Array Value} (h : OwnR w lo hi v rows) (hv : VarC T w g cs) (h1 : T ≠ 50) (h2 : T ≠ 2) (hg : w.grownBy w' (some g)) : OwnR w' lo hi v rows := by
  have key : ∀ (b : Nat) (cs' : Array Value) (t' : TypeId) (f : Nat × Nat), w.heap[b]? = some (.cells cs' t' f) → t' ≠ T → (some g : Option Nat) ≠ some b := by
    intro b cs' t' f hh hne e
    injection e with e
    subst e
    unfold VarC at hv
    rw [hv] at hh
    injection hh with hh
    injection hh with e1 e2
    exact hne e2.symm
  obtain ⟨vs, k1, k2, k3, k4⟩ := h
  refine ⟨vs, ⟨k1.1, ?_⟩, k2, fun i r hr' => ?_, k4⟩
  · rcases k1.2 with hn | ⟨b, cap, cur, rfl, hg', hh, rest⟩
    · exact .inl hn
    · exact .inr ⟨b, cap, cur, rfl, hg', (hg.block b (Array.getElem?_eq_some_iff.1 hh).1 (fun e => key b _ _ _ hh (fun e => h1 e.symm) e.symm)).trans hh, rest⟩
  · obtain ⟨u, a, b, c⟩ := k3 i r hr'
    refine ⟨u, a, b.other hg ?_, c⟩
    unfold OwnI at b
    rcases b.2 with ⟨rfl, _⟩ | ⟨b0, cap, cur, rfl, _, hh, _⟩
    · exact .inl rfl
    · exact .inr (fun e => key b0 _ _ _ hh (fun e => h2 e.symm) e.symm)
/-- a grid is stored into a variable that was made on the way -/
theorem fin_free {T : TypeId} {w w2 w3 : World} {g lo hi : Nat} {v a b c : Value} {t : List (List Int)} (hv : VarC T w3 g #[a, b, c]) (ho : OwnR w2 lo hi v t) (hb : Below hi w2 w3) (h1 : T ≠ 50) (h2 : T ≠ 2) (hwg : w.heap.size ≤ g) (hhi : hi ≤ w3.heap.size) (hbw : Below w.heap.size w w3) (p q r : Value) :
    VarC T (((w3.setCell ⟨g, 0, none⟩ p).setCell ⟨g, 1, none⟩ q).setCell ⟨g, 2, none⟩ r) g #[p, q, r] ∧ OwnR (((w3.setCell ⟨g, 0, none⟩ p).setCell ⟨g, 1, none⟩ q).setCell ⟨g, 2, none⟩ r) lo hi v t ∧ Below w.heap.size w (((w3.setCell ⟨g, 0, none⟩ p).setCell ⟨g, 1, none⟩ q).setCell ⟨g, 2, none⟩ r) ∧ hi ≤ (((w3.setCell ⟨g, 0, none⟩ p).setCell ⟨g, 1, none⟩ q).setCell ⟨g, 2, none⟩ r).heap.size :=
  ⟨hv.set3 p q r, (ho.keep hb).offvar hv h1 h2 (grown_set3 w3 g p q r), below_set3 hbw hwg p q r, Nat.le_trans hhi (grown_set3 w3 g p q r).size⟩
end Go.Proofs.Ytilfjhnkjdfcoaa

/- Contracts of the law of Euler, of the program. -/
namespace Go.Proofs.Ytilfjhnkjdfcoaa
open Go Go.RowKit Go.WideShapes Go.ChangeShapes Go.ChangeAt

theorem hor_horq (m : Int) (d : Nat) (l : List Int) (F : Nat → Nat → Int) (hl : l.length = d + 1) : ∀ k, Pl.hor m d l F k = Pl.horq m d l F k := by
  intro k
  induction k with
  | zero => rfl
  | succ k ih =>
    show Pl.tab m d _ = Pl.tab m d _
    rw [ih, hl]; rfl
theorem hor_aft {m : Int} {d : Nat} {l : List Int} {G : Nat → Nat → Int} (hl : l.length = d + 1) (F : Nat → Nat → Int) (h : Pl.Eq m d F G) : Pl.Eq m d (Pl.pc (Pl.hor m d l F (d + 1))) (Pl.aft (Ser.co l) G (d + 1)) := by
  rw [hor_horq m d l F hl]
  exact (Pl.horq_aft hl F).trans (Pl.aft_congr (d + 1) (fun _ _ => rfl) h)
theorem erL_ok {m : Int} {d : Nat} (m1 : 2 ≤ m) (m2 : m ≤ 10000) (d1 : 1 ≤ d) (d2 : d ≤ 10) (a e : Int) : SerOk m d (erL m d a e) := ⟨m1, m2, d1, d2, Ser.rtL_length _ _ _ _ _, Ser.rtL_red (by omega) _ _ _ _ (Nat.le_refl _)⟩
/-- the table of the law of Euler -/
def eulT (m : Int) (a e : Int) (d : Nat) : List (List Int) := Pl.tab m d (Pl.mul2 (Pl.euT (Ser.co (erL m d a e))) (Pl.euG e))
/-- the numerator -/
def eunT (m : Int) (d : Nat) (R : List Int) : List (List Int) := Pl.tab m d fun i j => Pl.pc (Pl.tab m d (Pl.mul2 (Pl.pc (corT m d 0)) (Pl.pc (Pl.hor m d R (Pl.pc (corT m d 1)) (d + 1))))) i j + Pl.pc (Pl.tab m d (Pl.mul2 (Pl.pc (corT m d 1)) (Pl.pc (Pl.hor m d R (Pl.pc (corT m d 0)) (d + 1))))) i j
theorem eun_eq {m : Int} {d : Nat} {R : List Int} (hl : R.length = d + 1) : Pl.Eq m d (Pl.pc (eunT m d R)) (Pl.euT (Ser.co R)) := by
  refine (Pl.pc_tab_eq m d _).trans ?_
  refine (Pl.Eq.pl ((Pl.pc_tab_eq m d _).trans (Pl.Eq.mul2 corT_x (hor_aft hl _ corT_y))) ((Pl.pc_tab_eq m d _).trans (Pl.Eq.mul2 corT_y (hor_aft hl _ corT_x)))).trans ?_
  exact Pl.Eq.of m d (fun i j h => Pl.eut_eq (Ser.co R) d i j h)
theorem eul_over {m : Int} {d : Nat} (m1 : 2 ≤ m) (m2 : m ≤ 10000) (d1 : 1 ≤ d) (d2 : d ≤ 10) (a e : Int) :
    Pl.ovT m d (eunT m d (erL m d a e)) (Pl.pc (Pl.polT m d (Pl.pc (Pl.polT m d (Pl.pc (Pl.tab m d (Pl.mul2 (Pl.pc (corT m d 0)) (Pl.pc (corT m d 1))))) [1, 0, -e])) [1, -1])) d = eulT m a e d := by
  have h1 := eun_eq (m := m) (R := erL m d a e) (erL_ok m1 m2 d1 d2 a e).len
  have h2 : Pl.Eq m d (Pl.pc (Pl.tab m d (Pl.mul2 (Pl.pc (corT m d 0)) (Pl.pc (corT m d 1))))) (Pl.mon2 1 1) := ((Pl.pc_tab_eq _ _ _).trans (Pl.Eq.mul2 corT_x corT_y)).trans (Pl.Eq.fn (Pl.mon2_mon2 1 0 0 1))
  have h3 : Pl.Eq m d (Pl.pc (Pl.polT m d (Pl.pc (Pl.tab m d (Pl.mul2 (Pl.pc (corT m d 0)) (Pl.pc (corT m d 1))))) [1, 0, -e])) (Pl.pl (Pl.one2 1) (Pl.sm (-e) (Pl.mon2 2 2))) := by
    have := Pl.polF_tab _ h2 [1, 0, -e]
    rw [Pl.polF_three, Pl.mon2_mon2] at this
    refine this.trans (Pl.Eq.fn ?_)
    funext i j
    show -e * Pl.mon2 2 2 i j + 0 * Pl.mon2 1 1 i j + Pl.one2 1 i j = Pl.one2 1 i j + -e * Pl.mon2 2 2 i j
    omega
  have h5 : Pl.Eq m d (Pl.pc (Pl.polT m d (Pl.pc (Pl.polT m d (Pl.pc (Pl.tab m d (Pl.mul2 (Pl.pc (corT m d 0)) (Pl.pc (corT m d 1))))) [1, 0, -e])) [1, -1])) (Pl.sm e (Pl.mon2 2 2)) := (Pl.rest_eq _ h3).trans (Pl.Eq.fn (by rw [Pl.sm_sm, show -1 * -e = e by omega]))
  refine Pl.over_fix (Pl.Ok.of_tab m1 m2 d1 d2 _) (Pl.Ok.of_tab m1 m2 d1 d2 _) ?_ ?_
  · rw [h5 0 0 (Nat.zero_le _)]
    show (e * Pl.mon2 2 2 0 0) % m = 0
    unfold Pl.mon2
    rw [if_neg (by omega), Int.mul_zero, Int.zero_emod]
  · refine (Pl.pc_tab_eq m d _).trans ?_
    refine (Pl.Eq.fn (Pl.eu_fix (Ser.co (erL m d a e)) e).symm).trans ?_
    exact (Pl.Eq.pl h1 (Pl.Eq.mul2 (Pl.pc_tab_eq m d _) h5)).symm
theorem cor_zero (m : Int) (d : Nat) (k : Int) : Pl.pc (corT m d k) 0 0 = 0 := by
  unfold corT gosF
  rw [Pl.pc_tab (Nat.zero_le _)]
  have h : Ser.co (Ser.cut m d (Ser.mon 1 1)) 0 = 0 := by rw [Ser.co_cut (Nat.zero_le _)]; unfold Ser.mon; rw [if_neg (by omega), Int.zero_emod]
  by_cases hk : k = 0
  · rw [if_pos hk, if_pos rfl, h, Int.zero_emod]
  · rw [if_neg hk, if_pos rfl, h, Int.zero_emod]
theorem reg_cur {wk cur : World} {p q : Prop} (hs : p ∧ q ∧ Below wk.heap.size wk cur) : Below wk.heap.size wk cur := hs.2.2
theorem VarC.drew' {t : TypeId} {w : World} {g : Nat} {cs : Array Value} (h : VarC t w g cs) : VarC t w.drew g cs := h
theorem ri_heap {W : World} {g : Nat} {T : TypeId} (l : List Int) (h : W.heap[g]? = some (.cells (l.map (Value.int .i64)).toArray T (0, 0))) : RI W (some ⟨g, 0, none⟩) l := by
  intro _
  refine ⟨g, 0, rfl, (Array.getElem?_eq_some_iff.1 h).1, fun k hk => ?_⟩
  rw [Nat.zero_add]
  simp only [World.cell?, h]
  simp [hk]
theorem ri_heap3 {W : World} {g : Nat} {T : TypeId} (a b c : Int) (h : W.heap[g]? = some (.cells #[.int .i64 a, .int .i64 b, .int .i64 c] T (0, 0))) : RI W (some ⟨g, 0, none⟩) [a, b, c] := ri_heap [a, b, c] h
theorem VarC.gbox {w : World} {g : Nat} {m : Int} {d : Nat} {A : Option Addr} {n c : Nat} {T : TypeId} (h : VarC T w g #[.int .i64 m, .int .i64 d, .slice A n c]) : GBox w g m d A n c := ⟨h.cell 0 _ rfl, h.cell 1 _ rfl, h.cell 2 _ rfl, h.lt⟩
theorem eu_keep3 {W W0 : World} {g1 g2 g3 g : Nat} {m e : Int} {d : Nat} {A1 A2 A3 : Option Addr} {n1 n2 n3 c1 c2 c3 : Nat} (h1 : GBox W g1 m d A1 n1 c1) (h2 : GBox W g2 m d A2 n2 c2) (h3 : GBox W g3 m d A3 n3 c3) (h4 : Cel W g e) (h : Below W.heap.size W W0) :
    ((W0.cell? ⟨g1, 0, none⟩ = some (.int .i64 m) ∧ W0.cell? ⟨g1, 1, none⟩ = some (.int .i64 d) ∧ W0.cell? ⟨g1, 2, none⟩ = some (.slice A1 n1 c1)) ∧
    (W0.cell? ⟨g2, 0, none⟩ = some (.int .i64 m) ∧ W0.cell? ⟨g2, 1, none⟩ = some (.int .i64 d) ∧ W0.cell? ⟨g2, 2, none⟩ = some (.slice A2 n2 c2))) ∧
    ((W0.cell? ⟨g3, 0, none⟩ = some (.int .i64 m) ∧ W0.cell? ⟨g3, 1, none⟩ = some (.int .i64 d) ∧ W0.cell? ⟨g3, 2, none⟩ = some (.slice A3 n3 c3)) ∧ W0.cell? ⟨g, 0, none⟩ = some (.int .i64 e)) ∧ Below W.heap.size W W0 := by
  obtain ⟨a1, a2, a3, -⟩ := h3.keep h
  exact ⟨grid_keep h1 h2 h, ⟨⟨a1, a2, a3⟩, (h4.keep h).1⟩, h⟩
/-- what the second region of the closure keeps -/
theorem eu_keep {W W0 : World} {g1 g2 g3 g : Nat} {m e : Int} {d : Nat} {A1 A2 A3 : Option Addr} {n1 n2 n3 c1 c2 c3 : Nat} (h1 : GBox W g1 m d A1 n1 c1) (h2 : GBox W g2 m d A2 n2 c2) (h3 : Box W g3 m A3 n3 c3) (h4 : Cel W g e) (h : Below W.heap.size W W0) :
    ((W0.cell? ⟨g1, 0, none⟩ = some (.int .i64 m) ∧ W0.cell? ⟨g1, 1, none⟩ = some (.int .i64 d) ∧ W0.cell? ⟨g1, 2, none⟩ = some (.slice A1 n1 c1)) ∧
    (W0.cell? ⟨g2, 0, none⟩ = some (.int .i64 m) ∧ W0.cell? ⟨g2, 1, none⟩ = some (.int .i64 d) ∧ W0.cell? ⟨g2, 2, none⟩ = some (.slice A2 n2 c2))) ∧
    ((W0.cell? ⟨g3, 0, none⟩ = some (.int .i64 m) ∧ W0.cell? ⟨g3, 1, none⟩ = some (.slice A3 n3 c3)) ∧ W0.cell? ⟨g, 0, none⟩ = some (.int .i64 e)) ∧ Below W.heap.size W W0 :=
  ⟨grid_keep h1 h2 h, ⟨box_in h3 h, (h4.keep h).1⟩, h⟩
set_option maxHeartbeats 16000000 in
set_option maxRecDepth 100000 in
theorem eulC_any (m : Int) (d : Nat) (a e : Int) (gm gd ga ge : Nat) (A1 : Option Addr) (c1 : Nat) (A2 : Option Addr) (c2 : Nat) (w : World) (m1 : 2 ≤ m) (m2 : m ≤ 10000) (d1 : 1 ≤ d) (d2 : d ≤ 10) (a0 : 0 ≤ a) (a1 : a < m) (e0 : 0 ≤ e) (e1 : e < m)
    (hm : Cel w gm m) (hd : Cel w gd d) (ha : Cel w ga a) (he : Cel w ge e) (r1 : RP w A1 (corT m d 0)) (r2 : RP w A2 (corT m d 1)) :
    Calls Try.prog 35 #[.agg #[.int .i64 m, .int .i64 d, .slice A1 (d + 1) c1], .agg #[.int .i64 m, .int .i64 d, .slice A2 (d + 1) c2], .pointer (some ⟨gm, 0, none⟩), .pointer (some ⟨gd, 0, none⟩), .pointer (some ⟨ga, 0, none⟩), .pointer (some ⟨ge, 0, none⟩)] w fun x w' => ∃ v, x = .returned (.agg #[.int .i64 m, .int .i64 d, v]) ∧ OwnR w' w.heap.size w'.heap.size v (eulT m a e d) ∧ Below w.heap.size w w' := by
  have okx : Pl.Ok m d (corT m d 0) := Pl.Ok.of_tab m1 m2 d1 d2 _
  have oky : Pl.Ok m d (corT m d 1) := Pl.Ok.of_tab m1 m2 d1 d2 _
  have okr := erL_ok m1 m2 d1 d2 a e
  obtain ⟨W, hW, b1, b2, v3, hwb⟩ := gpro2 w m d A1 (d + 1) c1 m d A2 (d + 1) c2
  have HER := Lib.hid (fun W0 => eulerRoot_any m d a e W0 m1 m2 d1 d2 a0 a1 e0 e1)
  have hov := eul_over m1 m2 d1 d2 a e
  obtain ⟨R, hR⟩ : ∃ R, erL m d a e = R := ⟨_, rfl⟩
  rw [hR] at HER okr hov
  have hap1 := fun (A : Option Addr) (c : Nat) (W0 : World) (h : RI W0 A R) (h0 : Below W.heap.size W W0) => by
    have := appliedTo_any m d A c R A2 c2 (corT m d 1) W0 okr oky (cor_zero m d 1) h ((r2.below hwb).below h0)
    rw [okr.len, oky.len] at this
    exact this
  have hap2 := fun (A : Option Addr) (c : Nat) (W0 : World) (h : RI W0 A R) (h0 : Below W.heap.size W W0) => by
    have := appliedTo_any m d A c R A1 c1 (corT m d 0) W0 okr okx (cor_zero m d 0) h ((r1.below hwb).below h0)
    rw [okr.len, okx.len] at this
    exact this
  have okh : ∀ F, Pl.Ok m d (Pl.hor m d R F (d + 1)) := fun F => Pl.hor_ok m1 m2 d1 d2 R F (d + 1)
  have HT1 := Lib.hid (fun (A : Option Addr) (c : Nat) (W0 : World) (h : RP W0 A (Pl.hor m d R (Pl.pc (corT m d 1)) (d + 1))) (h0 : Below W.heap.size W W0) => by
    have := gtimes_any m d A1 c1 (corT m d 0) A c _ W0 okx (okh _) ((r1.below hwb).below h0) h
    rw [okx.len, (okh _).len] at this
    exact this)
  have HT2 := Lib.hid (fun (A : Option Addr) (c : Nat) (W0 : World) (h : RP W0 A (Pl.hor m d R (Pl.pc (corT m d 0)) (d + 1))) (h0 : Below W.heap.size W W0) => by
    have := gtimes_any m d A2 c2 (corT m d 1) A c _ W0 oky (okh _) ((r2.below hwb).below h0) h
    rw [oky.len, (okh _).len] at this
    exact this)
  have HT3 := Lib.hid (fun (W0 : World) (h0 : Below W.heap.size W W0) => by
    have := gtimes_any m d A1 c1 (corT m d 0) A2 c2 (corT m d 1) W0 okx oky ((r1.below hwb).below h0) ((r2.below hwb).below h0)
    rw [okx.len, oky.len] at this
    exact this)
  have HP := Lib.hid (fun (A : Option Addr) (c : Nat) (A' : Option Addr) (c' : Nat) (W0 : World) (h : RP W0 A (Pl.tab m d (Pl.mul2 (Pl.pc (corT m d 0)) (Pl.pc (Pl.hor m d R (Pl.pc (corT m d 1)) (d + 1)))))) (h' : RP W0 A' (Pl.tab m d (Pl.mul2 (Pl.pc (corT m d 1)) (Pl.pc (Pl.hor m d R (Pl.pc (corT m d 0)) (d + 1)))))) => by
    have := gplus_any m d A c _ A' c' _ W0 (okx.tab _) (okx.tab _) h h'
    rw [Pl.tab_length, Pl.tab_length] at this
    exact this)
  change Hid (∀ (A : Option Addr) (c : Nat) (A' : Option Addr) (c' : Nat) (W0 : World) (h : RP W0 A (Pl.tab m d (Pl.mul2 (Pl.pc (corT m d 0)) (Pl.pc (Pl.hor m d R (Pl.pc (corT m d 1)) (d + 1)))))) (h' : RP W0 A' (Pl.tab m d (Pl.mul2 (Pl.pc (corT m d 1)) (Pl.pc (Pl.hor m d R (Pl.pc (corT m d 0)) (d + 1)))))), Calls Try.prog 22 #[.agg #[.int .i64 m, .int .i64 d, .slice A (d + 1) c], .agg #[.int .i64 m, .int .i64 d, .slice A' (d + 1) c']] W0 fun x w' => ∃ v, x = .returned (.agg #[.int .i64 m, .int .i64 d, v]) ∧ OwnR w' W0.heap.size w'.heap.size v (eunT m d R) ∧ Below W0.heap.size W0 w') at HP
  have HPO := Lib.hid (fun (A : Option Addr) (c0 : Nat) (B : Option Addr) (cb : Nat) (W0 : World) (h : RP W0 A (Pl.tab m d (Pl.mul2 (Pl.pc (corT m d 0)) (Pl.pc (corT m d 1))))) (h' : RI W0 B [1, 0, -e]) => by
    have := polynomial_any m d A c0 _ B cb [1, 0, -e] W0 (okx.tab _) h h' (by simp) (bd_three (by omega) (by omega) (by omega))
    rw [Pl.tab_length] at this
    exact this)
  have HOV := Lib.hid (fun (A : Option Addr) (c0 : Nat) (A' : Option Addr) (c0' : Nat) (W0 : World) (h : RP W0 A (eunT m d R)) (h' : RP W0 A' (Pl.polT m d (Pl.pc (Pl.tab m d (Pl.mul2 (Pl.pc (corT m d 0)) (Pl.pc (corT m d 1))))) [1, 0, -e])) => by
    have := over_any m d A c0 (eunT m d R) A' c0' _ W0 (okx.tab _) (Pl.polT_ok m1 m2 d1 d2 _ _) h h'
    rw [hov, show (eunT m d R).length = d + 1 from Pl.tab_length _ _ _, Pl.polT_length] at this
    exact this)
  have l1 : (Pl.hor m d R (Pl.pc (corT m d 1)) (d + 1)).length = d + 1 := (okh _).len
  have l2 : (Pl.hor m d R (Pl.pc (corT m d 0)) (d + 1)).length = d + 1 := (okh _).len
  have l3 : (Pl.tab m d (Pl.mul2 (Pl.pc (corT m d 0)) (Pl.pc (Pl.hor m d R (Pl.pc (corT m d 1)) (d + 1))))).length = d + 1 := Pl.tab_length _ _ _
  have l4 : (Pl.tab m d (Pl.mul2 (Pl.pc (corT m d 1)) (Pl.pc (Pl.hor m d R (Pl.pc (corT m d 0)) (d + 1))))).length = d + 1 := Pl.tab_length _ _ _
  have l5 : (eunT m d R).length = d + 1 := Pl.tab_length _ _ _
  have l6 : (Pl.tab m d (Pl.mul2 (Pl.pc (corT m d 0)) (Pl.pc (corT m d 1)))).length = d + 1 := Pl.tab_length _ _ _
  have l7 : (Pl.polT m d (Pl.pc (Pl.tab m d (Pl.mul2 (Pl.pc (corT m d 0)) (Pl.pc (corT m d 1))))) [1, 0, -e]).length = d + 1 := Pl.polT_length _ _ _ _
  have l8 : (eulT m a e d).length = d + 1 := Pl.tab_length _ _ _
  have l0 : R.length = d + 1 := okr.len
  have HAP1 := Lib.hid hap1
  have HAP2 := Lib.hid hap2
  obtain ⟨T3, hT3⟩ : ∃ T, (Pl.tab m d (Pl.mul2 (Pl.pc (corT m d 0)) (Pl.pc (Pl.hor m d R (Pl.pc (corT m d 1)) (d + 1))))) = T := ⟨_, rfl⟩
  obtain ⟨T4, hT4⟩ : ∃ T, (Pl.tab m d (Pl.mul2 (Pl.pc (corT m d 1)) (Pl.pc (Pl.hor m d R (Pl.pc (corT m d 0)) (d + 1))))) = T := ⟨_, rfl⟩
  obtain ⟨T1, hT1⟩ : ∃ T, Pl.hor m d R (Pl.pc (corT m d 1)) (d + 1) = T := ⟨_, rfl⟩
  obtain ⟨T2, hT2⟩ : ∃ T, Pl.hor m d R (Pl.pc (corT m d 0)) (d + 1) = T := ⟨_, rfl⟩
  obtain ⟨T5, hT5⟩ : ∃ T, eunT m d R = T := ⟨_, rfl⟩
  obtain ⟨T7, hT7⟩ : ∃ T, Pl.polT m d (Pl.pc (Pl.tab m d (Pl.mul2 (Pl.pc (corT m d 0)) (Pl.pc (corT m d 1))))) [1, 0, -e] = T := ⟨_, rfl⟩
  obtain ⟨T6, hT6⟩ : ∃ T, Pl.tab m d (Pl.mul2 (Pl.pc (corT m d 0)) (Pl.pc (corT m d 1))) = T := ⟨_, rfl⟩
  obtain ⟨T8, hT8⟩ : ∃ T, eulT m a e d = T := ⟨_, rfl⟩
  rw [hT3] at HT1 HP l3
  rw [hT4] at HT2 HP l4
  rw [hT1] at HAP1 HT1 l1
  rw [hT2] at HAP2 HT2 l2
  rw [hT5] at HP HOV l5
  rw [hT7] at HPO HOV l7
  rw [hT6] at HT3 HPO l6
  rw [hT8] at HOV l8 ⊢
  have L0 := Lib.hid l0
  have L1 := Lib.hid l1
  have L2 := Lib.hid l2
  have L3 := Lib.hid l3
  have L4 := Lib.hid l4
  have L5 := Lib.hid l5
  have L6 := Lib.hid l6
  have L7 := Lib.hid l7
  have L8 := Lib.hid l8
  have V3 := Lib.hid v3
  have HB := Lib.hid hwb
  have HW := Lib.hid hW
  have B1 := Lib.hid b1
  have B2 := Lib.hid b2
  have HE := Lib.hid (he.keep hwb)
  have HSZ : w.heap.size + 1 + 1 < W.heap.size := v3.lt
  obtain ⟨x1, -⟩ := hm.keep hwb
  obtain ⟨x2, -⟩ := hd.keep hwb
  obtain ⟨x3, -⟩ := ha.keep hwb
  obtain ⟨x4, -⟩ := he.keep hwb
  rw [← hW] at x1 x2 x3 x4
  clear okx oky okr l0 l1 l2 l3 l4 l5 l6 l7 l8 hT1 hT2 hT3 hT4 hT5 hT6 hT7 hT8 v3 hwb hW b1 b2 hm hd ha he r1 r2 hap1 hap2 okh hov hR
  go_enter Try.func35, Try.ntmps35
  go_wp2_with fail
  rw [HW.out]
  refine (HER.out _).mono ?_
  rintro x w2 ⟨v, rfl, ho, hb⟩
  obtain ⟨AR, cR, rfl, -⟩ := ho.form
  rw [L0.out] at ho ⊢
  obtain ⟨w3, hw3⟩ : ∃ w3, w2.alloc (.cells #[.int .i64 m, .slice AR (d + 1) cR] 52) = w3 := ⟨_, rfl⟩
  have hb3 : Below W.heap.size W w3 := by rw [← hw3]; exact below_alloc _ hb
  have hrr : RI w3 AR R := by rw [← hw3]; exact ho.ri.below (below_one _ _)
  have hbr : Box w3 w2.heap.size m AR (d + 1) cR := by rw [← hw3]; exact Box.newT _ _ _ _ _ _
  have HB3 := Lib.hid hb3
  have HRR := Lib.hid hrr
  have HK := Lib.hid (fun W0 (h : Below w3.heap.size w3 W0) => eu_keep (B1.out.keep hb3) (B2.out.keep hb3) hbr (HE.out.keep hb3) h)
  have HX3 := Lib.hid hw3
  clear hb3 hrr hbr hw3 ho hb x1 x2 x3 x4
  go_upto_region 2 with fail
  rw [HX3.out]
  have HSA : Hid (∀ W0, (((W0.cell? ⟨w.heap.size, 0, none⟩ = some (.int .i64 m) ∧ W0.cell? ⟨w.heap.size, 1, none⟩ = some (.int .i64 d) ∧ W0.cell? ⟨w.heap.size, 2, none⟩ = some (.slice A1 (d + 1) c1)) ∧ (W0.cell? ⟨w.heap.size + 1, 0, none⟩ = some (.int .i64 m) ∧ W0.cell? ⟨w.heap.size + 1, 1, none⟩ = some (.int .i64 d) ∧ W0.cell? ⟨w.heap.size + 1, 2, none⟩ = some (.slice A2 (d + 1) c2))) ∧ ((W0.cell? ⟨w2.heap.size, 0, none⟩ = some (.int .i64 m) ∧ W0.cell? ⟨w2.heap.size, 1, none⟩ = some (.slice AR (d + 1) cR)) ∧ W0.cell? ⟨ge, 0, none⟩ = some (.int .i64 e)) ∧ Below w3.heap.size w3 W0) → ((((W0.alloc (.cells #[.int .i64 0, .int .i64 0, .slice none 0 0] 43)).cell? ⟨w.heap.size, 0, none⟩ = some (.int .i64 m) ∧ (W0.alloc (.cells #[.int .i64 0, .int .i64 0, .slice none 0 0] 43)).cell? ⟨w.heap.size, 1, none⟩ = some (.int .i64 d) ∧ (W0.alloc (.cells #[.int .i64 0, .int .i64 0, .slice none 0 0] 43)).cell? ⟨w.heap.size, 2, none⟩ = some (.slice A1 (d + 1) c1)) ∧ ((W0.alloc (.cells #[.int .i64 0, .int .i64 0, .slice none 0 0] 43)).cell? ⟨w.heap.size + 1, 0, none⟩ = some (.int .i64 m) ∧ (W0.alloc (.cells #[.int .i64 0, .int .i64 0, .slice none 0 0] 43)).cell? ⟨w.heap.size + 1, 1, none⟩ = some (.int .i64 d) ∧ (W0.alloc (.cells #[.int .i64 0, .int .i64 0, .slice none 0 0] 43)).cell? ⟨w.heap.size + 1, 2, none⟩ = some (.slice A2 (d + 1) c2))) ∧ (((W0.alloc (.cells #[.int .i64 0, .int .i64 0, .slice none 0 0] 43)).cell? ⟨w2.heap.size, 0, none⟩ = some (.int .i64 m) ∧ (W0.alloc (.cells #[.int .i64 0, .int .i64 0, .slice none 0 0] 43)).cell? ⟨w2.heap.size, 1, none⟩ = some (.slice AR (d + 1) cR)) ∧ (W0.alloc (.cells #[.int .i64 0, .int .i64 0, .slice none 0 0] 43)).cell? ⟨ge, 0, none⟩ = some (.int .i64 e)) ∧ Below w3.heap.size w3 (W0.alloc (.cells #[.int .i64 0, .int .i64 0, .slice none 0 0] 43)))) := Lib.hid (fun W0 h => HK.out _ (below_alloc _ h.2.2))
  have k0 := below_drew0 w3
  refine region_free (fun w' => (((w'.cell? ⟨w.heap.size, 0, none⟩ = some (.int .i64 m) ∧ w'.cell? ⟨w.heap.size, 1, none⟩ = some (.int .i64 d) ∧ w'.cell? ⟨w.heap.size, 2, none⟩ = some (.slice A1 (d + 1) c1)) ∧ (w'.cell? ⟨w.heap.size + 1, 0, none⟩ = some (.int .i64 m) ∧ w'.cell? ⟨w.heap.size + 1, 1, none⟩ = some (.int .i64 d) ∧ w'.cell? ⟨w.heap.size + 1, 2, none⟩ = some (.slice A2 (d + 1) c2))) ∧ ((w'.cell? ⟨w2.heap.size, 0, none⟩ = some (.int .i64 m) ∧ w'.cell? ⟨w2.heap.size, 1, none⟩ = some (.slice AR (d + 1) cR)) ∧ w'.cell? ⟨ge, 0, none⟩ = some (.int .i64 e)) ∧ Below w3.heap.size w3 w')) 12 11 10 w3.heap.size (fun g => .pointer (some ⟨g, 0, none⟩)) #[.int .i64 0, .int .i64 0, .slice none 0 0] 43 (by kernel_rfl) rfl (HK.out _ k0) ?_
  refine both_take (i := 0) (dst := some 16) ((.agg #[.int .i64 m, .int .i64 d, .slice A1 (d + 1) c1])) rfl rfl (by decide) (by kernel_rfl) (by kernel_rfl) (by kernel_rfl) (by kernel_rfl) (by kernel_rfl) (by kernel_rfl) (by kernel_rfl) (by decide) (fun _ _ _ h => h) (fun v' => Or.inl ⟨by rfl, ?_⟩) ?_
  · rintro w' ⟨⟨⟨p1, p2, p3⟩, p4, p5, p6⟩, ⟨⟨p7, p8⟩, p9⟩, -⟩
    simp only [Act.put, List.setIfInBounds_toArray, List.set_cons_zero, List.set_cons_succ]
    go_simp
  simp only [Act.put, List.setIfInBounds_toArray, List.set_cons_zero, List.set_cons_succ]
  refine both_take (i := 1) (dst := some 17) ((.agg #[.int .i64 m, .slice AR (d + 1) cR])) rfl rfl (by decide) (by kernel_rfl) (by kernel_rfl) (by kernel_rfl) (by kernel_rfl) (by kernel_rfl) (by kernel_rfl) (by kernel_rfl) (by decide) (fun _ _ _ h => h) (fun v' => Or.inl ⟨by rfl, ?_⟩) ?_
  · rintro w' ⟨⟨⟨p1, p2, p3⟩, p4, p5, p6⟩, ⟨⟨p7, p8⟩, p9⟩, -⟩
    simp only [Act.put, List.setIfInBounds_toArray, List.set_cons_zero, List.set_cons_succ]
    go_simp
  simp only [Act.put, List.setIfInBounds_toArray, List.set_cons_zero, List.set_cons_succ]
  refine both_take (i := 2) (dst := some 18) ((.agg #[.int .i64 m, .int .i64 d, .slice A2 (d + 1) c2])) rfl rfl (by decide) (by kernel_rfl) (by kernel_rfl) (by kernel_rfl) (by kernel_rfl) (by kernel_rfl) (by kernel_rfl) (by kernel_rfl) (by decide) (fun _ _ _ h => h) (fun v' => Or.inl ⟨by rfl, ?_⟩) ?_
  · rintro w' ⟨⟨⟨p1, p2, p3⟩, p4, p5, p6⟩, ⟨⟨p7, p8⟩, p9⟩, -⟩
    simp only [Act.put, List.setIfInBounds_toArray, List.set_cons_zero, List.set_cons_succ]
    go_simp
  simp only [Act.put, List.setIfInBounds_toArray, List.set_cons_zero, List.set_cons_succ]
  refine both_take (i := 5) (dst := some 21) ((.agg #[.int .i64 m, .int .i64 d, .slice A2 (d + 1) c2])) rfl rfl (by decide) (by kernel_rfl) (by kernel_rfl) (by kernel_rfl) (by kernel_rfl) (by kernel_rfl) (by kernel_rfl) (by kernel_rfl) (by decide) (fun _ _ _ h => h) (fun v' => Or.inl ⟨by rfl, ?_⟩) ?_
  · rintro w' ⟨⟨⟨p1, p2, p3⟩, p4, p5, p6⟩, ⟨⟨p7, p8⟩, p9⟩, -⟩
    simp only [Act.put, List.setIfInBounds_toArray, List.set_cons_zero, List.set_cons_succ]
    go_simp
  simp only [Act.put, List.setIfInBounds_toArray, List.set_cons_zero, List.set_cons_succ]
  refine both_take (i := 6) (dst := some 22) ((.agg #[.int .i64 m, .slice AR (d + 1) cR])) rfl rfl (by decide) (by kernel_rfl) (by kernel_rfl) (by kernel_rfl) (by kernel_rfl) (by kernel_rfl) (by kernel_rfl) (by kernel_rfl) (by decide) (fun _ _ _ h => h) (fun v' => Or.inl ⟨by rfl, ?_⟩) ?_
  · rintro w' ⟨⟨⟨p1, p2, p3⟩, p4, p5, p6⟩, ⟨⟨p7, p8⟩, p9⟩, -⟩
    simp only [Act.put, List.setIfInBounds_toArray, List.set_cons_zero, List.set_cons_succ]
    go_simp
  simp only [Act.put, List.setIfInBounds_toArray, List.set_cons_zero, List.set_cons_succ]
  refine both_take (i := 7) (dst := some 23) ((.agg #[.int .i64 m, .int .i64 d, .slice A1 (d + 1) c1])) rfl rfl (by decide) (by kernel_rfl) (by kernel_rfl) (by kernel_rfl) (by kernel_rfl) (by kernel_rfl) (by kernel_rfl) (by kernel_rfl) (by decide) (fun _ _ _ h => h) (fun v' => Or.inl ⟨by rfl, ?_⟩) ?_
  · rintro w' ⟨⟨⟨p1, p2, p3⟩, p4, p5, p6⟩, ⟨⟨p7, p8⟩, p9⟩, -⟩
    simp only [Act.put, List.setIfInBounds_toArray, List.set_cons_zero, List.set_cons_succ]
    go_simp
  simp only [Act.put, List.setIfInBounds_toArray, List.set_cons_zero, List.set_cons_succ]
  refine both_step (i := 3) (fun w K h => wpOp_step rfl (fun K' hK' => by go_simp; exact hK' _ _ h)) HSA.out k0.size (by kernel_rfl) (by kernel_rfl) (by kernel_rfl) (by decide) (by decide) (by decide) rfl ?_
  intro v3 x3 hbx3 hsx3 K hK
  simp only [Act.put, List.setIfInBounds_toArray, List.set_cons_zero, List.set_cons_succ]
  go_simp
  (go_at_call 37; with_reducible refine Calls.mono (HAP1.out _ _ _ (HRR.out.below hsx3.2.2) (below_step HB3.out hsx3.2.2)) ?_; rintro x y3 ⟨v, rfl, ho3, hb3⟩; obtain ⟨A3, c3, rfl, -⟩ := ho3.len; rw [L1.out] at ho3 ⊢; have k3 := below_step hsx3.2.2 hb3)
  dsimp only
  refine hK.out _ _ rfl hb3 (HK.out _ k3) ?_
  clear hK K
  try simp only [Act.put, List.setIfInBounds_toArray, List.set_cons_zero, List.set_cons_succ]
  refine both_step (i := 4) (fun w K h => wpOp_step rfl (fun K' hK' => by go_simp; exact hK' _ _ h)) HSA.out k3.size (by kernel_rfl) (by kernel_rfl) (by kernel_rfl) (by decide) (by decide) (by decide) rfl ?_
  intro v4 x4 hbx4 hsx4 K hK
  simp only [Act.put, List.setIfInBounds_toArray, List.set_cons_zero, List.set_cons_succ]
  go_simp
  (go_at_call 27; with_reducible refine Calls.mono (HT1.out _ _ _ (ho3.rp.below hbx4) (below_step HB3.out hsx4.2.2)) ?_; rintro x y4 ⟨v, rfl, ho4, hb4⟩; obtain ⟨A4, c4, rfl, -⟩ := ho4.len; rw [L3.out] at ho4 ⊢; have k4 := below_step hsx4.2.2 hb4)
  dsimp only
  refine hK.out _ _ rfl hb4 (HK.out _ k4) ?_
  clear hK K
  try simp only [Act.put, List.setIfInBounds_toArray, List.set_cons_zero, List.set_cons_succ]
  refine both_step (i := 8) (fun w K h => wpOp_step rfl (fun K' hK' => by go_simp; exact hK' _ _ h)) HSA.out k4.size (by kernel_rfl) (by kernel_rfl) (by kernel_rfl) (by decide) (by decide) (by decide) rfl ?_
  intro v8 x8 hbx8 hsx8 K hK
  simp only [Act.put, List.setIfInBounds_toArray, List.set_cons_zero, List.set_cons_succ]
  go_simp
  (go_at_call 37; with_reducible refine Calls.mono (HAP2.out _ _ _ (HRR.out.below hsx8.2.2) (below_step HB3.out hsx8.2.2)) ?_; rintro x y8 ⟨v, rfl, ho8, hb8⟩; obtain ⟨A8, c8, rfl, -⟩ := ho8.len; rw [L2.out] at ho8 ⊢; have k8 := below_step hsx8.2.2 hb8)
  dsimp only
  refine hK.out _ _ rfl hb8 (HK.out _ k8) ?_
  clear hK K
  try simp only [Act.put, List.setIfInBounds_toArray, List.set_cons_zero, List.set_cons_succ]
  refine both_step (i := 9) (fun w K h => wpOp_step rfl (fun K' hK' => by go_simp; exact hK' _ _ h)) HSA.out k8.size (by kernel_rfl) (by kernel_rfl) (by kernel_rfl) (by decide) (by decide) (by decide) rfl ?_
  intro v9 x9 hbx9 hsx9 K hK
  simp only [Act.put, List.setIfInBounds_toArray, List.set_cons_zero, List.set_cons_succ]
  go_simp
  (go_at_call 27; with_reducible refine Calls.mono (HT2.out _ _ _ (ho8.rp.below hbx9) (below_step HB3.out hsx9.2.2)) ?_; rintro x y9 ⟨v, rfl, ho9, hb9⟩; obtain ⟨A9, c9, rfl, -⟩ := ho9.len; rw [L4.out] at ho9 ⊢; have k9 := below_step hsx9.2.2 hb9)
  dsimp only
  refine hK.out _ _ rfl hb9 (HK.out _ k9) ?_
  clear hK K
  try simp only [Act.put, List.setIfInBounds_toArray, List.set_cons_zero, List.set_cons_succ]
  refine both_step (i := 10) (fun w K h => wpOp_step rfl (fun K' hK' => by go_simp; exact hK' _ _ h)) HSA.out k9.size (by kernel_rfl) (by kernel_rfl) (by kernel_rfl) (by decide) (by decide) (by decide) rfl ?_
  intro v10 x10 hbx10 hsx10 K hK
  simp only [Act.put, List.setIfInBounds_toArray, List.set_cons_zero, List.set_cons_succ]
  go_simp
  (go_at_call 22; with_reducible refine Calls.mono (HP.out _ _ _ _ _ (((((ho4.rp.below hbx8).below hb8).below hbx9).below hb9).below hbx10) (ho9.rp.below hbx10)) ?_; rintro x y10 ⟨v, rfl, ho10, hb10⟩; obtain ⟨A10, c10, rfl, -⟩ := ho10.len; rw [L5.out] at ho10 ⊢; have k10 := below_step hsx10.2.2 hb10)
  dsimp only
  refine hK.out _ _ rfl hb10 (HK.out _ k10) ?_
  clear hK K
  try simp only [Act.put, List.setIfInBounds_toArray, List.set_cons_zero, List.set_cons_succ]
  refine both_end (fun w K h => wpOp_step rfl (fun K' hK' => by go_simp; exact hK' _ _ h)) HSA.out k10.size (by kernel_rfl) (by decide) ?_
  intro gn xn hgn hbn hsn hzn
  simp only [Act.put, List.setIfInBounds_toArray, List.set_cons_zero, List.set_cons_succ]
  have hvn : VarC 43 xn gn #[.int .i64 0, .int .i64 0, .slice none 0 0] := hzn
  obtain ⟨q0, q1, q2, q3, q4, q5⟩ := hvn.tells3
  refine tilN_one (i := 12) (by kernel_rfl) rfl (fun K hK => ?_)
  go_simp
  refine hK.out _ _ (fun hlt => absurd hlt (by decide)) ?_
  clear hK K
  refine tilN_done (by kernel_rfl) ?_
  obtain ⟨vn, on, bn, sn⟩ := fin_free (w := w3) hvn ho10 hbn (by decide) (by decide) hgn hbn.size (below_step k10 hbn) (.int .i64 m) (.int .i64 d) (.slice A10 (d + 1) c10)
  obtain ⟨w4, hw4⟩ : ∃ w4, ((xn.setCell ⟨gn, 0, none⟩ (.int .i64 m)).setCell ⟨gn, 1, none⟩ (.int .i64 d)).setCell ⟨gn, 2, none⟩ (.slice A10 (d + 1) c10) = w4 := ⟨_, rfl⟩
  rw [hw4] at vn on bn sn
  have HX4 := Lib.hid hw4
  have HVN := Lib.hid vn
  have HON := Lib.hid on.rp
  have HB4 := Lib.hid bn
  clear vn on bn sn hw4 hvn hbn hzn hsn q0 q1 q2 q3 q4 q5 ho3 ho4 ho8 ho9 ho10 hb3 hb4 hb8 hb9 hb10 hbx3 hbx4 hbx8 hbx9 hbx10 hsx3 hsx4 hsx8 hsx9 hsx10 k0 k3 k4 k8 k9 k10 HSA
  have HW4 := Lib.hid (below_step HB3.out HB4.out)
  have HK3 := Lib.hid (fun W0 (h : Below w4.heap.size w4 W0) => eu_keep3 (B1.out.keep HW4.out) (B2.out.keep HW4.out) HVN.out.gbox (HE.out.keep HW4.out) h)
  have HSA : Hid (∀ W0, (((W0.cell? ⟨w.heap.size, 0, none⟩ = some (.int .i64 m) ∧ W0.cell? ⟨w.heap.size, 1, none⟩ = some (.int .i64 d) ∧ W0.cell? ⟨w.heap.size, 2, none⟩ = some (.slice A1 (d + 1) c1)) ∧ (W0.cell? ⟨w.heap.size + 1, 0, none⟩ = some (.int .i64 m) ∧ W0.cell? ⟨w.heap.size + 1, 1, none⟩ = some (.int .i64 d) ∧ W0.cell? ⟨w.heap.size + 1, 2, none⟩ = some (.slice A2 (d + 1) c2))) ∧ ((W0.cell? ⟨gn, 0, none⟩ = some (.int .i64 m) ∧ W0.cell? ⟨gn, 1, none⟩ = some (.int .i64 d) ∧ W0.cell? ⟨gn, 2, none⟩ = some (.slice A10 (d + 1) c10)) ∧ W0.cell? ⟨ge, 0, none⟩ = some (.int .i64 e)) ∧ Below w4.heap.size w4 W0) → ((((W0.alloc (.cells #[.int .i64 1, .int .i64 0, .int .i64 (-e)] 2)).cell? ⟨w.heap.size, 0, none⟩ = some (.int .i64 m) ∧ (W0.alloc (.cells #[.int .i64 1, .int .i64 0, .int .i64 (-e)] 2)).cell? ⟨w.heap.size, 1, none⟩ = some (.int .i64 d) ∧ (W0.alloc (.cells #[.int .i64 1, .int .i64 0, .int .i64 (-e)] 2)).cell? ⟨w.heap.size, 2, none⟩ = some (.slice A1 (d + 1) c1)) ∧ ((W0.alloc (.cells #[.int .i64 1, .int .i64 0, .int .i64 (-e)] 2)).cell? ⟨w.heap.size + 1, 0, none⟩ = some (.int .i64 m) ∧ (W0.alloc (.cells #[.int .i64 1, .int .i64 0, .int .i64 (-e)] 2)).cell? ⟨w.heap.size + 1, 1, none⟩ = some (.int .i64 d) ∧ (W0.alloc (.cells #[.int .i64 1, .int .i64 0, .int .i64 (-e)] 2)).cell? ⟨w.heap.size + 1, 2, none⟩ = some (.slice A2 (d + 1) c2))) ∧ (((W0.alloc (.cells #[.int .i64 1, .int .i64 0, .int .i64 (-e)] 2)).cell? ⟨gn, 0, none⟩ = some (.int .i64 m) ∧ (W0.alloc (.cells #[.int .i64 1, .int .i64 0, .int .i64 (-e)] 2)).cell? ⟨gn, 1, none⟩ = some (.int .i64 d) ∧ (W0.alloc (.cells #[.int .i64 1, .int .i64 0, .int .i64 (-e)] 2)).cell? ⟨gn, 2, none⟩ = some (.slice A10 (d + 1) c10)) ∧ (W0.alloc (.cells #[.int .i64 1, .int .i64 0, .int .i64 (-e)] 2)).cell? ⟨ge, 0, none⟩ = some (.int .i64 e)) ∧ Below w4.heap.size w4 (W0.alloc (.cells #[.int .i64 1, .int .i64 0, .int .i64 (-e)] 2)))) := Lib.hid (fun W0 h => HK3.out _ (below_alloc _ h.2.2))
  have wneg : IntKind.i64.wrap (-e) = -e := by rw [IntKind.wrap_i64]; omega
  have k0 := below_drew0 w4
  clear HK HT1 HT2 HAP1 HAP2 HP
  go_upto_region 3 with fail
  rw [HX4.out]
  clear HX4
  have hS0 := HK3.out _ k0
  refine region_tilN (fun w' => (((w'.cell? ⟨w.heap.size, 0, none⟩ = some (.int .i64 m) ∧ w'.cell? ⟨w.heap.size, 1, none⟩ = some (.int .i64 d) ∧ w'.cell? ⟨w.heap.size, 2, none⟩ = some (.slice A1 (d + 1) c1)) ∧ (w'.cell? ⟨w.heap.size + 1, 0, none⟩ = some (.int .i64 m) ∧ w'.cell? ⟨w.heap.size + 1, 1, none⟩ = some (.int .i64 d) ∧ w'.cell? ⟨w.heap.size + 1, 2, none⟩ = some (.slice A2 (d + 1) c2))) ∧ ((w'.cell? ⟨gn, 0, none⟩ = some (.int .i64 m) ∧ w'.cell? ⟨gn, 1, none⟩ = some (.int .i64 d) ∧ w'.cell? ⟨gn, 2, none⟩ = some (.slice A10 (d + 1) c10)) ∧ w'.cell? ⟨ge, 0, none⟩ = some (.int .i64 e)) ∧ Below w4.heap.size w4 w')) 9 (by kernel_rfl) ?_
  refine tilN_take (i := 4) (dst := some 31) (.int .i64 e) rfl rfl (by kernel_rfl) (by kernel_rfl) (by kernel_rfl) (by kernel_rfl) (fun _ _ _ h => h) (Or.inl ⟨by rfl, ?_⟩) hS0 ?_
  · rintro w' ⟨⟨⟨p1, p2, p3⟩, p4, p5, p6⟩, ⟨⟨p7, p8, p10⟩, p9⟩, -⟩
    go_simp
  simp only [Act.put, List.setIfInBounds_toArray, List.set_cons_zero, List.set_cons_succ]
  refine tilN_take (i := 5) (dst := some 32) (.int .i64 (-e)) rfl rfl (by kernel_rfl) (by kernel_rfl) (by kernel_rfl) (by kernel_rfl) (fun _ _ _ h => h) (Or.inl ⟨by rfl, ?_⟩) hS0 ?_
  · rintro w' ⟨⟨⟨p1, p2, p3⟩, p4, p5, p6⟩, ⟨⟨p7, p8, p10⟩, p9⟩, -⟩
    go_simp
  simp only [Act.put, List.setIfInBounds_toArray, List.set_cons_zero, List.set_cons_succ]
  refine both_in 6 33 w4.heap.size (fun g => .slice (some ⟨g, 0, none⟩) 3 3) #[.int .i64 1, .int .i64 0, .int .i64 (-e)] 2 hS0 ?_
  refine both_take (i := 0) (dst := some 27) (.agg #[.int .i64 m, .int .i64 d, .slice A10 (d + 1) c10]) rfl rfl (by decide) (by kernel_rfl) (by kernel_rfl) (by kernel_rfl) (by kernel_rfl) (by kernel_rfl) (by kernel_rfl) (by kernel_rfl) (by decide) (fun _ _ _ h => h) (fun v' => Or.inl ⟨by rfl, ?_⟩) ?_
  · rintro w' ⟨⟨⟨p1, p2, p3⟩, p4, p5, p6⟩, ⟨⟨p7, p8, p10⟩, p9⟩, -⟩
    simp only [Act.put, List.setIfInBounds_toArray, List.set_cons_zero, List.set_cons_succ]
    go_simp
  simp only [Act.put, List.setIfInBounds_toArray, List.set_cons_zero, List.set_cons_succ]
  refine both_take (i := 1) (dst := some 28) (.agg #[.int .i64 m, .int .i64 d, .slice A1 (d + 1) c1]) rfl rfl (by decide) (by kernel_rfl) (by kernel_rfl) (by kernel_rfl) (by kernel_rfl) (by kernel_rfl) (by kernel_rfl) (by kernel_rfl) (by decide) (fun _ _ _ h => h) (fun v' => Or.inl ⟨by rfl, ?_⟩) ?_
  · rintro w' ⟨⟨⟨p1, p2, p3⟩, p4, p5, p6⟩, ⟨⟨p7, p8, p10⟩, p9⟩, -⟩
    simp only [Act.put, List.setIfInBounds_toArray, List.set_cons_zero, List.set_cons_succ]
    go_simp
  simp only [Act.put, List.setIfInBounds_toArray, List.set_cons_zero, List.set_cons_succ]
  refine both_take (i := 2) (dst := some 29) (.agg #[.int .i64 m, .int .i64 d, .slice A2 (d + 1) c2]) rfl rfl (by decide) (by kernel_rfl) (by kernel_rfl) (by kernel_rfl) (by kernel_rfl) (by kernel_rfl) (by kernel_rfl) (by kernel_rfl) (by decide) (fun _ _ _ h => h) (fun v' => Or.inl ⟨by rfl, ?_⟩) ?_
  · rintro w' ⟨⟨⟨p1, p2, p3⟩, p4, p5, p6⟩, ⟨⟨p7, p8, p10⟩, p9⟩, -⟩
    simp only [Act.put, List.setIfInBounds_toArray, List.set_cons_zero, List.set_cons_succ]
    go_simp
  simp only [Act.put, List.setIfInBounds_toArray, List.set_cons_zero, List.set_cons_succ]
  refine both_step (i := 3) (fun w K h => wpOp_step rfl (fun K' hK' => by go_simp; exact hK' _ _ h)) HSA.out k0.size (by kernel_rfl) (by kernel_rfl) (by kernel_rfl) (by decide) (by decide) (by decide) rfl ?_
  intro v3 x3 hbx3 hsx3 K hK
  simp only [Act.put, List.setIfInBounds_toArray, List.set_cons_zero, List.set_cons_succ]
  go_simp
  (go_at_call 27; with_reducible refine Calls.mono (HT3.out _ (below_step HW4.out hsx3.2.2)) ?_; rintro x y3 ⟨v, rfl, ho3, hb3⟩; obtain ⟨A3, c3, rfl, -⟩ := ho3.len; rw [L6.out] at ho3 ⊢; have k3 := below_step hsx3.2.2 hb3)
  dsimp only
  refine hK.out _ _ rfl hb3 (HK3.out _ k3) ?_
  clear hK K
  try simp only [Act.put, List.setIfInBounds_toArray, List.set_cons_zero, List.set_cons_succ]
  refine both_end (fun w K h => wpOp_step rfl (fun K' hK' => by go_simp; exact hK' _ _ h)) HSA.out k3.size (by kernel_rfl) (by decide) ?_
  intro gq xq hgq hbq hsq hzq
  simp only [Act.put, List.setIfInBounds_toArray, List.set_cons_zero, List.set_cons_succ]
  refine tilN_one (i := 7) (by kernel_rfl) rfl (fun K hK => ?_)
  go_simp
  (go_at_call 32; with_reducible refine Calls.mono (HPO.out _ _ _ _ _ (ho3.rp.below hbq) (ri_heap3 1 0 (-e) hzq)) ?_; rintro x y7 ⟨v, rfl, ho7, hb7⟩; obtain ⟨A7, c7, rfl, -⟩ := ho7.len; rw [L7.out] at ho7 ⊢; have k7 := below_step (below_step k3 hbq) hb7)
  dsimp only
  refine hK.out _ _ (fun _ => HK3.out _ k7) ?_
  clear hK K
  try simp only [Act.put, List.setIfInBounds_toArray, List.set_cons_zero, List.set_cons_succ]
  refine tilN_one (i := 8) (by kernel_rfl) rfl (fun K hK => ?_)
  go_simp
  (go_at_call 31; with_reducible refine Calls.mono (HOV.out _ _ _ _ _ (HON.out.below k7) ho7.rp) ?_; rintro x y8 ⟨v, rfl, ho8, hb8⟩; obtain ⟨A8, c8, rfl, -⟩ := ho8.len; rw [L8.out] at ho8 ⊢; have k8 := below_step k7 hb8; have hv := V3.out.keep (below_step HW4.out k8); obtain ⟨q0, q1, q2, q3, q4, q5⟩ := hv.tells3)
  dsimp only
  refine hK.out _ _ (fun _ => HK3.out _ k8) ?_
  clear hK K
  try simp only [Act.put, List.setIfInBounds_toArray, List.set_cons_zero, List.set_cons_succ]
  refine tilN_one (i := 9) (by kernel_rfl) rfl (fun K hK => ?_)
  go_simp
  refine hK.out _ _ (fun hlt => absurd hlt (by decide)) ?_
  clear hK K
  refine tilN_done (by kernel_rfl) ?_
  have hz8 := k7.size
  have hz4 := HW4.out.size
  obtain ⟨f0, f1, f2, f3, f4⟩ := fin_grid (w := w) hv ho8 (.inl (by omega)) (by omega) (Nat.le_refl _) (below_step HB.out (below_step HW4.out k8)) (.int .i64 m) (.int .i64 d) (.slice A8 (d + 1) c8)
  have F3 := Lib.hid (f3.low (lo' := w.heap.size) (by omega))
  have F4 := Lib.hid f4
  unfold set3 at f0 f1 f2
  clear f3 f4 hv ho8 ho7 ho3 hb3 hb7 hb8 k0 k3 k7 k8 hbq hsq hzq hS0 HSA hbx3 hsx3 HK3
  go_wp2
  exact bodyPost_ret (v := .agg #[.int .i64 m, .int .i64 d, .slice A8 (d + 1) c8]) (by simp [results, Try.results35, go_sem, f0, f1, f2]) rfl ⟨_, rfl, F3.out, F4.out⟩
end Go.Proofs.Ytilfjhnkjdfcoaa

/- Contracts of the law of Euler, of the program. -/
namespace Go.Proofs.Ytilfjhnkjdfcoaa
open Go Go.RowKit Go.WideShapes Go.ChangeShapes Go.ChangeAt

/-- the model of EulerLaw -/
def eulP (m d a e : Int) : Int × List (List Int) × Int := if kindB m d [a, e] = true then (if m % 2 = 0 then (0, [], 5) else (m, eulT m a e d.toNat, 0)) else (0, [], 2)
theorem eulP_len (m d a e : Int) : szT (eulP m d a e).2.1 ≤ 1048576 := by
  unfold eulP
  by_cases hk : kindB m d [a, e] = true
  · rw [if_pos hk]
    split
    · exact Nat.zero_le _
    · obtain ⟨h1, h2, -⟩ := kind_iff hk
      obtain ⟨m1, m2⟩ := (isM_iff m).1 h1
      obtain ⟨d1, d2⟩ := (inB_iff _ _ _).1 h2
      exact szT_ok (Pl.Ok.of_tab m1 m2 (by omega : 1 ≤ d.toNat) (by omega) _)
  · rw [if_neg hk]; exact Nat.zero_le _
theorem eulP_odd {m d a e : Int} (h : ¬ m % 2 = 0) : eulP m d a e = stP m d [a, e] (eulT m a e) := by
  unfold eulP stP
  rw [if_neg h]
theorem eulP_bad {m d a e : Int} (h : ¬ kindB m d [a, e] = true) : eulP m d a e = stP m d [a, e] (eulT m a e) := by
  unfold eulP stP
  rw [if_neg h, if_neg h]
theorem kind_two {m d a e : Int} (h : kindB m d [a, e] = true) : (0 ≤ a ∧ a < m) ∧ (0 ≤ e ∧ e < m) := by
  obtain ⟨-, -, h3⟩ := kind_iff h
  unfold allIn at h3
  simp only [List.all_cons, List.all_nil, Bool.and_true, Bool.and_eq_true] at h3
  obtain ⟨h1, h2⟩ := (inB_iff _ _ _).1 h3.1
  obtain ⟨h4, h5⟩ := (inB_iff _ _ _).1 h3.2
  omega
/-- four parameters' boxes and the result's variable -/
theorem cvar4 (w : World) (a b c e : Int) : ∃ W, ((((w.alloc (.cells #[.int .i64 a] 2)).alloc (.cells #[.int .i64 b] 2)).alloc (.cells #[.int .i64 c] 2)).alloc (.cells #[.int .i64 e] 2)).alloc (.cells #[.int .i64 0, .slice none 0 0] 24) = W ∧
    Cel W w.heap.size a ∧ Cel W (w.heap.size + 1) b ∧ Cel W (w.heap.size + 1 + 1) c ∧ Cel W (w.heap.size + 1 + 1 + 1) e ∧ VarC 24 W (w.heap.size + 1 + 1 + 1 + 1) #[.int .i64 0, .slice none 0 0] ∧ W.heap.size = w.heap.size + 1 + 1 + 1 + 1 + 1 ∧ Below w.heap.size w W := by
  refine ⟨_, rfl, ?_, ?_, ?_, ?_, ?_, by simp, below_alloc _ (below_alloc _ (below_alloc _ (below_alloc _ (below_one _ _))))⟩
  · exact ((((Cel.new w a).keep (below_one _ _)).keep (below_one _ _)).keep (below_one _ _)).keep (below_one _ _)
  · have := (((Cel.new (w.alloc (.cells #[.int .i64 a] 2)) b).keep (below_one _ (.cells #[.int .i64 c] 2))).keep (below_one _ (.cells #[.int .i64 e] 2))).keep (below_one _ (.cells #[.int .i64 0, .slice none 0 0] 24))
    simpa using this
  · have := ((Cel.new ((w.alloc (.cells #[.int .i64 a] 2)).alloc (.cells #[.int .i64 b] 2)) c).keep (below_one _ (.cells #[.int .i64 e] 2))).keep (below_one _ (.cells #[.int .i64 0, .slice none 0 0] 24))
    simpa using this
  · have := (Cel.new (((w.alloc (.cells #[.int .i64 a] 2)).alloc (.cells #[.int .i64 b] 2)).alloc (.cells #[.int .i64 c] 2)) e).keep (below_one _ (.cells #[.int .i64 0, .slice none 0 0] 24))
    simpa using this
  · have := VarC.new 24 ((((w.alloc (.cells #[.int .i64 a] 2)).alloc (.cells #[.int .i64 b] 2)).alloc (.cells #[.int .i64 c] 2)).alloc (.cells #[.int .i64 e] 2)) #[.int .i64 0, .slice none 0 0]
    simpa using this
set_option maxHeartbeats 8000000 in
set_option maxRecDepth 100000 in
theorem EulerLaw_any (m d a e : Int) (w : World) :
    Calls Try.prog 17 #[.int .i64 m, .int .i64 d, .int .i64 a, .int .i64 e] w fun x w' => ∃ s, x = .returned (.tuple #[.agg #[.int .i64 (eulP m d a e).1, s], .int .i64 (eulP m d a e).2.2]) ∧ OwnR w' w.heap.size w'.heap.size s (eulP m d a e).2.1 ∧ Below w.heap.size w w' := by
  obtain ⟨W, hW, g1, g2, g3, g4, v3, hWs, hwb⟩ := cvar4 w m d a e
  have hst : ∀ (B : Option Addr) (cb : Nat) (W0 : World), Below W.heap.size W W0 → RI W0 B [a, e] → Calls Try.prog 21 #[.int .i64 m, .int .i64 d, .func (.func 35) #[] #[.pointer (some ⟨w.heap.size, 0, none⟩), .pointer (some ⟨w.heap.size + 1, 0, none⟩), .pointer (some ⟨w.heap.size + 1 + 1, 0, none⟩), .pointer (some ⟨w.heap.size + 1 + 1 + 1, 0, none⟩)], .slice B 2 cb] W0 fun x w' => ∃ s, x = .returned (.tuple #[.agg #[.int .i64 (stP m d [a, e] (eulT m a e)).1, s], .int .i64 (stP m d [a, e] (eulT m a e)).2.2]) ∧ OwnR w' W0.heap.size w'.heap.size s (stP m d [a, e] (eulT m a e)).2.1 ∧ Below W0.heap.size W0 w' :=
    fun B cb W0 h0 hr => standardLaw_any m d 35 #[] _ B cb [a, e] (eulT m a e) W0 (by simp) hr (fun _ m1 m2 d1 d2 => Pl.Ok.of_tab m1 m2 d1 d2 _)
      (enters_fn Try.func35 (of_decide_eq_true (by kernel_rfl)) rfl)
      (fun q A1 c1 A2 c2 W1 hq hk hb r1 r2 => by
        obtain ⟨h1, h2, -⟩ := kind_iff hk
        obtain ⟨⟨k1, k2⟩, k3, k4⟩ := kind_two hk
        obtain ⟨m1, m2⟩ := (isM_iff m).1 h1
        obtain ⟨d1, d2⟩ := (inB_iff _ _ _).1 h2
        have hB := below_step h0 hb
        subst hq
        exact eulC_any m q a e _ _ _ _ A1 c1 A2 c2 W1 m1 m2 (by omega) (by omega) k1 k2 k3 k4 (g1.keep hB) (g2.keep hB) (g3.keep hB) (g4.keep hB) r1 r2)
  have HST := Lib.hid hst
  have HC : Hid (∀ (B : Option Addr) (cb : Nat) (W0 : World), RI W0 B [a, e] → Calls Try.prog 34 #[.int .i64 m, .int .i64 d, .slice B 2 cb] W0 fun x w' => x = .returned (.int .i64 (codeSt m d [a, e])) ∧ W0 = w') := Lib.hid (fun B cb W0 h => codeOfStandard_any m d B cb [a, e] W0 (by simp) h)
  have HR1 : Hid (RI (W.alloc (.cells #[.int .i64 a, .int .i64 e] 2)) (some ⟨w.heap.size + 1 + 1 + 1 + 1 + 1, 0, none⟩) [a, e]) := Lib.hid (by rw [← hWs]; exact ri_two W a e _)
  have HR2 : Hid (RI ((W.alloc (.cells #[.int .i64 a, .int .i64 e] 2)).alloc (.cells #[.int .i64 a, .int .i64 e] 2)) (some ⟨W.heap.size + 1, 0, none⟩) [a, e]) := Lib.hid (by
    have := ri_two (W.alloc (.cells #[.int .i64 a, .int .i64 e] 2)) a e 2
    rw [World.size_alloc] at this
    exact this)
  have hb1 := below_one W (.cells #[.int .i64 a, .int .i64 e] 2)
  have HB1 := Lib.hid hb1
  have HB2 := Lib.hid (below_alloc (.cells #[.int .i64 a, .int .i64 e] 2) hb1)
  have V3 := Lib.hid v3
  have HB := Lib.hid hwb
  have HW := Lib.hid hW
  obtain ⟨x1, -⟩ := g1
  obtain ⟨x2, -⟩ := g2
  obtain ⟨x3, -⟩ := g3
  obtain ⟨x4, -⟩ := g4
  by_cases hev : m % 2 = 0
  · have t1 : m.tmod 2 = 0 := Int.tmod_eq_zero_of_dvd (Int.dvd_of_emod_eq_zero hev)
    have X1 := Lib.hid ((HB1.out.cell (p := ⟨w.heap.size, 0, none⟩) (by show w.heap.size < _; omega)).trans x1)
    have X2 := Lib.hid ((HB1.out.cell (p := ⟨w.heap.size + 1, 0, none⟩) (by show w.heap.size + 1 < _; omega)).trans x2)
    have X3 := Lib.hid ((HB1.out.cell (p := ⟨w.heap.size + 1 + 1, 0, none⟩) (by show w.heap.size + 1 + 1 < _; omega)).trans x3)
    have X4 := Lib.hid ((HB1.out.cell (p := ⟨w.heap.size + 1 + 1 + 1, 0, none⟩) (by show w.heap.size + 1 + 1 + 1 < _; omega)).trans x4)
    by_cases hk : kindB m d [a, e] = true
    · have HA : Hid (eulP m d a e = (0, [], 5)) := Lib.hid (by unfold eulP; rw [if_pos hk, if_pos hev])
      rw [HA.out]
      rw [kind_yes hk] at HC
      clear hst hb1 v3 hwb hk HST HR2 HA hW x1 x2 x3 x4 X1 X2 X3 X4 hWs
      go_enter Try.func17, Try.ntmps17
      go_wp2_with fail
      rw [HW.out]
      refine (HC.out _ _ _ HR1.out).mono ?_
      rintro x w' ⟨rfl, rfl⟩
      have hv := V3.out.keep (HB1.out)
      obtain ⟨q0, q1, q2, q3⟩ := hv.tells2
      obtain ⟨f0, f1, f2, f3⟩ := fin_plane (w := w) hv (OwnR.nil _ w.heap.size 0) (.inr (Nat.zero_le _)) (by omega) (Nat.zero_le _) (below_step HB.out (HB1.out)) (.int .i64 0) (.slice none 0 0)
      have F2 := Lib.hid f2
      have F3 := Lib.hid f3
      clear f2 f3 hv
      go_wp2
      exact bodyPost_ret (v := .tuple #[.agg #[.int .i64 0, .slice none 0 0], .int .i64 (5)]) (by simp [results, Try.results17, go_sem, f0, f1]) rfl ⟨_, rfl, F2.out, F3.out⟩
    · rw [eulP_bad hk]
      rw [kind_no hk] at HC
      clear hk
      obtain ⟨MV, hMV⟩ : ∃ x, (stP m d [a, e] (eulT m a e)).1 = x := ⟨_, rfl⟩
      obtain ⟨CV, hCV⟩ : ∃ x, (stP m d [a, e] (eulT m a e)).2.2 = x := ⟨_, rfl⟩
      obtain ⟨TV, hTV⟩ : ∃ x, (stP m d [a, e] (eulT m a e)).2.1 = x := ⟨_, rfl⟩
      rw [hMV, hCV, hTV] at HST ⊢
      clear hst hb1 v3 hwb hW x1 x2 x3 x4 hWs hMV hCV hTV
      go_enter Try.func17, Try.ntmps17
      go_wp2_with fail
      rw [HW.out]
      refine (HC.out _ _ _ HR1.out).mono ?_
      rintro x w' ⟨rfl, hw'⟩
      subst hw'
      have x1 := X1.out
      have x2 := X2.out
      have x3 := X3.out
      have x4 := X4.out
      go_wp2_with fail
      with_reducible refine Calls.mono (HST.out _ _ _ HB2.out HR2.out) ?_
      rintro x w3 ⟨s, rfl, ho, hb⟩
      obtain ⟨A2, c2, rfl, -⟩ := ho.len
      have hb3 := below_step HB2.out hb
      have hv := V3.out.keep hb3
      obtain ⟨q0, q1, q2, q3⟩ := hv.tells2
      have hz1 := V3.out.lt
      have hz2 := HB2.out.size
      have hz3 := HB.out.size
      obtain ⟨f0, f1, f2, f3⟩ := fin_plane (w := w) hv ho (.inl (by omega)) (by omega) (Nat.le_refl _) (below_step HB.out hb3) (.int .i64 MV) (.slice A2 TV.length c2)
      have F2 := Lib.hid (f2.low (lo' := w.heap.size) (by omega))
      have F3 := Lib.hid f3
      clear f2 f3 hv ho hb3 hb
      go_wp2
      exact bodyPost_ret (v := .tuple #[.agg #[.int .i64 MV, .slice A2 TV.length c2], .int .i64 CV]) (by simp [results, Try.results17, go_sem, f0, f1]) rfl ⟨_, rfl, F2.out, F3.out⟩
  · rw [eulP_odd hev]
    have t1 : ¬ m.tmod 2 = 0 := fun h => hev (Int.emod_eq_zero_of_dvd (Int.dvd_of_tmod_eq_zero h))
    obtain ⟨n1, n2⟩ := ne_facts t1
    obtain ⟨MV, hMV⟩ : ∃ x, (stP m d [a, e] (eulT m a e)).1 = x := ⟨_, rfl⟩
    obtain ⟨CV, hCV⟩ : ∃ x, (stP m d [a, e] (eulT m a e)).2.2 = x := ⟨_, rfl⟩
    obtain ⟨TV, hTV⟩ : ∃ x, (stP m d [a, e] (eulT m a e)).2.1 = x := ⟨_, rfl⟩
    rw [hMV, hCV, hTV] at HST ⊢
    clear hst hb1 v3 hwb hW x1 x2 x3 x4 hWs hMV hCV hTV hev
    go_enter Try.func17, Try.ntmps17
    go_wp2_with fail
    rw [HW.out]
    with_reducible refine Calls.mono (HST.out _ _ _ HB1.out HR1.out) ?_
    rintro x w3 ⟨s, rfl, ho, hb⟩
    obtain ⟨A2, c2, rfl, -⟩ := ho.len
    have hb3 := below_step HB1.out hb
    have hv := V3.out.keep hb3
    obtain ⟨q0, q1, q2, q3⟩ := hv.tells2
    have hz1 := V3.out.lt
    have hz2 := HB1.out.size
    have hz3 := HB.out.size
    obtain ⟨f0, f1, f2, f3⟩ := fin_plane (w := w) hv ho (.inl (by omega)) (by omega) (Nat.le_refl _) (below_step HB.out hb3) (.int .i64 MV) (.slice A2 TV.length c2)
    have F2 := Lib.hid (f2.low (lo' := w.heap.size) (by omega))
    have F3 := Lib.hid f3
    clear f2 f3 hv ho hb3 hb
    go_wp2
    exact bodyPost_ret (v := .tuple #[.agg #[.int .i64 MV, .slice A2 TV.length c2], .int .i64 CV]) (by simp [results, Try.results17, go_sem, f0, f1]) rfl ⟨_, rfl, F2.out, F3.out⟩
end Go.Proofs.Ytilfjhnkjdfcoaa

/- Contracts of the root of the law of Euler, of the model. -/
namespace Go.Proofs.Ytilfjhnkjdfcoaa
open Go Go.RowKit Go.WideShapes Go.ChangeShapes Go.ChangeAt

/-- the coefficients whose root is taken -/
theorem eqL_co {m : Int} {d : Nat} (a e : Int) (e0 : 0 ≤ e) (e1 : e < m) (n : Nat) (h1 : 1 ≤ n) (h : n ≤ d) : Ser.co (eqL m d a e) n = if n = 2 then (2 * m - 2 * a) % m else if n = 4 then e else 0 := by
  unfold eqL Ser.addL Ser.monL
  rw [Ser.co_cut h, Ser.co_cut h, Ser.co_cut h, Ser.co_cut h, Ser.co_cut h]
  unfold Ser.mon
  rw [if_neg (by omega), Int.zero_emod, Int.zero_add]
  by_cases h2 : n = 2
  · rw [if_pos h2, if_neg (by omega), if_pos h2, Int.zero_emod, Int.add_zero, Int.emod_emod, Int.emod_emod]
    rw [show 2 * m - 2 * a = -2 * a + m * 2 by omega, Int.add_mul_emod_self_left]
  · rw [if_neg h2, if_neg h2, Int.zero_emod, Int.zero_emod, Int.zero_add]
    by_cases h4 : n = 4
    · rw [if_pos h4, Int.emod_emod, Int.emod_eq_of_lt e0 e1]
    · rw [if_neg h4, Int.zero_emod, Int.zero_emod]
/-- the inverse of 2 -/
theorem half_eq {m : Int} (h2 : 2 ≤ m) (hm : ¬ m % 2 = 0) : (egI m 2).2 = (m + 1) / 2 := by
  obtain ⟨-, hd, u0, u1⟩ := eg_fact m 2 (by omega) (by omega)
  have hg : gcdI 2 m = 1 := by
    unfold gcdI
    have : Nat.gcd (2 : Int).natAbs m.natAbs = 1 := by
      have h3 : m.natAbs % 2 = 1 := by omega
      have : Nat.Coprime 2 m.natAbs := by
        rw [Nat.coprime_iff_gcd_eq_one, Nat.gcd_rec, h3]
        rfl
      exact this
    rw [this]; rfl
  rw [hg] at hd
  obtain ⟨k, hk⟩ := hd
  obtain ⟨U, hU⟩ : ∃ U, (egI m 2).2 = U := ⟨_, rfl⟩
  rw [hU] at hk u0 u1 ⊢
  have hk0 : m * k < m * 2 := by omega
  have hk1 : -1 ≤ m * k := by omega
  have k1 : k < 2 := Int.lt_of_mul_lt_mul_left hk0 (by omega)
  have k0 : -1 < k := by
    apply Int.lt_of_mul_lt_mul_left (a := m) _ (by omega)
    omega
  have : k = 0 ∨ k = 1 := by omega
  rcases this with rfl | rfl
  · omega
  · omega
/-- what the inner loop has when the terms below i have come -/
def wantE (m : Int) (r : Nat → Int) (n : Nat) (A : Int) (i : Nat) : Int := (A - Ser.midS r n i) % m
theorem wantE_zero {m : Int} (r : Nat → Int) (n : Nat) {A : Int} (h0 : 0 ≤ A) (h1 : A < m) : wantE m r n A 0 = A := by
  unfold wantE Ser.midS
  rw [Ser.psum, Int.sub_zero, Int.emod_eq_of_lt h0 h1]
theorem wantE_step (m : Int) (r : Nat → Int) (n : Nat) (A : Int) (i : Nat) : (wantE m r n A i + (m - r (i + 1)) * r (n - (i + 1))) % m = wantE m r n A (i + 1) := by
  unfold wantE Ser.midS
  rw [Ser.psum, Int.emod_add_emod]
  rw [show A - Ser.psum (fun i => r (i + 1) * r (n - (i + 1))) i + (m - r (i + 1)) * r (n - (i + 1)) = A - (Ser.psum (fun i => r (i + 1) * r (n - (i + 1))) i + r (i + 1) * r (n - (i + 1))) + m * r (n - (i + 1)) by
    rw [Int.sub_mul]; omega, Int.add_mul_emod_self_left]
theorem wantE_end {m : Int} (hm : 2 ≤ m) {d : Nat} (h : Int) (a : Nat → Int) (k : Nat) (hk : k + 1 ≤ d) :
    (Ser.rtL m d h a k).set (k + 1) (wantE m (Ser.co (Ser.rtL m d h a k)) (k + 1) (a (k + 1)) k * h % m) = Ser.rtL m d h a (k + 1) := by
  show _ = (Ser.rtL m d h a k).set (k + 1) _
  congr 1
  obtain ⟨-, hz⟩ := Ser.rtL_at (d := d) hm h a k (by omega)
  rw [Ser.cv_mid _ (k + 1) (by omega) (hz (k + 1) (by omega)), Nat.add_sub_cancel, Int.mul_comm h]
  unfold wantE
  exact Ser.mul_cong (Int.emod_emod _ _) rfl
theorem root_list (m : Int) (d : Nat) (m1 : 2 ≤ m) : (List.replicate (d + 1) (0 : Int)).set 0 1 = Ser.cut m d (Ser.mon 0 1) := by
  refine Ser.list_ext (by simp [Ser.cut_length]) (fun i hi => ?_)
  rw [List.length_set, List.length_replicate] at hi
  rw [Ser.co_cut (by omega), Ser.co_set (by simp)]
  unfold Ser.mon
  by_cases h : i = 0
  · rw [if_pos h, if_pos h, Int.emod_eq_of_lt (by omega) (by omega)]
  · rw [if_neg h, if_neg h, Ser.co_zeros, Int.zero_emod]
set_option maxHeartbeats 8000000 in
set_option maxRecDepth 100000 in
theorem l08Root_any (m : Int) (d : Nat) (a e : Int) (w : World) (m1 : 2 ≤ m) (m2 : m ≤ 10000) (d1 : 1 ≤ d) (d2 : d ≤ 10) (hodd : ¬ m % 2 = 0) (a0 : 0 ≤ a) (a1 : a < m) (e0 : 0 ≤ e) (e1 : e < m) :
    Calls Try.prog 52 #[.int .i64 m, .int .i64 d, .int .i64 a, .int .i64 e] w fun x w' => ∃ v, x = .returned v ∧ OwnI w' w.heap.size v (erL m d a e) ∧ Below w.heap.size w w' := by
  have hmk : ∀ W : World, (Instr.makeSlice 50 (.int .i64 ((d : Int) + 1)) (.int .i64 ((d : Int) + 1))).run Try.prog W = .ok (.slice (some ⟨W.heap.size, 0, none⟩) (d + 1) (d + 1)) (W.alloc (.cells (madeCells #[.int .i64 0] (d + 1)) 2)) := by
    intro W
    have := run_make_row' (P := Try.prog) 50 2 (.int .i64 0) 8 Try.underlying50 info64 rfl .i64 .i64 (d + 1) (by omega) (by omega) W
    rwa [show ((d + 1 : Nat) : Int) = (d : Int) + 1 by omega] at this
  have hI := fun W0 => l01Inv_any m 2 W0 (by omega) (by omega) m2
  rw [half_eq m1 hodd] at hI
  obtain ⟨h, hh⟩ : ∃ h, (m + 1) / 2 = h := ⟨_, rfl⟩
  rw [hh] at hI
  have HI := Lib.hid hI
  have hh1 : 0 ≤ h := by omega
  have hh2 : h ≤ 5001 := by omega
  obtain ⟨f, hf⟩ : ∃ f, Ser.co (eqL m d a e) = f := ⟨_, rfl⟩
  have HA := Lib.hid (fun n (h1 : 1 ≤ n) (h2 : n ≤ d) => by have := eqL_co (d := d) a e e0 e1 n h1 h2; rw [hf] at this; exact this)
  have hR : erL m d a e = Ser.rtL m d h f d := by unfold erL; rw [hh, hf]
  rw [hR]
  have w0 : IntKind.i64.wrap ((d : Int) + 1) = (d : Int) + 1 := by rw [IntKind.wrap_i64]; omega
  clear hI hh hf hR
  go_enter Try.func52, Try.ntmps52
  go_upto_region 1 with fail
  go_cut [9, 10] (fun s9 s10 wx => s9 = .int .i64 h ∧ ∃ g, s10 = .slice (some ⟨g, 0, none⟩) (d + 1) (d + 1) ∧ OwnI wx w.heap.size (.slice (some ⟨g, 0, none⟩) (d + 1) (d + 1)) (List.replicate (d + 1) 0) ∧ Below w.heap.size w wx)
  case first =>
    go_region_with (go_at_call 66; refine (HI.out _).mono ?_; rintro x w' ⟨rfl, rfl⟩)
    all_goals
      go_wp2_with fail
      go_meet
      case rel => exact ⟨rfl, _, rfl, OwnI.made _ _ (by unfold maxLen; omega), below_alloc _ (below_drew0 w)⟩
  case rest =>
    obtain ⟨w1, hwc⟩ : ∃ w9, w9 = wc := ⟨_, rfl⟩
    subst hwc
    obtain ⟨rfl, g, rfl, ho, hb⟩ := hcut
    obtain ⟨hg0, -, hc0, hf0⟩ := ho.cells
    have hd1 := hc0 0 (by simp)
    have hf1 := hf0 0
    have ho2 := ho.set 0 1
    rw [root_list m d m1] at ho2
    have HO := Lib.hid (show OwnI _ w.heap.size (.slice (some ⟨g, 0, none⟩) (d + 1) (d + 1)) (Ser.rtL m d h f 0) from ho2)
    have HB := Lib.hid (hb.setCell (p := ⟨g, 0, none⟩) hg0 (.int .i64 1))
    have j0 : (0 : Int) < (d : Int) + 1 := by omega
    clear ho hb hc0 hf0 ho2
    go_wp2
    clear hd1 hf1
    go_loopw [11, 12, 13] (fun s11 _ _ wr => ∃ n k : Nat, n = k + 1 ∧ k ≤ d ∧ s11 = .int .i64 n ∧ OwnI wr w.heap.size (.slice (some ⟨g, 0, none⟩) (d + 1) (d + 1)) (Ser.rtL m d h f k) ∧ Below w.heap.size w wr) (fun s11 _ _ _ => d + 2 - (intOf s11).toNat)
    case atStart => exact ⟨1, 0, rfl, Nat.zero_le _, rfl, HO.out, HB.out⟩
    case round =>
      clear HO HB
      obtain ⟨n, k, hkn, hk, rfl, own, hbl⟩ := hrel
      have OW := Lib.hid own
      have HB := Lib.hid hbl
      have HKL := Lib.hid (Ser.rtL_length m d h f k)
      have HKN := Lib.hid hkn
      by_cases hlt : n ≤ d
      · have hlt2 : (n : Int) ≤ (d : Int) := by omega
        have HRED := Lib.hid (Ser.rtL_red (show 0 < m by omega) d h f k hk)
        obtain ⟨-, -, hcl, hfz⟩ := own.cells
        have HCL := Lib.hid hcl
        have HFZ := Lib.hid hfz
        have HEND := Lib.hid (wantE_end (d := d) m1 h f k (by omega))
        have hA := HA.out n (by omega) hlt
        have hAr : 0 ≤ f n ∧ f n < m := by
          by_cases q2 : n = 2
          · rw [hA, if_pos q2]; exact ⟨Int.emod_nonneg _ (by omega), Int.emod_lt_of_pos _ (by omega)⟩
          · by_cases q4 : n = 4
            · rw [hA, if_neg q2, if_pos q4]; exact ⟨e0, e1⟩
            · rw [hA, if_neg q2, if_neg q4]; omega
        obtain ⟨r, hr⟩ : ∃ r, Ser.co (Ser.rtL m d h f k) = r := ⟨_, rfl⟩
        have HRR := Lib.hid hr
        have hz := wantE_zero (m := m) r n hAr.1 hAr.2
        obtain ⟨A, hAA⟩ : ∃ A, f n = A := ⟨_, rfl⟩
        have HEN := HEND.out
        rw [hr, ← hkn, hAA] at HEN
        have HE := Lib.hid HEN
        rw [hAA] at hA hz hAr
        have HZ := Lib.hid hz
        have hA0 : (n : Int) = 2 ∧ A = (2 * m - 2 * a) % m ∨ ¬ (n : Int) = 2 ∧ (n : Int) = 4 ∧ A = e ∨ ¬ (n : Int) = 2 ∧ ¬ (n : Int) = 4 ∧ A = 0 := by
          by_cases q2 : n = 2
          · rw [if_pos q2] at hA; exact .inl ⟨by omega, hA⟩
          · rw [if_neg q2] at hA
            by_cases q4 : n = 4
            · rw [if_pos q4] at hA; exact .inr (.inl ⟨by omega, by omega, hA⟩)
            · rw [if_neg q4] at hA; exact .inr (.inr ⟨by omega, by omega, hA⟩)
        have u0 : IntKind.i64.wrap (2 * m) = 2 * m := by rw [IntKind.wrap_i64]; omega
        have u1 : IntKind.i64.wrap (2 * a) = 2 * a := by rw [IntKind.wrap_i64]; omega
        have u2 : IntKind.i64.wrap (2 * m - 2 * a) = 2 * m - 2 * a := by rw [IntKind.wrap_i64]; omega
        have u3 : 0 ≤ 2 * m - 2 * a := by omega
        clear HEN hr hA hz hAA own hbl hcl hfz hkn
        rcases hA0 with ⟨q1, q2⟩ | ⟨q1, q2, q3⟩ | ⟨q1, q2, q3⟩
        all_goals
          go_wp2
          go_loopw [12, 13] (fun s12 s13 wx => ∃ i j : Nat, i = j + 1 ∧ j ≤ k ∧ s13 = .int .i64 i ∧ s12 = .int .i64 (wantE m r n A j) ∧ ∃ q, wx = wr.drewN q) (fun _ s13 _ => n + 1 - (intOf s13).toNat)
          case atStart => exact ⟨1, 0, rfl, Nat.zero_le _, rfl, by (try rw [HZ.out]); first | rfl | (rw [q2]; try rfl) | (rw [q3]; try rfl), 0, rfl⟩
          case round =>
            have HE3 := HE
            clear HE
            obtain ⟨i, j, hij, hj, rfl, rfl, q, rfl⟩ := hrel
            have hkn := HKN.out
            have hkl := HKL.out
            have s0 : 0 ≤ wantE m r n A j := Int.emod_nonneg _ (by omega)
            have s1 : wantE m r n A j < m := Int.emod_lt_of_pos _ (by omega)
            by_cases hin : i < n
            · have hin2 : (i : Int) < (n : Int) := by omega
              have hs := wantE_step m r n A j
              have c1 := HCL.out i (by omega)
              have c2 := HCL.out (n - i) (by omega)
              have r1 := HRED.out i
              have r2 := HRED.out (n - i)
              rw [show (Ser.rtL m d h f k)[i]?.getD 0 = r i by rw [← HRR.out]; rfl] at c1
              rw [show (Ser.rtL m d h f k)[n - i]?.getD 0 = r (n - i) by rw [← HRR.out]; rfl] at c2
              rw [HRR.out] at r1 r2
              rw [← hij] at hs
              obtain ⟨T, hT⟩ : ∃ T, wantE m r n A j = T := ⟨_, rfl⟩
              obtain ⟨X, hX⟩ : ∃ X, r i = X := ⟨_, rfl⟩
              obtain ⟨Y, hY⟩ : ∃ Y, r (n - i) = Y := ⟨_, rfl⟩
              rw [hX, hY, hT] at hs
              rw [hT] at s0 s1 ⊢
              rw [hX] at c1 r1
              rw [hY] at c2 r2
              have HS := Lib.hid hs
              obtain ⟨V, hV⟩ : ∃ V, m - X = V := ⟨_, rfl⟩
              have v1 : 0 ≤ V := by omega
              have v2 : V ≤ 10000 := by omega
              have p1 := Int.mul_nonneg v1 r2.1
              have p2 := (mul_bd (x := V) (y := Y) v1 (by omega) (by omega) (by omega)).2
              have w2 : IntKind.i64.wrap V = V := by rw [IntKind.wrap_i64]; omega
              have j1 : (0 : Int) ≤ (i : Int) := by omega
              have j2 : (i : Int) < (d : Int) + 1 := by omega
              have j3 : (0 : Int) ≤ (n : Int) - (i : Int) := by omega
              have j4 : (n : Int) - (i : Int) < (d : Int) + 1 := by omega
              have j5 : ((n : Int) - (i : Int)).toNat = n - i := by omega
              try have k3 : (0 : Int) ≤ 2 - (i : Int) := by omega
              try have k4 : (2 : Int) - (i : Int) < (d : Int) + 1 := by omega
              try have k5 : ((2 : Int) - (i : Int)).toNat = n - i := by omega
              try have k6 : (0 : Int) ≤ 4 - (i : Int) := by omega
              try have k7 : (4 : Int) - (i : Int) < (d : Int) + 1 := by omega
              try have k8 : ((4 : Int) - (i : Int)).toNat = n - i := by omega
              rw [hV] at HS
              clear hs hT hX hY hij hkn hkl
              go_wp2
              go_quiet (fail)
              go_wp2
              go_roundw
              case rel => exact ⟨i + 1, i, rfl, by have := HKN.out; omega, by go_num, by rw [← HS.out], _, rfl⟩
              case measure => simp only [intOf]; omega
            · have hin2 : ¬ (i : Int) < (n : Int) := by omega
              obtain rfl : j = k := by omega
              have HE2 := HE3.out
              obtain ⟨T, hT⟩ : ∃ T, wantE m r n A j = T := ⟨_, rfl⟩
              rw [hT] at s0 s1 HE2 ⊢
              have d1' := HCL.out n (by omega)
              have f1' := HFZ.out n
              have own2 := (OW.out.drewN q).set n (T * h % m)
              rw [HE2] at own2
              have OW2 := Lib.hid own2
              have HB2 := Lib.hid ((below_drewN HB.out q).setCell (p := ⟨g, n, none⟩) hg0 (.int .i64 (T * h % m)))
              have p1 := Int.mul_nonneg s0 hh1
              have p2 := (mul_bd (x := T) (y := h) s0 (by omega) (by omega) (by omega)).2
              have j1 : (0 : Int) ≤ (n : Int) := by omega
              have j2 : (n : Int) < (d : Int) + 1 := by omega
              have d2' : (wr.drewN q).cell? ⟨g, n, none⟩ = some (.int .i64 ((Ser.rtL m d h f j)[n]?.getD 0)) := d1'
              have f2' : (wr.drewN q).frozen? ⟨g, n, none⟩ = false := f1'
              have d3' := d2'
              have f3' := f2'
              try have NN := Lib.hid (show n = 2 by omega)
              try have NN := Lib.hid (show n = 4 by omega)
              (try rw [show n = 2 by omega] at d3' f3')
              (try rw [show n = 4 by omega] at d3' f3')
              clear hT HE2 own2 d1' f1' hkn hkl hij
              go_wp2
              go_roundw
              case rel => exact ⟨n + 1, n, rfl, hlt, by go_num, by have z := OW2.out; first | exact z | (rw [NN.out] at z ⊢; exact z), by have z := HB2.out; first | exact z | (rw [NN.out] at z; exact z)⟩
              case measure => simp only [intOf]; omega
      · have hlt2 : ¬ (n : Int) ≤ (d : Int) := by omega
        obtain rfl : k = d := by omega
        clear hkn
        go_wp2
        go_ret
        exact ⟨_, rfl, OW.out, HB.out⟩
/-- one number of a table is read and written -/
theorem OwnR.poke2 {w : World} {lo hi n c g : Nat} {m : Int} {d : Nat} {f : Nat → Nat → Int} (h : OwnR w lo hi (.slice (some ⟨g, 0, none⟩) n c) (Pl.tab m d f)) (i j M : Nat) (hij : i + j ≤ d) (hM : M = d - i + 1) :
    ∃ b c', w.cell? ⟨g, i, none⟩ = some (.slice (some ⟨b, 0, none⟩) M c') ∧ w.cell? ⟨b, j, none⟩ = some (.int .i64 (f i j % m)) ∧ w.frozen? ⟨b, j, none⟩ = false ∧ lo ≤ b ∧ b < hi ∧
      ∀ (f' : Nat → Nat → Int) (y : Int), f' i j % m = y → (∀ p q, p + q ≤ d → ¬ (p = i ∧ q = j) → f' p q % m = f p q % m) → OwnR (w.setCell ⟨b, j, none⟩ (.int .i64 y)) lo hi (.slice (some ⟨g, 0, none⟩) n c) (Pl.tab m d f') := by
  have hr : (Pl.rw' (Pl.tab m d f) i).length = M := by rw [Pl.tab_row m d f i (by omega), Ser.cut_length, hM]
  obtain ⟨b, c', g1, g2, g3, g4, hcel⟩ := h.numB i j M (by rw [Pl.tab_length]; omega) hr (by omega)
  obtain ⟨c4, c5, c6, c7⟩ := hcel w (Below.refl _ _)
  rw [Pl.pc_tab hij] at c5
  refine ⟨b, c', c4, c5, c6, g2, g3, fun f' y hy hne => ?_⟩
  have h8 := c7 y
  rw [Pl.tab_put hij hy hne] at h8
  exact h8
theorem Span.drew {lo hi : Nat} {w w' : World} (h : Span lo hi w w') : Span lo hi w w'.drew := ⟨h.os, h.tape, h.output, h.size, h.block⟩
/-- the factor x gives, as far as it has come -/
def et1 (r : Nat → Int) (k : Nat) : Nat → Nat → Int := fun i j => if i = 1 ∧ j < k then r j else 0
def et2 (r : Nat → Int) (k : Nat) : Nat → Nat → Int := fun i j => (if i = 1 then r j else 0) + (if j = 1 ∧ i < k then r i else 0)
def et3 (e : Int) (k : Nat) : Nat → Nat → Int := fun i j => if i = j ∧ i % 2 = 0 ∧ i / 2 < k then e ^ (i / 2) else 0
theorem et1_zero (m : Int) (d : Nat) (r : Nat → Int) : Pl.tab m d (et1 r 0) = Pl.tab m d fun _ _ => 0 := Pl.tab_congr (Pl.Eq.of m d (fun i j _ => by
  unfold et1; rw [if_neg (by omega)]))
theorem et3_zero (m : Int) (d : Nat) (e : Int) : Pl.tab m d (et3 e 0) = Pl.tab m d fun _ _ => 0 := Pl.tab_congr (Pl.Eq.of m d (fun i j _ => by
  unfold et3; rw [if_neg (by omega)]))
theorem et1_at (r : Nat → Int) (k : Nat) : et1 r (k + 1) 1 k = r k := if_pos ⟨rfl, by omega⟩
theorem et1_ne (r : Nat → Int) (k p q : Nat) (h : ¬ (p = 1 ∧ q = k)) : et1 r (k + 1) p q = et1 r k p q := by
  unfold et1
  by_cases h1 : p = 1 ∧ q < k
  · rw [if_pos h1, if_pos ⟨h1.1, by omega⟩]
  · rw [if_neg h1, if_neg (by omega)]
theorem et1_end (m : Int) (d : Nat) (r : Nat → Int) : Pl.tab m d (et1 r d) = Pl.tab m d (et2 r 0) := Pl.tab_congr (Pl.Eq.of m d (fun i j hij => by
  unfold et1 et2
  rw [if_neg (show ¬ (j = 1 ∧ i < 0) by omega), Int.add_zero]
  by_cases h1 : i = 1
  · rw [if_pos ⟨h1, by omega⟩, if_pos h1]
  · rw [if_neg (fun h => h1 h.1), if_neg h1]))
theorem et2_at (r : Nat → Int) (k : Nat) : et2 r (k + 1) k 1 = et2 r k k 1 + r k := by
  unfold et2
  rw [if_pos (show 1 = 1 ∧ k < k + 1 by omega), if_neg (show ¬ (1 = 1 ∧ k < k) by omega), Int.add_zero]
theorem et2_ne (r : Nat → Int) (k p q : Nat) (h : ¬ (p = k ∧ q = 1)) : et2 r (k + 1) p q = et2 r k p q := by
  unfold et2
  congr 1
  by_cases h1 : q = 1 ∧ p < k
  · rw [if_pos h1, if_pos ⟨h1.1, by omega⟩]
  · rw [if_neg h1, if_neg (by omega)]
theorem et2_end (m : Int) (d : Nat) (r : Nat → Int) : Pl.tab m d (et2 r d) = Pl.tab m d (Pl.euT r) := Pl.tab_congr (Pl.Eq.of m d (fun i j hij => by
  unfold et2 Pl.euT
  congr 1
  by_cases h1 : j = 1
  · rw [if_pos ⟨h1, by omega⟩, if_pos h1]
  · rw [if_neg (fun h => h1 h.1), if_neg h1]))
theorem et3_at (e : Int) (k : Nat) : et3 e (k + 1) (2 * k) (2 * k) = e ^ k := by
  unfold et3
  rw [if_pos ⟨rfl, by omega, by omega⟩, show 2 * k / 2 = k by omega]
theorem et3_ne (e : Int) (k p q : Nat) (h : ¬ (p = 2 * k ∧ q = 2 * k)) : et3 e (k + 1) p q = et3 e k p q := by
  unfold et3
  by_cases h1 : p = q ∧ p % 2 = 0 ∧ p / 2 < k
  · rw [if_pos h1, if_pos ⟨h1.1, h1.2.1, by omega⟩]
  · rw [if_neg h1, if_neg (by omega)]
theorem et3_end (m : Int) {d k : Nat} (e : Int) (h : d < 4 * k) : Pl.tab m d (et3 e k) = Pl.tab m d (Pl.euG e) := Pl.tab_congr (Pl.Eq.of m d (fun i j hij => by
  unfold et3 Pl.euG
  by_cases h1 : i = j ∧ i % 2 = 0
  · rw [if_pos ⟨h1.1, h1.2, by omega⟩, if_pos h1]
  · rw [if_neg (fun h => h1 ⟨h.1, h.2.1⟩), if_neg h1]))
set_option maxHeartbeats 8000000 in
set_option maxRecDepth 100000 in
theorem l08Euler_any (m : Int) (d : Nat) (a e : Int) (w : World) (m1 : 2 ≤ m) (m2 : m ≤ 10000) (d1 : 1 ≤ d) (d2 : d ≤ 10) (hodd : ¬ m % 2 = 0) (a0 : 0 ≤ a) (a1 : a < m) (e0 : 0 ≤ e) (e1 : e < m) :
    Calls Try.prog 33 #[.int .i64 m, .int .i64 d, .int .i64 a, .int .i64 e] w fun x w' => ∃ v, x = .returned v ∧ OwnR w' w.heap.size w'.heap.size v (eulT m a e d) ∧ Below w.heap.size w w' := by
  have HRO := Lib.hid (fun W0 => l08Root_any m d a e W0 m1 m2 d1 d2 hodd a0 a1 e0 e1)
  have HZ := Lib.hid (fun W0 => l03Zero_any m d W0 (by omega))
  have hrl := (erL_ok m1 m2 d1 d2 a e).len
  have hrr := (erL_ok m1 m2 d1 d2 a e).red
  have heu : eulT m a e d = Pl.tab m d (Pl.mul2 (Pl.euT (Ser.co (erL m d a e))) (Pl.euG e)) := rfl
  obtain ⟨R, hR⟩ : ∃ R, erL m d a e = R := ⟨_, rfl⟩
  rw [hR] at HRO hrl hrr heu
  rw [heu]
  have HRR := Lib.hid hrr
  have hm0 : ¬ m = 0 := by omega
  clear heu hR hrr
  go_enter Try.func33, Try.ntmps33
  go_wp2_with fail
  refine (HRO.out _).mono ?_
  rintro x wa ⟨v0, rfl, hor, hbr⟩
  obtain ⟨A, cr, rfl, hri⟩ := hor.form
  rw [hrl]
  go_wp2_with fail
  refine (HZ.out _).mono ?_
  rintro x wb ⟨v1, rfl, ho1, hb1⟩
  obtain ⟨g1, cv1, rfl⟩ := ho1.openv (by rw [Pl.tab_length]; omega)
  rw [Pl.tab_length] at ho1 ⊢
  go_wp2_with fail
  refine (HZ.out _).mono ?_
  rintro x wc ⟨v2, rfl, ho2, hb2⟩
  obtain ⟨g2, cv2, rfl⟩ := ho2.openv (by rw [Pl.tab_length]; omega)
  rw [Pl.tab_length] at ho2 ⊢
  have ho1 := ho1.keep hb2
  rw [← et1_zero m d (Ser.co R)] at ho1
  rw [← et3_zero m d e] at ho2
  have BA := Lib.hid (below_step hb1 hb2)
  have hsa := hb1.size
  have hsb := hb2.size
  have O1 := Lib.hid ho1
  have O2 := Lib.hid ho2
  have RR := Lib.hid hri
  have HBW := Lib.hid (below_step hbr (below_step hb1 hb2))
  have hsw := hbr.size
  clear hor hbr hri ho1 hb1 ho2 hb2 HZ HRO
  go_wp2
  go_loopw [12] (fun s wr => ∃ k : Nat, k ≤ d ∧ s = .int .i64 k ∧ OwnR wr wa.heap.size wb.heap.size (.slice (some ⟨g1, 0, none⟩) (d + 1) cv1) (Pl.tab m d (et1 (Ser.co R) k)) ∧ Span wa.heap.size wb.heap.size wc wr) (fun s _ => d - (intOf s).toNat)
  case atStart => exact ⟨0, Nat.zero_le _, rfl, O1.out, Span.refl _ _ _⟩
  case round =>
    clear O1
    obtain ⟨k, hk, rfl, ho, hs⟩ := hrel
    have hbe := hs.below (by omega)
    by_cases hlt : k < d
    · obtain ⟨b, c', p1, p2, p3, p4, p5, p6⟩ := (ho.far (Span.drew (Span.refl 0 0 wr)) (.inr (Nat.zero_le _))).poke2 1 k d (by omega) (by omega)
      obtain ⟨bR, oR, rfl, hbR, hcR⟩ := (RR.out.below (BA.out.trans hbe)).at k (by omega)
      have hred := HRR.out k
      obtain ⟨X, hX⟩ : ∃ X, Ser.co R k = X := ⟨_, rfl⟩
      rw [hX] at hcR hred
      have o1 := p6 (et1 (Ser.co R) (k + 1)) X (by rw [et1_at, hX]; exact Int.emod_eq_of_lt hred.1 hred.2) (fun p q _ hne => by rw [et1_ne _ _ _ _ hne])
      have OO := Lib.hid o1
      have SS := Lib.hid (hs.drew.trans (Span.setCell _ _ _ _ k (.int .i64 X) p4 p5))
      have q1 : wr.cell? ⟨g1, 1, none⟩ = some (.slice (some ⟨b, 0, none⟩) d c') := p1
      have j0 : (0 : Int) ≤ (k : Int) := by omega
      have j1 : (k : Int) < (d : Int) := by omega
      have j2 : (k : Int) < (d : Int) + 1 := by omega
      have j3 : (1 : Int) < (d : Int) + 1 := by omega
      clear ho hs hbe p6 o1 hX
      go_wp2
      go_still_tail 8, (by kernel_rfl)
      change wpList _ _ _ _ _ wr.drew
      go_wp2
      go_roundw
      case rel => exact ⟨k + 1, by omega, by go_num, OO.out, SS.out⟩
      case measure => simp only [intOf]; omega
    · obtain rfl : d = k := by omega
      rw [et1_end] at ho
      have O1 := Lib.hid ho
      have S1 := Lib.hid hs
      have j1 : ¬ (d : Int) < (d : Int) := by omega
      clear ho hs hbe
      go_wp2
      go_loopw [13, 14] (fun s _ wr => ∃ k : Nat, k ≤ d ∧ s = .int .i64 k ∧ OwnR wr wa.heap.size wb.heap.size (.slice (some ⟨g1, 0, none⟩) (d + 1) cv1) (Pl.tab m d (et2 (Ser.co R) k)) ∧ Span wa.heap.size wb.heap.size wc wr) (fun s _ _ => d - (intOf s).toNat)
      case atStart => exact ⟨0, Nat.zero_le _, rfl, O1.out, S1.out⟩
      case round =>
        clear O1 S1
        obtain ⟨k, hk, rfl, ho, hs⟩ := hrel
        have hbe := hs.below (by omega)
        by_cases hlt : k < d
        · obtain ⟨b, c', p1, p2, p3, p4, p5, p6⟩ := (ho.far (Span.drew (Span.refl 0 0 wr)) (.inr (Nat.zero_le _))).poke2 k 1 (d - k + 1) (by omega) rfl
          obtain ⟨bR, oR, rfl, hbR, hcR⟩ := (RR.out.below (BA.out.trans hbe)).at k (by omega)
          have hred := HRR.out k
          have hY0 := Int.emod_nonneg (et2 (Ser.co R) k k 1) hm0
          have hY1 := Int.emod_lt_of_pos (et2 (Ser.co R) k k 1) (show 0 < m by omega)
          have hat := et2_at (Ser.co R) k
          obtain ⟨X, hX⟩ : ∃ X, Ser.co R k = X := ⟨_, rfl⟩
          rw [hX] at hcR hred hat
          obtain ⟨Y, hY⟩ : ∃ Y, et2 (Ser.co R) k k 1 % m = Y := ⟨_, rfl⟩
          have hxy : et2 (Ser.co R) (k + 1) k 1 % m = (Y + X) % m := by rw [hat, ← hY, Int.emod_add_emod]
          rw [hY] at p2 hY0 hY1
          have o1 := p6 (et2 (Ser.co R) (k + 1)) ((Y + X) % m) hxy (fun p q _ hne => by rw [et2_ne _ _ _ _ hne])
          have OO := Lib.hid o1
          have SS := Lib.hid (hs.drew.trans (Span.setCell _ _ _ _ 1 (.int .i64 ((Y + X) % m)) p4 p5))
          obtain ⟨M, hM⟩ : ∃ M, d - k + 1 = M := ⟨_, rfl⟩
          rw [hM] at p1
          have q1 : wr.cell? ⟨g1, k, none⟩ = some (.slice (some ⟨b, 0, none⟩) M c') := p1
          have q2 : wr.cell? ⟨b, 1, none⟩ = some (.int .i64 Y) := p2
          have j0 : (0 : Int) ≤ (k : Int) := by omega
          have j1 : (k : Int) < (d : Int) := by omega
          have j2 : (k : Int) < (d : Int) + 1 := by omega
          have j3 : (1 : Int) < (M : Int) := by omega
          have j4 : 0 ≤ Y + X := by omega
          have j5 : IntKind.i64.wrap (Y + X) = Y + X := by rw [IntKind.wrap_i64]; omega
          clear ho hs hbe p6 o1 hX hY hxy hat hM
          go_wp2
          go_still_tail 11, (by kernel_rfl)
          change wpList _ _ _ _ _ wr.drew
          go_wp2
          go_roundw
          case rel => exact ⟨k + 1, by omega, by go_num, OO.out, SS.out⟩
          case measure => simp only [intOf]; omega
        · obtain rfl : d = k := by omega
          rw [et2_end] at ho
          have O1 := Lib.hid ho
          have S1 := Lib.hid hs
          have O2' := Lib.hid (O2.out.far hs (.inr (Nat.le_refl _)))
          have hsc := hs.size
          have j1 : ¬ (d : Int) < (d : Int) := by omega
          have t1 : (1 : Int).tmod m = 1 := by rw [Int.tmod_eq_emod_of_nonneg (by omega)]; exact Int.emod_eq_of_lt (by omega) (by omega)
          have t2 : (1 : Int) % m = 1 := Int.emod_eq_of_lt (by omega) (by omega)
          have T2 := Lib.hid t2
          clear ho hs hbe O2 t2
          go_wp2
          go_loopw [15, 16] (fun p q wr' => ∃ n : Nat, 4 * n ≤ d + 4 ∧ p = .int .i64 (e ^ n % m) ∧ q = .int .i64 n ∧ OwnR wr' wb.heap.size wc.heap.size (.slice (some ⟨g2, 0, none⟩) (d + 1) cv2) (Pl.tab m d (et3 e n)) ∧ Span wb.heap.size wc.heap.size wr wr') (fun _ q _ => d + 1 - (intOf q).toNat)
          case atStart => exact ⟨0, by omega, by first | (rw [Int.pow_zero, T2.out]; done) | (rw [Int.pow_zero]; rfl) | (rw [Int.pow_zero]; simp [T2.out]), rfl, O2'.out, Span.refl _ _ _⟩
          case round =>
            clear O2'
            obtain ⟨n, hn, rfl, rfl, ho, hs⟩ := hrel
            by_cases hlt : 4 * n ≤ d
            · obtain ⟨b, c', p1, p2, p3, p4, p5, p6⟩ := ho.poke2 (2 * n) (2 * n) (d - 2 * n + 1) (by omega) rfl
              have hP0 := Int.emod_nonneg (e ^ n) hm0
              have hP1 := Int.emod_lt_of_pos (e ^ n) (show 0 < m by omega)
              obtain ⟨P, hP⟩ : ∃ P, e ^ n % m = P := ⟨_, rfl⟩
              rw [hP] at hP0 hP1 ⊢
              have o1 := p6 (et3 e (n + 1)) P (by rw [et3_at]; exact hP) (fun p q _ hne => by rw [et3_ne _ _ _ _ hne])
              have OO := Lib.hid o1
              have SS := Lib.hid (hs.trans (Span.setCell _ _ _ _ (2 * n) (.int .i64 P) p4 p5))
              have HPE := Lib.hid (show P * e % m = e ^ (n + 1) % m by rw [Int.pow_succ, ← hP]; exact Ser.mul_cong (Int.emod_emod _ _) rfl)
              obtain ⟨y1, y2⟩ := Pl.prod_bd hP0 (show P ≤ 10000 by omega) e0 (show e ≤ 10000 by omega)
              obtain ⟨t, ht⟩ : ∃ t, 2 * n = t := ⟨_, rfl⟩
              obtain ⟨M, hM⟩ : ∃ M, d - t + 1 = M := ⟨_, rfl⟩
              rw [ht, hM] at p1
              rw [ht] at p2 p3 OO SS
              have i1 : IntKind.i64.wrap (4 * (n : Int)) = 4 * (n : Int) := by rw [IntKind.wrap_i64]; omega
              have i2 : IntKind.i64.wrap (2 * (n : Int)) = (t : Int) := by rw [IntKind.wrap_i64]; omega
              have i3 : IntKind.i64.wrap (P * e) = P * e := by rw [IntKind.wrap_i64]; omega
              have i4 : 4 * (n : Int) ≤ (d : Int) := by omega
              have i5 : (0 : Int) ≤ (t : Int) := by omega
              have i6 : (t : Int) < (d : Int) + 1 := by omega
              have i7 : (t : Int) < (M : Int) := by omega
              have i8 : 2 * (n : Int) = (t : Int) := by omega
              clear ho hs p6 o1 hP hM
              go_wp2
              go_roundw
              case rel => exact ⟨n + 1, by omega, by rw [← HPE.out], by first | rfl | go_num, OO.out, SS.out⟩
              case measure => simp only [intOf]; omega
            · rw [et3_end m e (by omega)] at ho
              have hbe := hs.below (by omega)
              have r1 := (O1.out.far hs (.inl (Nat.le_refl _))).rp
              have r2 := ho.rp
              have HTT := Lib.hid (l03Times_any m d _ cv1 _ _ cv2 _ wr (Pl.Ok.of_tab m1 m2 d1 d2 (Pl.euT (Ser.co R))) (Pl.Ok.of_tab m1 m2 d1 d2 (Pl.euG e)) r1 r2)
              rw [Pl.tab_length, Pl.tab_length] at HTT
              have HB9 := Lib.hid ((HBW.out.trans ((S1.out.below (by omega)).mono (by omega))).trans (hbe.mono (by omega)))
              have j9 : ¬ 4 * (n : Int) ≤ (d : Int) := by omega
              have i1 : IntKind.i64.wrap (4 * (n : Int)) = 4 * (n : Int) := by rw [IntKind.wrap_i64]; omega
              have hz9 := HB9.out.size
              have HE9 := Lib.hid (Pl.tab_congr (Pl.Eq.mul2 (Pl.pc_tab_eq m d (Pl.euT (Ser.co R))) (Pl.pc_tab_eq m d (Pl.euG e))))
              rw [HE9.out] at HTT
              clear ho hs hbe r1 r2
              go_wp2_with fail
              refine (HTT.out).mono ?_
              rintro x w9 ⟨v9, rfl, ho9, hb9⟩
              have F1 := Lib.hid (ho9.low (lo' := w.heap.size) (by omega))
              have F2 := Lib.hid (HB9.out.trans (hb9.mono (by omega)))
              clear ho9 hb9
              go_wp2
              go_ret
              exact ⟨_, rfl, F1.out, F2.out⟩
set_option maxHeartbeats 4000000 in
set_option maxRecDepth 100000 in
theorem sEulerLaw_any (m d a e : Int) (w : World) :
    Calls Try.prog 16 #[.int .i64 m, .int .i64 d, .int .i64 a, .int .i64 e] w fun x w' => ∃ s, x = .returned (.tuple #[.agg #[.int .i64 (eulP m d a e).1, s], .int .i64 (eulP m d a e).2.2]) ∧ OwnR w' w.heap.size w'.heap.size s (eulP m d a e).2.1 ∧ Below w.heap.size w w' := by
  obtain ⟨W, hW, v3, hwb⟩ := var0 w
  have V3 := Lib.hid v3
  have HB := Lib.hid hwb
  have HW := Lib.hid hW
  have HWS : Hid (W.heap.size = w.heap.size + 1) := Lib.hid (by rw [← hW]; simp)
  have HRL : Hid (RI (W.alloc (.cells #[.int .i64 a, .int .i64 e] 2)) (some ⟨w.heap.size + 1, 0, none⟩) [a, e]) := Lib.hid (by rw [← HWS.out]; exact ri_two W a e _)
  have HC : Hid (∀ (A : Option Addr) (c0 : Nat) (W0 : World), RI W0 A [a, e] → Calls Try.prog 18 #[.int .i64 m, .int .i64 d, .slice A 2 c0] W0 fun e' w' => e' = .returned (.bool (kindB m d [a, e])) ∧ W0 = w') := Lib.hid (fun A c0 W0 h => l08Kind_any m d A c0 [a, e] W0 (by simp) h)
  clear v3 hwb hW
  by_cases hk : kindB m d [a, e] = true
  · obtain ⟨h1, h2, -⟩ := kind_iff hk
    obtain ⟨⟨k1, k2⟩, k3, k4⟩ := kind_two hk
    obtain ⟨m1, m2⟩ := (isM_iff m).1 h1
    obtain ⟨d1, d2⟩ := (inB_iff _ _ _).1 h2
    obtain ⟨n, he⟩ : ∃ n : Nat, (n : Int) = d := ⟨d.toNat, by omega⟩
    rw [hk] at HC
    by_cases hev : m % 2 = 0
    · have HA : Hid (eulP m d a e = (0, [], 5)) := Lib.hid (by unfold eulP; rw [if_pos hk, if_pos hev])
      rw [HA.out]
      have t1 : m.tmod 2 = 0 := Int.tmod_eq_zero_of_dvd (Int.dvd_of_emod_eq_zero hev)
      subst he
      clear hk h1 h2 HA
      go_enter Try.func16, Try.ntmps16
      go_wp2_with fail
      rw [HW.out]
      refine (HC.out _ _ _ HRL.out).mono ?_
      rintro x w0 ⟨rfl, hw0⟩
      have hb0 : Below W.heap.size W w0 := by rw [← hw0]; exact below_one _ _
      have hv := V3.out.keep (hb0)
      obtain ⟨q0, q1, q2, q3⟩ := hv.tells2
      obtain ⟨f0, f1, f2, f3⟩ := fin_plane (w := w) hv (OwnR.nil _ w.heap.size 0) (.inr (Nat.zero_le _)) (by omega) (Nat.zero_le _) (below_step HB.out (hb0)) (.int .i64 0) (.slice none 0 0)
      have F2 := Lib.hid f2
      have F3 := Lib.hid f3
      clear f2 f3 hv
      go_wp2
      exact bodyPost_ret (v := .tuple #[.agg #[.int .i64 0, .slice none 0 0], .int .i64 (5)]) (by simp [results, Try.results16, go_sem, f0, f1]) rfl ⟨_, rfl, F2.out, F3.out⟩
    · have HA : Hid (eulP m d a e = (m, eulT m a e n, 0)) := Lib.hid (by unfold eulP; rw [if_pos hk, if_neg hev, ← he, show (n : Int).toNat = n by omega])
      rw [HA.out]
      have t1 : ¬ m.tmod 2 = 0 := fun h => hev (Int.emod_eq_zero_of_dvd (Int.dvd_of_tmod_eq_zero h))
      obtain ⟨n1, n2⟩ := ne_facts t1
      have HT := Lib.hid (fun W0 => l08Euler_any m n a e W0 m1 m2 (by omega) (by omega) hev k1 k2 k3 k4)
      have hTl : (eulT m a e n).length = n + 1 := Pl.tab_length _ _ _
      obtain ⟨T, hT⟩ : ∃ T, eulT m a e n = T := ⟨_, rfl⟩
      rw [hT] at HT hTl ⊢
      subst he
      obtain ⟨n3, n4⟩ := ne_facts hev
      clear hk h1 h2 hT HA
      go_enter Try.func16, Try.ntmps16
      go_wp2_with fail
      rw [HW.out]
      refine (HC.out _ _ _ HRL.out).mono ?_
      rintro x w0 ⟨rfl, hw0⟩
      have hb0 : Below W.heap.size W w0 := by rw [← hw0]; exact below_one _ _
      clear hw0
      go_wp2_with fail
      refine (HT.out _).mono ?_
      rintro x w2 ⟨v, rfl, ho, hb2⟩
      obtain ⟨A2, c2, rfl, -⟩ := ho.len
      rw [hTl] at ho ⊢
      go_wp2_with fail
      refine (l03Make_any _ _ _ _ _).mono ?_
      rintro x w5 ⟨rfl, hb5⟩
      have hb := below_step (below_step hb0 hb2) hb5
      have hv := V3.out.keep hb
      obtain ⟨q0, q1, q2, q3⟩ := hv.tells2
      have hz := hb0.size
      have hz2 := V3.out.lt
      obtain ⟨f0, f1, f2, f3⟩ := fin_plane (w := w) hv (ho.keep hb5) (.inl (by omega)) (Nat.le_refl _) hb5.size (below_step HB.out hb) (.int .i64 m) (.slice A2 (n + 1) c2)
      have F2 := Lib.hid (f2.low (lo' := w.heap.size) (by omega))
      have F3 := Lib.hid f3
      clear f2 f3 hv hb hb0 hb2 hb5 ho
      go_wp2
      exact bodyPost_ret (v := .tuple #[.agg #[.int .i64 m, .slice A2 (n + 1) c2], .int .i64 0]) (by simp [results, Try.results16, go_sem, f0, f1]) rfl ⟨_, rfl, F2.out, F3.out⟩
  · have hk' : kindB m d [a, e] = false := Bool.eq_false_iff.2 hk
    have HA : Hid (eulP m d a e = (0, [], 2)) := Lib.hid (by unfold eulP; rw [if_neg hk])
    rw [HA.out]
    rw [hk'] at HC
    clear hk hk' HA
    go_enter Try.func16, Try.ntmps16
    go_wp2_with fail
    rw [HW.out]
    refine (HC.out _ _ _ HRL.out).mono ?_
    rintro x w0 ⟨rfl, hw0⟩
    have hb0 : Below W.heap.size W w0 := by rw [← hw0]; exact below_one _ _
    have hv := V3.out.keep (hb0)
    obtain ⟨q0, q1, q2, q3⟩ := hv.tells2
    obtain ⟨f0, f1, f2, f3⟩ := fin_plane (w := w) hv (OwnR.nil _ w.heap.size 0) (.inr (Nat.zero_le _)) (by omega) (Nat.zero_le _) (below_step HB.out (hb0)) (.int .i64 0) (.slice none 0 0)
    have F2 := Lib.hid f2
    have F3 := Lib.hid f3
    clear f2 f3 hv
    go_wp2
    exact bodyPost_ret (v := .tuple #[.agg #[.int .i64 0, .slice none 0 0], .int .i64 (2)]) (by simp [results, Try.results16, go_sem, f0, f1]) rfl ⟨_, rfl, F2.out, F3.out⟩
end Go.Proofs.Ytilfjhnkjdfcoaa

