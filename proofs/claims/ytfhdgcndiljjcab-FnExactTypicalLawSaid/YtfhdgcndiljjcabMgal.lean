/- Texts of contracts, joined. -/
import Derived.Test.YtfhdgcndiljjcabMgaj
import Derived.Test.YtfhdgcndiljjcabMgad
import Derived.Test.YtfhdgcndiljjcabMgai
import Derived.Test.YtfhdgcndiljjcabMgac
import Derived.Test.YtfhdgcndiljjcabMgaa
import Derived.Test.YtfhdgcndiljjcabMgak
/- Contract of the model's table for f(a(x), b(y)). -/
namespace Go.Proofs.Ytfhdgcndiljjcab
open Go.RowKit Go.WideShapes Go.ChangeShapes Go.ChangeAt

theorem botK_null (m : Int) (d : Nat) (F : Nat → Nat → Int) (a b : List Int) (i J k l : Nat) (h : F i J = 0) : Pl.tab m d (Pl.botK d F (Ser.co a) (Ser.co b) i J k l) = Pl.tab m d (Pl.botS d F (Ser.co a) (Ser.co b) i (J + 1)) :=
  Pl.tab_congr (Pl.Eq.of m d (fun p q hpq => by
    unfold Pl.botK Pl.botS
    rw [Pl.acc_succ]
    have e : Pl.botG F (Ser.co a) (Ser.co b) p q i J = 0 := by unfold Pl.botG; rw [h, Int.zero_mul]
    rw [e]
    split <;> rfl))
end Go.Proofs.Ytfhdgcndiljjcab

/- Contracts of a series put upon a plane: Horner's tables, the model's loop. -/
namespace Go.Proofs.Ytfhdgcndiljjcab
open Go.RowKit Go.WideShapes Go.ChangeShapes Go.ChangeAt

namespace Pl
/-- Horner's table when the last k coefficients have been taken in -/
def hor (m : Int) (d : Nat) (l : List Int) (F : Nat → Nat → Int) : Nat → List (List Int)
  | 0 => tab m d fun _ _ => 0
  | k + 1 => tab m d fun p q => mul2 (pc (hor m d l F k)) F p q + (if p = 0 ∧ q = 0 then Ser.co l (d - k) else 0)
theorem hor_length (m : Int) (d : Nat) (l : List Int) (F : Nat → Nat → Int) (k : Nat) : (hor m d l F k).length = d + 1 := by
  cases k <;> (unfold hor; exact tab_length _ _ _)
theorem hor_ok {m : Int} {d : Nat} (m1 : 2 ≤ m) (m2 : m ≤ 10000) (d1 : 1 ≤ d) (d2 : d ≤ 10) (l : List Int) (F : Nat → Nat → Int) (k : Nat) : Ok m d (hor m d l F k) := by
  cases k <;> (unfold hor; exact Ok.of_tab m1 m2 d1 d2 _)
theorem mul2_left0 (a b : Nat → Nat → Int) (ha : ∀ i j, a i j = 0) (p q : Nat) : mul2 a b p q = 0 := by
  unfold mul2
  have h1 : ∀ n, Ser.psum (fun _ => (0 : Int)) n = 0 := fun n => by induction n with
    | zero => rfl
    | succ n ih => rw [Ser.psum, ih]; rfl
  rw [Ser.psum_ext (g := fun _ => 0) _ (fun k _ => ?_), h1]
  rw [Ser.psum_ext (g := fun _ => 0) _ (fun l _ => by rw [ha, Int.zero_mul]), h1]
theorem pc_zero (m : Int) (d : Nat) (i j : Nat) : pc (tab m d fun _ _ => 0) i j = 0 := by
  by_cases h : i + j ≤ d
  · rw [pc_tab h, Int.zero_emod]
  · rw [pc_over (by omega)]
/-- the model's step -/
theorem hor_step {m : Int} {d : Nat} (l : List Int) (F : Nat → Nat → Int) (k : Nat) :
    (tab m d (mul2 (pc (hor m d l F k)) F)).set 0 ((rw' (tab m d (mul2 (pc (hor m d l F k)) F)) 0).set 0 ((pc (tab m d (mul2 (pc (hor m d l F k)) F)) 0 0 + Ser.co l (d - k)) % m)) = hor m d l F (k + 1) := by
  rw [pc_tab (Nat.zero_le _)]
  refine tab_put (Nat.zero_le _) ?_ (fun p q _ hne => ?_)
  · rw [if_pos ⟨rfl, rfl⟩, Int.emod_add_emod]
  · rw [if_neg hne, Int.add_zero]
/-- the program's step, for a plane with the constant 0 -/
theorem hor_stepP {m : Int} {d : Nat} {l : List Int} {F : Nat → Nat → Int} (k : Nat) (hF : F 0 0 = 0) (h1 : 0 ≤ Ser.co l (d - k)) (h2 : Ser.co l (d - k) < m) :
    (tab m d (mul2 (pc (hor m d l F k)) F)).set 0 ((rw' (tab m d (mul2 (pc (hor m d l F k)) F)) 0).set 0 (Ser.co l (d - k))) = hor m d l F (k + 1) := by
  refine tab_put (Nat.zero_le _) ?_ (fun p q _ hne => ?_)
  · rw [if_pos ⟨rfl, rfl⟩]
    have : mul2 (pc (hor m d l F k)) F 0 0 = 0 := by
      unfold mul2
      simp [Ser.psum, hF]
    rw [this, Int.zero_add, Int.emod_eq_of_lt h1 h2]
  · rw [if_neg hne, Int.add_zero]
/-- where the program begins -/
theorem hor_one {m : Int} {d : Nat} {l : List Int} (F : Nat → Nat → Int) (h1 : 0 ≤ Ser.co l d) (h2 : Ser.co l d < m) : tab m d (gosF (Ser.cut m d (Ser.mon 0 (Ser.co l d))) 0) = hor m d l F 1 := by
  show _ = tab m d _
  refine tab_congr (Eq.of m d (fun p q hpq => ?_))
  rw [mul2_left0 (pc (hor m d l F 0)) F (pc_zero m d), Int.zero_add]
  unfold gosF
  rw [if_pos rfl, Nat.sub_zero]
  by_cases hq : q = 0
  · rw [if_pos hq, Ser.co_cut (by omega)]
    unfold Ser.mon
    by_cases hp : p = 0
    · rw [if_pos hp, if_pos ⟨hp, hq⟩, Int.emod_eq_of_lt h1 h2]
    · rw [if_neg hp, if_neg (fun h => hp h.1), Int.zero_emod]
  · rw [if_neg hq, if_neg (fun h => hq h.2)]
end Pl

end Go.Proofs.Ytfhdgcndiljjcab

/- Contract of a series put upon a grid, of the program. -/
namespace Go.Proofs.Ytfhdgcndiljjcab
open Go.RowKit Go.WideShapes Go.ChangeShapes Go.ChangeAt

/-- a grid has been stored into a new variable -/
theorem reg_newG {wk cur wd : World} {A : Option Addr} {n c : Nat} {T : List (List Int)} (hk : wk.heap.size ≤ cur.heap.size) (ho : OwnR wd cur.heap.size wd.heap.size (.slice A n c) T) (hb : Below wk.heap.size wk wd) (m d : Int) (t : TypeId) :
    VarC t (wd.alloc (.cells #[.int .i64 m, .int .i64 d, .slice A n c] t)) wd.heap.size #[.int .i64 m, .int .i64 d, .slice A n c] ∧ OwnR (wd.alloc (.cells #[.int .i64 m, .int .i64 d, .slice A n c] t)) cur.heap.size wd.heap.size (.slice A n c) T ∧
    (wd.heap.size < cur.heap.size ∨ wd.heap.size ≤ wd.heap.size) ∧ wk.heap.size ≤ cur.heap.size ∧ wd.heap.size ≤ (wd.alloc (.cells #[.int .i64 m, .int .i64 d, .slice A n c] t)).heap.size ∧ Below wk.heap.size wk (wd.alloc (.cells #[.int .i64 m, .int .i64 d, .slice A n c] t)) ∧ wk.heap.size ≤ wd.heap.size :=
  ⟨VarC.new _ _ _, ho.keep (below_one _ _), .inr (Nat.le_refl _), hk, (below_one wd _).size, below_alloc _ hb, hb.size⟩
/-- a grid has been stored into a variable that lay there before the call -/
theorem reg_finG {t : TypeId} {wk cur wd : World} {g : Nat} {A : Option Addr} {n c : Nat} {T : List (List Int)} {x y z : Value} (hk : wk.heap.size ≤ g) (hgc : g < cur.heap.size) (hle : wk.heap.size ≤ cur.heap.size) (hv : VarC t wd g #[x, y, z]) (ho : OwnR wd cur.heap.size wd.heap.size (.slice A n c) T) (hb : Below wk.heap.size wk wd) (m d : Int) :
    VarC t (((wd.setCell ⟨g, 0, none⟩ (.int .i64 m)).setCell ⟨g, 1, none⟩ (.int .i64 d)).setCell ⟨g, 2, none⟩ (.slice A n c)) g #[.int .i64 m, .int .i64 d, .slice A n c] ∧
    OwnR (((wd.setCell ⟨g, 0, none⟩ (.int .i64 m)).setCell ⟨g, 1, none⟩ (.int .i64 d)).setCell ⟨g, 2, none⟩ (.slice A n c)) cur.heap.size wd.heap.size (.slice A n c) T ∧
    (g < cur.heap.size ∨ wd.heap.size ≤ g) ∧ wk.heap.size ≤ cur.heap.size ∧ wd.heap.size ≤ (((wd.setCell ⟨g, 0, none⟩ (.int .i64 m)).setCell ⟨g, 1, none⟩ (.int .i64 d)).setCell ⟨g, 2, none⟩ (.slice A n c)).heap.size ∧
    Below wk.heap.size wk (((wd.setCell ⟨g, 0, none⟩ (.int .i64 m)).setCell ⟨g, 1, none⟩ (.int .i64 d)).setCell ⟨g, 2, none⟩ (.slice A n c)) ∧ wk.heap.size ≤ g :=
  ⟨hv.set3 _ _ _, ho.far (Span.of_grown (lo := g) (hi := g + 1) (grown_set3 wd g _ _ _) (fun b hb => by injection hb with hb; omega)) (.inr (by omega)), .inl hgc, hle, (grown_set3 wd g _ _ _).size, below_set3 hb hk _ _ _, hk⟩
/-- a series' box, a grid's box, the result's variable -/
theorem gproA (w : World) (m : Int) (A : Option Addr) (n c : Nat) (m' : Int) (d' : Nat) (A' : Option Addr) (n' c' : Nat) : ∃ W, ((w.alloc (.cells #[.int .i64 m, .slice A n c] 62)).alloc (.cells #[.int .i64 m', .int .i64 d', .slice A' n' c'] 43)).alloc (.cells #[.int .i64 0, .int .i64 0, .slice none 0 0] 43) = W ∧
    Box W w.heap.size m A n c ∧ GBox W (w.heap.size + 1) m' d' A' n' c' ∧ VarC 43 W (w.heap.size + 1 + 1) #[.int .i64 0, .int .i64 0, .slice none 0 0] ∧ Below w.heap.size w W := by
  refine ⟨_, rfl, ((Box.newT _ _ _ _ _ _).keep (below_one _ _)).keep (below_one _ _), ?_, ?_, below_alloc _ (below_alloc _ (below_one _ _))⟩
  · have := (GBox.new 43 (w.alloc (.cells #[.int .i64 m, .slice A n c] 62)) m' d' A' n' c').keep (below_one _ (.cells #[.int .i64 0, .int .i64 0, .slice none 0 0] 43))
    simpa using this
  · have := VarC.new 43 ((w.alloc (.cells #[.int .i64 m, .slice A n c] 62)).alloc (.cells #[.int .i64 m', .int .i64 d', .slice A' n' c'] 43)) #[.int .i64 0, .int .i64 0, .slice none 0 0]
    simpa using this
theorem bcb2 {W w' : World} {g b o : Nat} {m x : Int} {A : Option Addr} {n c : Nat} (h : Box W g m A n c) (hc : W.cell? ⟨b, o, none⟩ = some (.int .i64 x)) (hlt : b < W.heap.size) (hb : Below W.heap.size W w') :
    (w'.cell? ⟨g, 0, none⟩ = some (.int .i64 m) ∧ w'.cell? ⟨g, 1, none⟩ = some (.slice A n c)) ∧ (w'.cell? ⟨b, o, none⟩ = some (.int .i64 x)) ∧ Below W.heap.size W w' := ⟨box_in h hb, (hb.cell (p := ⟨b, o, none⟩) hlt).trans hc, hb⟩

set_option maxHeartbeats 16000000 in
set_option maxRecDepth 100000 in
theorem appliedTo_any (m : Int) (d : Nat) (A : Option Addr) (c : Nat) (l : List Int) (A' : Option Addr) (c' : Nat) (t : List (List Int)) (w : World) (hs : SerOk m d l) (hs' : Pl.Ok m d t) (h00 : Pl.pc t 0 0 = 0) (hr : RI w A l) (hr' : RP w A' t) :
    Calls Try.prog 64 #[.agg #[.int .i64 m, .slice A l.length c], .agg #[.int .i64 m, .int .i64 d, .slice A' t.length c']] w fun e w' => ∃ v, e = .returned (.agg #[.int .i64 m, .int .i64 d, v]) ∧ OwnR w' w.heap.size w'.heap.size v (Pl.hor m d l (Pl.pc t) (d + 1)) ∧ Below w.heap.size w w' := by
  obtain ⟨W, hW, b1, b2, v3, hwb⟩ := gproA w m A l.length c m d A' t.length c'
  have B1 := Lib.hid b1
  have B2 := Lib.hid b2
  have V3 := Lib.hid v3
  have HB := Lib.hid hwb
  have HW := Lib.hid hW
  have HR := Lib.hid hr
  have HR' := Lib.hid hr'
  have HSZ : w.heap.size + 1 + 1 < W.heap.size := v3.lt
  have m1 := hs.m1
  have m2 := hs.m2
  have hd := hs.d2
  have hd1 := hs.d1
  have HS := Lib.hid hs
  have HS' := Lib.hid hs'
  have H00 := Lib.hid h00
  obtain ⟨b, off, rfl, hbb, hcd⟩ := hr.at d (by rw [hs.len]; omega)
  have hcd1 := (hwb.cell (p := ⟨b, off + d, none⟩) hbb).trans hcd
  obtain ⟨r1, r2⟩ := hs.red d
  have h1 := Pl.hor_one (Pl.pc t) r1 r2
  obtain ⟨X, hX⟩ : ∃ X, Ser.co l d = X := ⟨_, rfl⟩
  rw [hX] at hcd1 r1 r2 h1
  have HDG := Lib.hid (fun W0 => degree_nat m (some ⟨b, off, none⟩) l.length c d W0 hs.len (by omega))
  have HMO := Lib.hid (fun W0 => monomial_any m d 0 X W0 (by omega) m2 (by omega) (by omega) (by omega))
  have HGS := Lib.hid (fun (W0 : World) (A0 : Option Addr) (c0 : Nat) (h : RI W0 A0 (Ser.cut m d (Ser.mon 0 X))) => gridOfSeries_any m d A0 c0 _ 0 W0 ⟨m1, m2, by omega, by omega, Ser.cut_length _ _ _, Ser.cut_red (by omega) _ _⟩ h)
  have HT := Lib.hid (fun (k : Nat) (A1 : Option Addr) (c1 : Nat) (W0 : World) (h : RP W0 A1 (Pl.hor m d l (Pl.pc t) k)) (h' : RP W0 A' t) => by
    have := gtimes_any m d A1 c1 (Pl.hor m d l (Pl.pc t) k) A' c' t W0 (Pl.hor_ok m1 m2 hd1 hd l _ k) hs' h h'
    rw [Pl.hor_length] at this
    exact this)
  obtain ⟨L0, hL0⟩ : ∃ L0, Ser.cut m d (Ser.mon 0 X) = L0 := ⟨_, rfl⟩
  rw [hL0] at HMO HGS h1
  obtain ⟨T0, hT0⟩ : ∃ T0, Pl.tab m d (gosF L0 0) = T0 := ⟨_, rfl⟩
  rw [hT0] at HGS h1
  have HT0 := Lib.hid h1
  have z1 : (0 : Int) ≤ (d : Int) := by omega
  have z2 : (d : Int) < (l.length : Int) := by have := hs.len; omega
  have hWb : b < W.heap.size := Nat.lt_of_lt_of_le hbb hwb.size
  obtain ⟨L', hL'⟩ : ∃ L, t.length = L := ⟨_, rfl⟩
  rw [hL'] at HT B2 HW ⊢
  clear b1 b2 v3 hwb hW hr hr' hs hs' hcd hX hL0 hT0 h1 h00 hL'
  go_enter Try.func64, Try.ntmps64
  go_wp2_with fail
  rw [HW.out]
  refine (HDG.out _).mono ?_
  rintro e W1 ⟨rfl, hb1⟩
  have Y1 := Lib.hid (B1.out.keep hb1)
  have Y2 := Lib.hid (B2.out.keep hb1)
  have V1 := Lib.hid (V3.out.keep hb1)
  have HB1 := Lib.hid (below_step HB.out hb1)
  have HSZ1 : w.heap.size + 1 + 1 < W1.heap.size := (V3.out.keep hb1).lt
  have hcd2 := (hb1.cell (p := ⟨b, off + d, none⟩) hWb).trans hcd1
  have hW1b : b < W1.heap.size := Nat.lt_of_lt_of_le hWb hb1.size
  clear hb1 hcd1 HDG B1 B2 V3 HB
  obtain ⟨x1, x2, x3⟩ := Y1.out
  go_wp2
  go_cut [6] (fun s6 wx => ∃ g A1 c1 lo hi, s6 = .pointer (some ⟨g, 0, none⟩) ∧ VarC 43 wx g #[.int .i64 m, .int .i64 d, .slice A1 T0.length c1] ∧ OwnR wx lo hi (.slice A1 T0.length c1) T0 ∧ (g < lo ∨ hi ≤ g) ∧ W1.heap.size ≤ lo ∧ hi ≤ wx.heap.size ∧ Below W1.heap.size W1 wx ∧ W1.heap.size ≤ g)
  case first =>
    go_region_held3 (fun w' => (w'.cell? ⟨w.heap.size, 0, none⟩ = some (.int .i64 m) ∧ w'.cell? ⟨w.heap.size, 1, none⟩ = some (.slice (some ⟨b, off, none⟩) l.length c)) ∧ (w'.cell? ⟨b, off + d, none⟩ = some (.int .i64 X)) ∧ Below W1.heap.size W1 w') (first | exact bcb2 Y1.out hcd2 hW1b (below_drew0 _) | exact bcb2 Y1.out hcd2 hW1b hbel | exact bcb2 Y1.out hcd2 hW1b hka | exact bcb2 Y1.out hcd2 hW1b (below_alloc _ (trd (by assumption))) | exact bcb2 Y1.out hcd2 hW1b (below_alloc _ hbel) | exact bcb2 Y1.out hcd2 hW1b (below_alloc _ hka) | exact bcb2 Y1.out hcd2 hW1b (reg_finG hwg hgc hle hv hog hbel m d).2.2.2.2.2.1 | exact (by assumption)) (first
      | (go_at_call 55; refine (HMO.out _).mono ?_; rintro e wa ⟨sd, rfl, hod, hba⟩; obtain ⟨Ad, cd, rfl, hri⟩ := hod.form; obtain ⟨hka, hka2⟩ := reg_end (by assumption) hba)
      | (go_at_call 61; refine (HGS.out _ _ _ (by first | exact hri | exact hri.below (below_one _ _))).mono ?_; rintro e wd ⟨sg, rfl, hog, hbd⟩; obtain ⟨Ag, cg, rfl, -⟩ := hog.len; obtain ⟨hbel, hle⟩ := reg_end (by assumption) hbd; first | (refine use_it (varC_keep ((VarC.new 43 W1 _).drew.keep hba) hbd) ?_; rintro ⟨hv, hgc⟩; have hwg := varC_at (k := W1.heap.size) hv (Nat.le_refl _); obtain ⟨q0, q1, q2, q3, q4, q5⟩ := hv.tells3) | (refine use_it (varC_keep (VarC.new 43 _ _) hbd) ?_; rintro ⟨hv, hgc⟩; have hwg := varC_at (k := W1.heap.size) hv hka.size; obtain ⟨q0, q1, q2, q3, q4, q5⟩ := hv.tells3) | skip))
    all_goals
      go_wp2_with fail
      go_meet
      case rel => first | exact ⟨_, _, _, _, _, rfl, reg_newG hle hog hbel m d _⟩ | exact ⟨_, _, _, _, _, rfl, reg_finG hwg hgc hle hv hog hbel m d⟩
  case rest =>
    obtain ⟨w2, hwc⟩ : ∃ w9, w9 = wc := ⟨_, rfl⟩
    subst hwc
    obtain ⟨g7, A7, c7, lo7, hi7, rfl, v7, o7, hg7, hl7, hh7, hb7, hgw⟩ := hcut
    have hT0l : T0.length = d + 1 := by rw [HT0.out, Pl.hor_length]
    rw [hT0l] at v7 o7
    rw [HT0.out] at o7
    have O7 := Lib.hid o7
    have V7 := Lib.hid v7
    have B7 := Lib.hid hb7
    have G7 : Hid (g7 < lo7 ∨ hi7 ≤ g7) := Lib.hid hg7
    clear v7 o7 hb7 hg7 HMO HGS x1 x2 x3 hcd2 HT0 hT0l
    go_wp2
    go_loopw [7] (fun s7 wr => ∃ (j t0 : Nat) (I : Int) (A1 : Option Addr) (c1 lo hi : Nat), j + t0 = d ∧ I = (t0 : Int) - 1 ∧ s7 = .int .i64 I ∧ VarC 43 wr g7 #[.int .i64 m, .int .i64 d, .slice A1 (d + 1) c1] ∧ OwnR wr lo hi (.slice A1 (d + 1) c1) (Pl.hor m d l (Pl.pc t) (j + 1)) ∧ (g7 < lo ∨ hi ≤ g7) ∧ W1.heap.size ≤ lo ∧ hi ≤ wr.heap.size ∧ Below W1.heap.size W1 wr) (fun s7 _ => (intOf s7 + 1).toNat)
    case atStart => exact ⟨0, d, _, A7, c7, lo7, hi7, by omega, rfl, rfl, V7.out, O7.out, G7.out, hl7, hh7, B7.out⟩
    case round =>
      clear V7 O7 G7 B7 hl7 hh7
      obtain ⟨j, t0, I, A1, c1, lo, hi, hjt, hI, rfl, v1, o1, hg1, hl1, hh1, hb1⟩ := hrel
      have VV := Lib.hid v1
      have OO := Lib.hid o1
      have BB := Lib.hid hb1
      have VR := Lib.hid (V1.out.keep hb1)
      clear v1 o1 hb1
      rcases t0 with _ | i
      · obtain rfl : j = d := by omega
        obtain rfl : I = -1 := by omega
        clear hI hjt hg1
        obtain ⟨z3, z4, z5, -⟩ := VV.out.tells3
        obtain ⟨q0, q1, q2, q3, q4, q5⟩ := VR.out.tells3
        obtain ⟨f0, f1, f2, f3, f4⟩ := fin_grid (w := w) VR.out OO.out (.inl (by omega)) (by omega) hh1 (below_step HB1.out BB.out) (.int .i64 m) (.int .i64 j) (.slice A1 (j + 1) c1)
        have F3 := Lib.hid (f3.low (show w.heap.size ≤ lo by omega))
        have F4 := Lib.hid f4
        unfold set3 at f0 f1 f2
        clear f3 f4
        go_wp2
        exact bodyPost_ret (v := .agg #[.int .i64 m, .int .i64 j, .slice A1 (j + 1) c1]) (by simp [results, Try.results64, go_sem, f0, f1, f2]) rfl ⟨_, rfl, F3.out, F4.out⟩
      · obtain rfl : I = (i : Int) := by omega
        have hik : d - (j + 1) = i := by omega
        have hid : i ≤ d := by omega
        have HTK := Lib.hid (HT.out (j + 1) A1 c1 wr OO.out.rp (HR'.out.below (below_step HB1.out BB.out)))
        have hst := Pl.hor_stepP (m := m) (d := d) (l := l) (F := Pl.pc t) (j + 1) H00.out (by rw [hik]; exact (HS.out.red i).1) (by rw [hik]; exact (HS.out.red i).2)
        rw [hik] at hst
        obtain ⟨F, hF⟩ : ∃ F, Pl.mul2 (Pl.pc (Pl.hor m d l (Pl.pc t) (j + 1))) (Pl.pc t) = F := ⟨_, rfl⟩
        rw [hF] at HTK hst
        have HST := Lib.hid hst
        have HJT := Lib.hid hjt
        obtain ⟨z3, z4, z5, -⟩ := VV.out.tells3
        obtain ⟨y1, y2, y3, -⟩ := Y2.out.keep BB.out
        have hgr : g7 < wr.heap.size := VV.out.lt
        clear hI hst hF hik hjt hg1 hh1
        go_wp2_with fail
        refine HTK.out.mono ?_
        rintro e w3 ⟨v3, rfl, ho3, hb3⟩
        obtain ⟨g, cv, rfl⟩ := ho3.openv (by rw [Pl.tab_length]; omega)
        rw [Pl.tab_length] at ho3 ⊢
        clear z3 z4 z5 y1 y2 y3
        have v3 := VV.out.keep hb3
        obtain ⟨q0, q1, q2, q3, q4, q5⟩ := v3.tells3
        obtain ⟨X9, hX9⟩ : ∃ X9, set3 w3 g7 (.int .i64 m) (.int .i64 d) (.slice (some ⟨g, 0, none⟩) (d + 1) cv) = X9 := ⟨_, rfl⟩
        obtain ⟨f0, f1, f2, ox, bx⟩ := fin_grid (w := W1) v3 ho3 (.inl hgr) hgw (Nat.le_refl _) (below_step BB.out hb3) (.int .i64 m) (.int .i64 d) (.slice (some ⟨g, 0, none⟩) (d + 1) cv)
        have vx := v3.set3 (.int .i64 m) (.int .i64 d) (.slice (some ⟨g, 0, none⟩) (d + 1) cv)
        rw [hX9] at f0 f1 f2 ox bx vx
        obtain ⟨b4, c4, h1, h2, h3, h4, hcel⟩ := ox.numB 0 0 (d + 1) (by rw [Pl.tab_length]; omega) (by rw [Pl.tab_row m d _ 0 (by omega), Ser.cut_length]; omega) (by omega)
        obtain ⟨k4, k5, k6, k7⟩ := hcel X9.drew (below_drew0 X9)
        obtain ⟨b', off', hbe, hbb', hci⟩ := (HR.out.below (below_step HB1.out bx)).at i (by have := HS.out.len; omega)
        injection hbe with hbe
        injection hbe with hbe1 hbe2
        subst hbe1 hbe2
        obtain ⟨Z, hZ⟩ : ∃ Z, Ser.co l i = Z := ⟨_, rfl⟩
        have hst := HST.out
        rw [hZ] at hci hst
        have h8 := k7 Z
        rw [hst] at h8
        have hwr := BB.out.size
        have ne2 : b4 ≠ g7 := by omega
        have V9 := Lib.hid (vx.far b4 0 (.int .i64 Z) ne2)
        have BX := Lib.hid (bx.drew.setCell (p := ⟨b4, 0, none⟩) (show W1.heap.size ≤ b4 by omega) (.int .i64 Z))
        have HO2 := Lib.hid (h8.more (show X9.heap.size ≤ (X9.drew.setCell ⟨b4, 0, none⟩ (.int .i64 Z)).heap.size by show X9.heap.size ≤ (X9.heap.modify _ _).size; simp))
        have HHS : Hid ((X9.drew.setCell ⟨b4, 0, none⟩ (.int .i64 Z)).heap.size ≤ (X9.drew.setCell ⟨b4, 0, none⟩ (.int .i64 Z)).heap.size) := Lib.hid (Nat.le_refl _)
        obtain ⟨x5, x6, -⟩ := Y1.out.keep bx
        have j0 : (0 : Int) ≤ (i : Int) := by omega
        have j1 : (i : Int) < (l.length : Int) := by have := HS.out.len; have := HJT.out; omega
        have j2 : (0 : Int) < (d : Int) + 1 := by omega
        unfold set3 at hX9
        have HX := Lib.hid hX9
        clear ho3 hb3 v3 vx ox bx hZ hst hcel k7 h8 h1 h2 h3 h4 ne2 hX9 hbb'
        go_upto_region 7 with fail
        rw [HX.out]
        clear HX q0 q1 q2 q3 q4 q5
        go_still_tail 10, (by kernel_rfl)
        change wpList _ _ _ _ _ X9.drew
        go_wp2
        go_roundw
        case rel => exact ⟨j + 1, i, _, _, cv, wr.heap.size, _, by have := HJT.out; omega, rfl, by first | rfl | go_num, V9.out, HO2.out, .inl hgr, hwr, HHS.out, BX.out⟩
        case measure => simp only [intOf]; omega
end Go.Proofs.Ytfhdgcndiljjcab

/- Contracts of CoefficientOf, of the program and of the model. -/
namespace Go.Proofs.Ytfhdgcndiljjcab
open Go.RowKit Go.WideShapes Go.ChangeShapes Go.ChangeAt

/-- the model of CoefficientOf -/
def coeP (m : Int) (t : List (List Int)) (i j : Int) : Int × Int :=
  if isP m t = true then (if inB i 0 ((t.length : Int) - 1) = true ∧ inB j 0 ((t.length : Int) - 1 - i) = true then (Pl.pc t i.toNat j.toNat, 0) else (0, 2)) else (0, 1)
/-- what the load of one number of a plane reads -/
theorem Box.num {W : World} {g : Nat} {m : Int} {d b off c : Nat} {t : List (List Int)} (hb : Box W g m (some ⟨b, off, none⟩) t.length c) (hs : Pl.Ok m d t) (hr : RP W (some ⟨b, off, none⟩) t) (i j : Nat) (hij : i + j ≤ d) :
    ∃ b' off' c' L N, L = d + 1 ∧ N = d - i + 1 ∧ W.cell? ⟨g, 1, none⟩ = some (.slice (some ⟨b, off, none⟩) L c) ∧ W.cell? ⟨b, off + i, none⟩ = some (.slice (some ⟨b', off', none⟩) N c') ∧ W.cell? ⟨b', off' + j, none⟩ = some (.int .i64 (Pl.pc t i j)) := by
  obtain ⟨_, x2, _⟩ := hb
  obtain ⟨b0, off0, b', off', c', e, -, k1, -, k2⟩ := hr.num i j (by rw [hs.len]; omega) (by rw [hs.row i (by omega)]; omega)
  injection e with e
  injection e with e1 e2
  subst e1 e2
  exact ⟨b', off', c', t.length, _, hs.len, hs.row i (by omega), x2, k1, k2⟩
theorem pro0P (w : World) (m : Int) (A : Option Addr) (n c : Nat) : ∃ W, (w.alloc (.cells #[.int .i64 m, .slice A n c] 25)).alloc (.cells #[.int .i64 m, .slice A n c] 25) = W ∧
    Box W w.heap.size m A n c ∧ Box W (w.heap.size + 1) m A n c ∧ Below w.heap.size w W := startB2 _ _ w m A n c m A n c
end Go.Proofs.Ytfhdgcndiljjcab

/- Contracts of ApplySeries, of the program and of the model. -/
namespace Go.Proofs.Ytfhdgcndiljjcab
open Go.RowKit Go.WideShapes Go.ChangeShapes Go.ChangeAt

/-- the model of ApplySeries -/
def appP (m : Int) (l : List Int) (m' : Int) (t : List (List Int)) : Int × List (List Int) × Int :=
  if codePS m' t m l = 0 then (if Pl.pc t 0 0 = 0 then (m', Pl.hor m' (t.length - 1) l (Pl.pc t) t.length, 0) else (0, [], 5)) else (0, [], codePS m' t m l)
theorem appP_len (m : Int) (l : List Int) (m' : Int) (t : List (List Int)) : szT (appP m l m' t).2.1 ≤ 1048576 := by
  unfold appP
  split
  · rename_i h
    obtain ⟨_, d, e, _, s, _⟩ := codePS_ok h
    split
    · exact szT_ok (Pl.hor_ok s.m1 s.m2 (by have := s.d1; omega) (by have := s.d2; omega) l _ _ : Pl.Ok m' (t.length - 1) _)
    · show szT [] ≤ 1048576
      decide
  · show szT [] ≤ 1048576
    decide
/-- a series' box, a plane's box, the result's variable, the list of the one series -/
theorem proA (w : World) (m : Int) (A : Option Addr) (n c : Nat) (m' : Int) (A' : Option Addr) (n' c' : Nat) : ∃ W, (((w.alloc (.cells #[.int .i64 m, .slice A n c] 62)).alloc (.cells #[.int .i64 m', .slice A' n' c'] 25)).alloc (.cells #[.int .i64 0, .slice none 0 0] 25)).alloc (.cells #[.int .i64 m, .slice A n c] 62) = W ∧
    Box W w.heap.size m A n c ∧ Box W (w.heap.size + 1) m' A' n' c' ∧ VarC 25 W (w.heap.size + 1 + 1) #[.int .i64 0, .slice none 0 0] ∧ Box W (w.heap.size + 1 + 1 + 1) m A n c ∧ Below w.heap.size w W := by
  refine ⟨_, rfl, (((Box.newT _ _ _ _ _ _).keep (below_one _ _)).keep (below_one _ _)).keep (below_one _ _), ?_, ?_, ?_, below_alloc _ (below_alloc _ (below_alloc _ (below_one _ _)))⟩
  · have := ((Box.newT 25 (w.alloc (.cells #[.int .i64 m, .slice A n c] 62)) m' A' n' c').keep (below_one _ (.cells #[.int .i64 0, .slice none 0 0] 25))).keep (below_one _ (.cells #[.int .i64 m, .slice A n c] 62))
    simpa using this
  · have := (VarC.new 25 ((w.alloc (.cells #[.int .i64 m, .slice A n c] 62)).alloc (.cells #[.int .i64 m', .slice A' n' c'] 25)) #[.int .i64 0, .slice none 0 0]).keep (below_one _ (.cells #[.int .i64 m, .slice A n c] 62))
    simpa using this
  · have := Box.newT 62 (((w.alloc (.cells #[.int .i64 m, .slice A n c] 62)).alloc (.cells #[.int .i64 m', .slice A' n' c'] 25)).alloc (.cells #[.int .i64 0, .slice none 0 0] 25)) m A n c
    simpa using this
theorem kp2_call {w w' : World} {a1 a2 a3 a4 : Addr} {x y z u : Value} (hb : Below w.heap.size w w') (hs : (w.cell? a1 = some x ∧ w.cell? a2 = some y) ∧ (w.cell? a3 = some z ∧ w.cell? a4 = some u)) : (w'.cell? a1 = some x ∧ w'.cell? a2 = some y) ∧ (w'.cell? a3 = some z ∧ w'.cell? a4 = some u) :=
  ⟨kp_call hb hs.1, kp_call hb hs.2⟩
theorem kp2_store {w : World} {a1 a2 a3 a4 b : Addr} {x y z u v : Value} (h1 : b.block ≠ a1.block) (h2 : b.block ≠ a2.block) (h3 : b.block ≠ a3.block) (h4 : b.block ≠ a4.block) (hs : (w.cell? a1 = some x ∧ w.cell? a2 = some y) ∧ (w.cell? a3 = some z ∧ w.cell? a4 = some u)) : ((w.setCell b v).cell? a1 = some x ∧ (w.setCell b v).cell? a2 = some y) ∧ ((w.setCell b v).cell? a3 = some z ∧ (w.setCell b v).cell? a4 = some u) :=
  ⟨kp_store h1 h2 hs.1, kp_store h3 h4 hs.2⟩
theorem kp2_store2 {w : World} {g g1 g2 i1 i2 i3 i4 : Nat} {x y z u v v' : Value} (h1 : g ≠ g1) (h2 : g ≠ g2) (hs : (w.cell? ⟨g1, i1, none⟩ = some x ∧ w.cell? ⟨g1, i2, none⟩ = some y) ∧ (w.cell? ⟨g2, i3, none⟩ = some z ∧ w.cell? ⟨g2, i4, none⟩ = some u)) :
    (((w.setCell ⟨g, 0, none⟩ v).setCell ⟨g, 1, none⟩ v').cell? ⟨g1, i1, none⟩ = some x ∧ ((w.setCell ⟨g, 0, none⟩ v).setCell ⟨g, 1, none⟩ v').cell? ⟨g1, i2, none⟩ = some y) ∧ (((w.setCell ⟨g, 0, none⟩ v).setCell ⟨g, 1, none⟩ v').cell? ⟨g2, i3, none⟩ = some z ∧ ((w.setCell ⟨g, 0, none⟩ v).setCell ⟨g, 1, none⟩ v').cell? ⟨g2, i4, none⟩ = some u) :=
  kp2_store h1 h1 h2 h2 (kp2_store h1 h1 h2 h2 hs)
end Go.Proofs.Ytfhdgcndiljjcab

/- Contracts of the model's IsSeries and IsCurve. -/
namespace Go.Proofs.Ytfhdgcndiljjcab
open Go.RowKit Go.WideShapes Go.ChangeShapes Go.ChangeAt

end Go.Proofs.Ytfhdgcndiljjcab

/- Contracts of SubstituteCurves and SubstituteBoth, of the program and of the model. -/
namespace Go.Proofs.Ytfhdgcndiljjcab
open Go.RowKit Go.WideShapes Go.ChangeShapes Go.ChangeAt

/-- the code of a plane and two curves -/
def codePC2 (m : Int) (t : List (List Int)) (m1 : Int) (l1 : List Int) (m2 : Int) (l2 : List Int) : Int := codeLC (isP m t) m t.length [(m1, none, 0, l1), (m2, none, 0, l2)]
theorem codePC2_eq (m : Int) (t : List (List Int)) (m1 : Int) (A1 : Option Addr) (c1 : Nat) (l1 : List Int) (m2 : Int) (A2 : Option Addr) (c2 : Nat) (l2 : List Int) : codeLC (isP m t) m t.length [(m1, A1, c1, l1), (m2, A2, c2, l2)] = codePC2 m t m1 l1 m2 l2 := rfl
theorem isC_two {m : Int} {l : List Int} (h : isC m l = true) : isS m l = true ∧ Ser.co l 0 = 0 := by
  unfold isC at h
  rw [Bool.and_eq_true] at h
  exact ⟨h.1, by simpa [Ser.co] using h.2⟩
theorem codeL_zero {ok : Bool} {m : Int} {n : Nat} {xs : List (Int × Option Addr × Nat × List Int)} (h : codeL ok m n xs = 0) : ok = true ∧ allS xs = true ∧ alkS m n xs = true := by
  unfold codeL at h
  by_cases h1 : ok = true ∧ allS xs = true
  · rw [if_pos h1] at h
    by_cases h2 : alkS m n xs = true
    · exact ⟨h1.1, h1.2, h2⟩
    · rw [if_neg h2] at h; exact absurd h (by decide)
  · rw [if_neg h1] at h; exact absurd h (by decide)
theorem codeLC_zero {ok : Bool} {m : Int} {n : Nat} {xs : List (Int × Option Addr × Nat × List Int)} (h : codeLC ok m n xs = 0) : ok = true ∧ allS xs = true ∧ alkS m n xs = true ∧ curS xs = true := by
  unfold codeLC at h
  by_cases h1 : codeL ok m n xs = 0
  · rw [if_pos h1] at h
    obtain ⟨a, b, c⟩ := codeL_zero h1
    by_cases h2 : curS xs = true
    · exact ⟨a, b, c, h2⟩
    · rw [if_neg h2] at h; exact absurd h (by decide)
  · rw [if_neg h1] at h; exact absurd h h1
theorem codePC2_ok {m : Int} {t : List (List Int)} {m1 : Int} {l1 : List Int} {m2 : Int} {l2 : List Int} (h : codePC2 m t m1 l1 m2 l2 = 0) :
    m1 = m ∧ m2 = m ∧ ∃ d, t.length = d + 1 ∧ l1.length = d + 1 ∧ l2.length = d + 1 ∧ Pl.Ok m d t ∧ SerOk m d l1 ∧ SerOk m d l2 ∧ Ser.co l1 0 = 0 ∧ Ser.co l2 0 = 0 := by
  obtain ⟨h0, h1, h2, h3⟩ := codeLC_zero h
  obtain ⟨d, e, ok⟩ := plOk_of h0
  unfold allS at h1
  unfold alkS at h2
  unfold curS at h3
  simp only [List.all_cons, List.all_nil, Bool.and_true, Bool.and_eq_true, decide_eq_true_iff] at h1 h2 h3
  obtain ⟨⟨rfl, e1⟩, rfl, e2⟩ := h2
  obtain ⟨d1, f1, s1⟩ := serOk_of h1.1
  obtain ⟨d2, f2, s2⟩ := serOk_of h1.2
  obtain rfl : d1 = d := by omega
  obtain rfl : d2 = d1 := by omega
  exact ⟨rfl, rfl, d2, e, f1, f2, ok, s1, s2, (isC_two h3.1).2, (isC_two h3.2).2⟩
/-- a plane's box, two series' boxes, the result's variable, the list of both series -/
theorem proS (R : TypeId) (w : World) (m : Int) (A : Option Addr) (n c : Nat) (m1 : Int) (A1 : Option Addr) (n1 c1 : Nat) (m2 : Int) (A2 : Option Addr) (n2 c2 : Nat) :
    ∃ W, ((((w.alloc (.cells #[.int .i64 m, .slice A n c] 25)).alloc (.cells #[.int .i64 m1, .slice A1 n1 c1] 62)).alloc (.cells #[.int .i64 m2, .slice A2 n2 c2] 62)).alloc (.cells #[.int .i64 0, .slice none 0 0] R)).alloc (.cells #[.int .i64 m1, .slice A1 n1 c1, .int .i64 m2, .slice A2 n2 c2] 62) = W ∧
    Box W w.heap.size m A n c ∧ Box W (w.heap.size + 1) m1 A1 n1 c1 ∧ Box W (w.heap.size + 1 + 1) m2 A2 n2 c2 ∧ VarC R W (w.heap.size + 1 + 1 + 1) #[.int .i64 0, .slice none 0 0] ∧ Box4 W (w.heap.size + 1 + 1 + 1 + 1) m1 A1 n1 c1 m2 A2 n2 c2 ∧ Below w.heap.size w W := by
  obtain ⟨W0, h0, h1, h2, h3, h4⟩ := startB3 25 62 62 w m A n c m1 A1 n1 c1 m2 A2 n2 c2
  have hs : W0.heap.size = w.heap.size + 1 + 1 + 1 := by rw [← h0]; simp
  rw [h0]
  refine ⟨_, rfl, (h1.keep (below_one _ _)).keep (below_one _ _), (h2.keep (below_one _ _)).keep (below_one _ _), (h3.keep (below_one _ _)).keep (below_one _ _), ?_, ?_, below_alloc _ (below_alloc _ h4)⟩
  · have := (VarC.new R W0 #[.int .i64 0, .slice none 0 0]).keep (below_one _ (.cells #[.int .i64 m1, .slice A1 n1 c1, .int .i64 m2, .slice A2 n2 c2] 62))
    rwa [hs] at this
  · have hv := VarC.new 62 (W0.alloc (.cells #[.int .i64 0, .slice none 0 0] R)) #[.int .i64 m1, .slice A1 n1 c1, .int .i64 m2, .slice A2 n2 c2]
    have e : (W0.alloc (.cells #[.int .i64 0, .slice none 0 0] R)).heap.size = w.heap.size + 1 + 1 + 1 + 1 := by simp [hs]
    rw [e] at hv
    exact ⟨⟨hv.cell 0 _ rfl, hv.cell 1 _ rfl, hv.lt⟩, hv.cell 2 _ rfl, hv.cell 3 _ rfl⟩
/-- .. without the list -/
theorem sproS (R : TypeId) (w : World) (m : Int) (A : Option Addr) (n c : Nat) (m1 : Int) (A1 : Option Addr) (n1 c1 : Nat) (m2 : Int) (A2 : Option Addr) (n2 c2 : Nat) :
    ∃ W, (((w.alloc (.cells #[.int .i64 m, .slice A n c] 25)).alloc (.cells #[.int .i64 m1, .slice A1 n1 c1] 62)).alloc (.cells #[.int .i64 m2, .slice A2 n2 c2] 62)).alloc (.cells #[.int .i64 0, .slice none 0 0] R) = W ∧
    Box W w.heap.size m A n c ∧ Box W (w.heap.size + 1) m1 A1 n1 c1 ∧ Box W (w.heap.size + 1 + 1) m2 A2 n2 c2 ∧ VarC R W (w.heap.size + 1 + 1 + 1) #[.int .i64 0, .slice none 0 0] ∧ Below w.heap.size w W := by
  obtain ⟨W0, h0, h1, h2, h3, h4⟩ := startB3 25 62 62 w m A n c m1 A1 n1 c1 m2 A2 n2 c2
  have hs : W0.heap.size = w.heap.size + 1 + 1 + 1 := by rw [← h0]; simp
  rw [h0]
  refine ⟨_, rfl, h1.keep (below_one _ _), h2.keep (below_one _ _), h3.keep (below_one _ _), ?_, below_alloc _ h4⟩
  have := VarC.new R W0 #[.int .i64 0, .slice none 0 0]
  rwa [hs] at this
/-- what the three boxes hold is kept -/
theorem box3_call {w w' : World} {g g1 g2 : Nat} {m m1 m2 : Int} {A A1 A2 : Option Addr} {n c n1 c1 n2 c2 : Nat} (hb : Below w.heap.size w w') (h : Box w g m A n c ∧ Box w g1 m1 A1 n1 c1 ∧ Box w g2 m2 A2 n2 c2) : Box w' g m A n c ∧ Box w' g1 m1 A1 n1 c1 ∧ Box w' g2 m2 A2 n2 c2 :=
  ⟨h.1.keep hb, h.2.1.keep hb, h.2.2.keep hb⟩
/-- the models -/
def subP (m : Int) (t : List (List Int)) (m1 : Int) (l1 : List Int) (m2 : Int) (l2 : List Int) : Int × List Int × Int :=
  if codePC2 m t m1 l1 m2 l2 = 0 then (m, Pl.putL m (t.length - 1) (Pl.pc t) l1 l2, 0) else (0, [], codePC2 m t m1 l1 m2 l2)
theorem subP_len (m : Int) (t : List (List Int)) (m1 : Int) (l1 : List Int) (m2 : Int) (l2 : List Int) : (subP m t m1 l1 m2 l2).2.1.length ≤ 1048576 := by
  unfold subP
  split
  · rename_i h
    obtain ⟨_, _, d, e, _, _, ok, _⟩ := codePC2_ok h
    have := ok.d2
    dsimp only
    rw [Pl.putL_length]; omega
  · simp
def botP (m : Int) (t : List (List Int)) (m1 : Int) (l1 : List Int) (m2 : Int) (l2 : List Int) : Int × List (List Int) × Int :=
  if codePC2 m t m1 l1 m2 l2 = 0 then (m, Pl.botT m (t.length - 1) (Pl.pc t) l1 l2, 0) else (0, [], codePC2 m t m1 l1 m2 l2)
theorem botP_len (m : Int) (t : List (List Int)) (m1 : Int) (l1 : List Int) (m2 : Int) (l2 : List Int) : szT (botP m t m1 l1 m2 l2).2.1 ≤ 1048576 := by
  unfold botP
  split
  · rename_i h
    obtain ⟨_, _, d, e, _, _, ok, _⟩ := codePC2_ok h
    refine szT_ok (m := m) (d := d) ?_
    rw [e]
    exact ok.tab _
  · show szT [] ≤ 1048576
    decide
/-- in the walk's form: three boxes are kept by a call and by a store elsewhere -/
theorem kb3_call {w w' : World} {g g1 g2 : Nat} {m m1 m2 : Int} {A A1 A2 : Option Addr} {n c n1 c1 n2 c2 : Nat} (hb : Below w.heap.size w w')
    (h : (w.cell? ⟨g, 0, none⟩ = some (.int .i64 m) ∧ w.cell? ⟨g, 1, none⟩ = some (.slice A n c) ∧ g < w.heap.size) ∧ (w.cell? ⟨g1, 0, none⟩ = some (.int .i64 m1) ∧ w.cell? ⟨g1, 1, none⟩ = some (.slice A1 n1 c1) ∧ g1 < w.heap.size) ∧ (w.cell? ⟨g2, 0, none⟩ = some (.int .i64 m2) ∧ w.cell? ⟨g2, 1, none⟩ = some (.slice A2 n2 c2) ∧ g2 < w.heap.size)) :
    (w'.cell? ⟨g, 0, none⟩ = some (.int .i64 m) ∧ w'.cell? ⟨g, 1, none⟩ = some (.slice A n c) ∧ g < w'.heap.size) ∧ (w'.cell? ⟨g1, 0, none⟩ = some (.int .i64 m1) ∧ w'.cell? ⟨g1, 1, none⟩ = some (.slice A1 n1 c1) ∧ g1 < w'.heap.size) ∧ (w'.cell? ⟨g2, 0, none⟩ = some (.int .i64 m2) ∧ w'.cell? ⟨g2, 1, none⟩ = some (.slice A2 n2 c2) ∧ g2 < w'.heap.size) :=
  box3_call hb h
theorem kb3_store {w : World} {b g g1 g2 : Nat} {m m1 m2 : Int} {A A1 A2 : Option Addr} {n c n1 c1 n2 c2 : Nat} {x y : Value} (e0 : b ≠ g) (e1 : b ≠ g1) (e2 : b ≠ g2)
    (h : (w.cell? ⟨g, 0, none⟩ = some (.int .i64 m) ∧ w.cell? ⟨g, 1, none⟩ = some (.slice A n c) ∧ g < w.heap.size) ∧ (w.cell? ⟨g1, 0, none⟩ = some (.int .i64 m1) ∧ w.cell? ⟨g1, 1, none⟩ = some (.slice A1 n1 c1) ∧ g1 < w.heap.size) ∧ (w.cell? ⟨g2, 0, none⟩ = some (.int .i64 m2) ∧ w.cell? ⟨g2, 1, none⟩ = some (.slice A2 n2 c2) ∧ g2 < w.heap.size)) :
    let w' := (w.setCell ⟨b, 0, none⟩ x).setCell ⟨b, 1, none⟩ y
    (w'.cell? ⟨g, 0, none⟩ = some (.int .i64 m) ∧ w'.cell? ⟨g, 1, none⟩ = some (.slice A n c) ∧ g < w'.heap.size) ∧ (w'.cell? ⟨g1, 0, none⟩ = some (.int .i64 m1) ∧ w'.cell? ⟨g1, 1, none⟩ = some (.slice A1 n1 c1) ∧ g1 < w'.heap.size) ∧ (w'.cell? ⟨g2, 0, none⟩ = some (.int .i64 m2) ∧ w'.cell? ⟨g2, 1, none⟩ = some (.slice A2 n2 c2) ∧ g2 < w'.heap.size) :=
  ⟨((show Box w g m A n c from h.1).far b 0 x e0).far b 1 y e0, ((show Box w g1 m1 A1 n1 c1 from h.2.1).far b 0 x e1).far b 1 y e1, ((show Box w g2 m2 A2 n2 c2 from h.2.2).far b 0 x e2).far b 1 y e2⟩
/-! the model -/
/-- three boxes and the list of both series -/
theorem proL (w : World) (m : Int) (A : Option Addr) (n c : Nat) (m1 : Int) (A1 : Option Addr) (n1 c1 : Nat) (m2 : Int) (A2 : Option Addr) (n2 c2 : Nat) :
    ∃ W, (((w.alloc (.cells #[.int .i64 m, .slice A n c] 25)).alloc (.cells #[.int .i64 m1, .slice A1 n1 c1] 62)).alloc (.cells #[.int .i64 m2, .slice A2 n2 c2] 62)).alloc (.cells #[.int .i64 m1, .slice A1 n1 c1, .int .i64 m2, .slice A2 n2 c2] 62) = W ∧
    Box W w.heap.size m A n c ∧ Box W (w.heap.size + 1) m1 A1 n1 c1 ∧ Box W (w.heap.size + 1 + 1) m2 A2 n2 c2 ∧ Box4 W (w.heap.size + 1 + 1 + 1) m1 A1 n1 c1 m2 A2 n2 c2 ∧ Below w.heap.size w W := by
  obtain ⟨W0, h0, h1, h2, h3, h4⟩ := startB3 25 62 62 w m A n c m1 A1 n1 c1 m2 A2 n2 c2
  have hs : W0.heap.size = w.heap.size + 1 + 1 + 1 := by rw [← h0]; simp
  rw [h0]
  refine ⟨_, rfl, h1.keep (below_one _ _), h2.keep (below_one _ _), h3.keep (below_one _ _), ?_, below_alloc _ h4⟩
  have hv := VarC.new 62 W0 #[.int .i64 m1, .slice A1 n1 c1, .int .i64 m2, .slice A2 n2 c2]
  rw [hs] at hv
  exact ⟨⟨hv.cell 0 _ rfl, hv.cell 1 _ rfl, hv.lt⟩, hv.cell 2 _ rfl, hv.cell 3 _ rfl⟩
theorem codePC2_if (m : Int) (t : List (List Int)) (m1 : Int) (l1 : List Int) (m2 : Int) (l2 : List Int) : codePC2 m t m1 l1 m2 l2 = if codeL (isP m t) m t.length [(m1, none, 0, l1), (m2, none, 0, l2)] = 0 then (if isC m1 l1 = true ∧ isC m2 l2 = true then 0 else 5) else codeL (isP m t) m t.length [(m1, none, 0, l1), (m2, none, 0, l2)] := by
  unfold codePC2 codeLC curS
  simp only [List.all_cons, List.all_nil, Bool.and_true, Bool.and_eq_true]
end Go.Proofs.Ytfhdgcndiljjcab

/- Contracts of the program's codes of laws, of the law of a plane, of lines and of sums under a law. -/
namespace Go.Proofs.Ytfhdgcndiljjcab
open Go.RowKit Go.WideShapes Go.ChangeShapes Go.ChangeAt

/-- block g holds planes, one after the other -/
def PLs (w : World) (g : Nat) (xs : List (Int × Option Addr × Nat × List (List Int))) : Prop :=
  g < w.heap.size ∧ ∀ k m A c t, xs[k]? = some (m, A, c, t) → w.cell? ⟨g, k * 2, none⟩ = some (.int .i64 m) ∧ w.cell? ⟨g, k * 2 + 1, none⟩ = some (.slice A t.length c) ∧ RP w A t ∧ szT t ≤ 1048576
theorem PLs.keep {w w' : World} {g : Nat} {xs : List (Int × Option Addr × Nat × List (List Int))} (h : PLs w g xs) (hb : Below w.heap.size w w') : PLs w' g xs :=
  ⟨Nat.lt_of_lt_of_le h.1 hb.size, fun k m A c t hx => by
    obtain ⟨a, b, r, z⟩ := h.2 k m A c t hx
    exact ⟨(hb.cell (p := ⟨g, k * 2, none⟩) h.1).trans a, (hb.cell (p := ⟨g, k * 2 + 1, none⟩) h.1).trans b, r.below hb, z⟩⟩
theorem PLs.one {w : World} {g : Nat} {m : Int} {A : Option Addr} {c : Nat} {t : List (List Int)} (hx : Box w g m A t.length c) (hr : RP w A t) (hz : szT t ≤ 1048576) : PLs w g [(m, A, c, t)] :=
  ⟨hx.2.2, fun k m' A' c' t' h => by
    match k, h with
    | 0, h =>
      simp at h
      obtain ⟨rfl, rfl, rfl, rfl⟩ := h
      exact ⟨hx.1, hx.2.1, hr, hz⟩⟩
theorem PLs.two {w : World} {g : Nat} {m : Int} {A : Option Addr} {c : Nat} {t : List (List Int)} {m' : Int} {A' : Option Addr} {c' : Nat} {t' : List (List Int)} (hx : Box4 w g m A t.length c m' A' t'.length c') (hr : RP w A t) (hr' : RP w A' t') (hz : szT t ≤ 1048576) (hz' : szT t' ≤ 1048576) :
    PLs w g [(m, A, c, t), (m', A', c', t')] :=
  ⟨hx.1.2.2, fun k m0 A0 c0 t0 h => by
    match k, h with
    | 0, h =>
      simp at h
      obtain ⟨rfl, rfl, rfl, rfl⟩ := h
      exact ⟨hx.1.1, hx.1.2.1, hr, hz⟩
    | 1, h =>
      simp at h
      obtain ⟨rfl, rfl, rfl, rfl⟩ := h
      exact ⟨hx.2.1, hx.2.2, hr', hz'⟩⟩
def lawS (xs : List (Int × Option Addr × Nat × List (List Int))) : Bool := xs.all fun x => isL x.1 x.2.2.2
/-- the code of a law and series -/
def codeLw (m : Int) (t : List (List Int)) (xs : List (Int × Option Addr × Nat × List Int)) : Int := if isL m t = true then (if allS xs = true then (if alkS m t.length xs = true ∧ curS xs = true then 0 else 2) else 1) else 1
theorem codeLw_of {m : Int} {t : List (List Int)} {xs : List (Int × Option Addr × Nat × List Int)} (h : isL m t = true) : codeLw m t xs = if codeLC (isP m t) m t.length xs = 5 then 2 else codeLC (isP m t) m t.length xs := by
  unfold codeLw codeLC codeL
  rw [if_pos h, (isL_of h).1]
  by_cases h1 : allS xs = true
  · simp only [h1, and_self, if_true]
    by_cases h2 : alkS m t.length xs = true
    · by_cases h3 : curS xs = true
      · simp [h2, h3]
      · simp [h2, h3]
    · simp [h2]
  · simp [h1]
end Go.Proofs.Ytfhdgcndiljjcab

