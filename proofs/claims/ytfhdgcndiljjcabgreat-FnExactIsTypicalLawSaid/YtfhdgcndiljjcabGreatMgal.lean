/- Texts of contracts, joined. -/
import Derived.Test.YtfhdgcndiljjcabGreatMgak
import Derived.Test.YtfhdgcndiljjcabGreatMgaj
import Derived.Test.YtfhdgcndiljjcabGreatMgah
import Derived.Test.YtfhdgcndiljjcabGreatMgag
import Derived.Test.YtfhdgcndiljjcabGreatMgad
import Derived.Test.YtfhdgcndiljjcabGreatMgae
import Derived.Deep.RegionHeld3
/- Contracts of LawInCoordinate, of the program and of the model. -/
namespace Go.Proofs.YtfhdgcndiljjcabGreat
open Go.RowKit Go.WideShapes Go.ChangeShapes Go.ChangeAt
namespace Pl
end Pl
end Go.Proofs.YtfhdgcndiljjcabGreat

/- Plain facts: what passages make of x + y; the table a(x) + a(y). -/
namespace Go.Proofs.YtfhdgcndiljjcabGreat
open Go.RowKit
namespace Ser
theorem psum_two (f : Nat → Int) (h : ∀ i, 2 ≤ i → f i = 0) : ∀ n, psum f (n + 2) = f 0 + f 1
  | 0 => by show psum f 0 + f 0 + f 1 = _; show (0 : Int) + f 0 + f 1 = _; omega
  | n + 1 => by show psum f (n + 2) + f (n + 2) = _; rw [psum_two f h n, h (n + 2) (by omega)]; omega
end Ser
/-- a(x) + a(y) -/
def sumF (l : List Int) : Nat → Nat → Int := fun i j => if i = 0 then (if j = 0 then 0 else Ser.co l j) else (if j = 0 then Ser.co l i else 0)
theorem sum_00 (m : Int) (d : Nat) (l : List Int) : Pl.pc (Pl.tab m d (sumF l)) 0 0 = 0 := by rw [Pl.pc_tab (by omega)]; rfl
/-- the coefficients of x + y -/
theorem lin_co {m : Int} {d : Nat} (m1 : 2 ≤ m) (k : Nat) (hk : k ≤ d) : Ser.co (Pl.lin m d 1) k = if k = 1 then 1 else 0 := by
  unfold Pl.lin
  rw [Ser.co_cut hk]
  unfold Ser.mon
  by_cases h1 : k = 1
  · rw [if_pos h1]; exact Int.emod_eq_of_lt (by omega) (by omega)
  · rw [if_neg h1]; exact Int.zero_emod m
theorem gos_x {m : Int} {d : Nat} (m1 : 2 ≤ m) (i j : Nat) (h : i + j ≤ d) : gosF (Pl.lin m d 1) 0 i j = if i = 1 ∧ j = 0 then 1 else 0 := by
  unfold gosF
  rw [if_pos rfl]
  by_cases hj : j = 0
  · rw [if_pos hj, lin_co m1 i (by omega)]
    by_cases hi : i = 1
    · rw [if_pos hi, if_pos ⟨hi, hj⟩]
    · rw [if_neg hi, if_neg (fun e => hi e.1)]
  · rw [if_neg hj, if_neg (fun e => hj e.2)]
theorem gos_y {m : Int} {d : Nat} (m1 : 2 ≤ m) (i j : Nat) (h : i + j ≤ d) : gosF (Pl.lin m d 1) 1 i j = if i = 0 ∧ j = 1 then 1 else 0 := by
  unfold gosF
  rw [if_neg (show ¬ ((1 : Int) = 0) by omega)]
  by_cases hi : i = 0
  · rw [if_pos hi, lin_co m1 j (by omega)]
    by_cases hj : j = 1
    · rw [if_pos hj, if_pos ⟨hi, hj⟩]
    · rw [if_neg hj, if_neg (fun e => hj e.2)]
  · rw [if_neg hi, if_neg (fun e => hi e.1)]
theorem xy_pc {m : Int} {d : Nat} (m1 : 2 ≤ m) (d1 : 1 ≤ d) (i j : Nat) : Pl.pc (xyT m d) i j = if (i = 1 ∧ j = 0) ∨ (i = 0 ∧ j = 1) then 1 else 0 := by
  unfold xyT
  have e1 : (1 : Int) % m = 1 := Int.emod_eq_of_lt (by omega) (by omega)
  by_cases h : i + j ≤ d
  · rw [Pl.pc_tab h, Pl.pc_tab h, Pl.pc_tab h, gos_x m1 i j h, gos_y m1 i j h]
    by_cases h1 : i = 1 ∧ j = 0
    · rw [if_pos h1, if_neg (by omega), if_pos (.inl h1), e1, Int.zero_emod]; exact e1
    · by_cases h2 : i = 0 ∧ j = 1
      · rw [if_neg h1, if_pos h2, if_pos (.inr h2), e1, Int.zero_emod]; exact e1
      · rw [if_neg h1, if_neg h2, if_neg (fun e => e.elim h1 h2), Int.zero_emod]; exact Int.zero_emod m
  · rw [Pl.pc_over (by omega), if_neg (by omega)]
end Go.Proofs.YtfhdgcndiljjcabGreat

/- Copies with great moduli, up to 10^8: written by wip/tools/mk_bga.py out of Gmu, Pap, Paq. -/
namespace Go.Proofs.YtfhdgcndiljjcabGreat
open Go.RowKit Go.WideShapes Go.ChangeShapes Go.ChangeAt
theorem inner_bdG {m : Int} {d : Nat} {t t' : List (List Int)} (hs : Pl.OkG m d t) (hs' : Pl.OkG m d t') (i k j : Nat) (n : Nat) (hn : n ≤ 11) :
    0 ≤ Ser.psum (fun l => Pl.pc t k l * Pl.pc t' (i - k) (j - l)) n ∧ Ser.psum (fun l => Pl.pc t k l * Pl.pc t' (i - k) (j - l)) n ≤ 110000000000000000 := by
  have := Pl.psum_bd2 (fun l => Pl.pc t k l * Pl.pc t' (i - k) (j - l)) 10000000000000000 (fun l => by
    have h1 := hs.pc k l
    have h2 := hs'.pc (i - k) (j - l)
    have h3 := hs.m2
    exact Pl.prod_bdG h1.1 (by omega) h2.1 (by omega)) n
  refine ⟨this.1, ?_⟩
  have h := this.2
  omega
theorem outer_bdG {m : Int} {d : Nat} {t t' : List (List Int)} (hs : Pl.OkG m d t) (hs' : Pl.OkG m d t') (i j : Nat) (hj : j ≤ 10) (n : Nat) (hn : n ≤ 11) :
    0 ≤ Ser.psum (fun k => Ser.psum (fun l => Pl.pc t k l * Pl.pc t' (i - k) (j - l)) (j + 1)) n ∧ Ser.psum (fun k => Ser.psum (fun l => Pl.pc t k l * Pl.pc t' (i - k) (j - l)) (j + 1)) n ≤ 1210000000000000000 := by
  have := Pl.psum_bd2 (fun k => Ser.psum (fun l => Pl.pc t k l * Pl.pc t' (i - k) (j - l)) (j + 1)) 110000000000000000 (fun k => inner_bdG hs hs' i k j (j + 1) (by omega)) n
  refine ⟨this.1, ?_⟩
  have h := this.2
  omega
set_option maxHeartbeats 2000000 in
set_option maxRecDepth 100000 in
theorem gtimesC_anyG (i j g g' : Nat) (m : Int) (d : Nat) (A : Option Addr) (c : Nat) (t : List (List Int)) (A' : Option Addr) (c' : Nat) (t' : List (List Int)) (W : World) (hb : GBox W g m d A t.length c) (hb' : GBox W g' m d A' t'.length c') (hs : Pl.OkG m d t) (hs' : Pl.OkG m d t') (hr : RP W A t) (hr' : RP W A' t') (hij : i + j ≤ d) :
    Calls Tryz.prog 145 #[.int .i64 i, .int .i64 j, .pointer (some ⟨g, 0, none⟩), .pointer (some ⟨g', 0, none⟩)] W fun e w' => e = .returned (.int .i64 (Pl.mul2 (Pl.pc t) (Pl.pc t') i j)) ∧ Below W.heap.size W w' := by
  obtain ⟨b, off, rfl⟩ := hr.some (by rw [hs.len]; omega)
  obtain ⟨b', off', rfl⟩ := hr'.some (by rw [hs'.len]; omega)
  have HB1 := Lib.hid hb
  have HB2 := Lib.hid hb'
  have HS := Lib.hid hs
  have HS' := Lib.hid hs'
  have HR := Lib.hid hr
  have HR' := Lib.hid hr'
  have hd2 := hs.d2
  have HM : Hid (Pl.mul2 (Pl.pc t) (Pl.pc t') i j = Ser.psum (fun k => Ser.psum (fun l => Pl.pc t k l * Pl.pc t' (i - k) (j - l)) (j + 1)) (i + 1)) := Lib.hid rfl
  obtain ⟨R, hR⟩ : ∃ R, Pl.mul2 (Pl.pc t) (Pl.pc t') i j = R := ⟨_, rfl⟩
  rw [hR] at HM ⊢
  obtain ⟨F, hF⟩ : ∃ F, (fun k => Ser.psum (fun l => Pl.pc t k l * Pl.pc t' (i - k) (j - l)) (j + 1)) = F := ⟨_, rfl⟩
  have HFF := Lib.hid hF
  rw [hF] at HM
  have HOB : Hid (∀ n, n ≤ 11 → 0 ≤ Ser.psum F n ∧ Ser.psum F n ≤ 1210000000000000000) := Lib.hid (fun n hn => by rw [← hF]; exact outer_bdG hs hs' i j (by omega) n hn)
  clear hb hb' hr hr' hs hs' hR hF
  go_enter Tryz.func145, Tryz.ntmps145
  go_wp2
  go_loopw [7, 12] (fun s q wr => ∃ k : Nat, k ≤ i + 1 ∧ q = .int .i64 k ∧ s = .int .i64 (Ser.psum F k) ∧ Below W.heap.size W wr) (fun _ q _ => i + 1 - (intOf q).toNat)
  case atStart => exact ⟨0, Nat.zero_le _, rfl, rfl, Below.refl _ _⟩
  case round =>
    obtain ⟨k, hk, rfl, rfl, hbel⟩ := hrel
    have HB := Lib.hid hbel
    clear hbel
    by_cases hlt : k < i + 1
    · obtain ⟨O, hO⟩ : ∃ O, Ser.psum F k = O := ⟨_, rfl⟩
      have hob := HOB.out k (by omega)
      rw [hO] at hob ⊢
      have HO := Lib.hid hO
      obtain ⟨hob1, hob2⟩ := hob
      obtain ⟨G, hG⟩ : ∃ G, (fun l => Pl.pc t k l * Pl.pc t' (i - k) (j - l)) = G := ⟨_, rfl⟩
      have HGG := Lib.hid hG
      have HIB : Hid (∀ n, n ≤ 11 → 0 ≤ Ser.psum G n ∧ Ser.psum G n ≤ 110000000000000000) := Lib.hid (fun n hn => by rw [← hG]; exact inner_bdG HS.out HS'.out i k j n hn)
      have HFK : Hid (F k = Ser.psum G (j + 1)) := Lib.hid (by rw [← HFF.out, ← hG])
      have j1 : (k : Int) < (i : Int) + 1 := by omega
      clear hO hG
      go_wp2
      go_loopw [7, 17] (fun s q wr => ∃ l : Nat, l ≤ j + 1 ∧ q = .int .i64 l ∧ s = .int .i64 (O + Ser.psum G l) ∧ Below W.heap.size W wr) (fun _ q _ => j + 1 - (intOf q).toNat)
      case atStart => exact ⟨0, Nat.zero_le _, rfl, by simp [Ser.psum], HB.out⟩
      case round =>
        clear HB
        obtain ⟨l, hl, rfl, rfl, hbel⟩ := hrel
        have HB := Lib.hid hbel
        by_cases hlt2 : l < j + 1
        · obtain ⟨p1, p2, p3, L, N, hL, hN, x1, x2, x3⟩ := (HB1.out.keep hbel).numG HS.out (HR.out.below hbel) k l (by omega)
          obtain ⟨r, hr⟩ : ∃ r, i - k = r := ⟨_, rfl⟩
          obtain ⟨s, hs⟩ : ∃ s, j - l = s := ⟨_, rfl⟩
          obtain ⟨q1, q2, q3, L', N', hL', hN', y1, y2, y3⟩ := (HB2.out.keep hbel).numG HS'.out (HR'.out.below hbel) r s (by omega)
          have hG1 : G l = Pl.pc t k l * Pl.pc t' r s := by
            rw [← HGG.out]
            show Pl.pc t k l * Pl.pc t' (i - k) (j - l) = _
            rw [hr, hs]
          have hst : Ser.psum G (l + 1) = Ser.psum G l + Pl.pc t k l * Pl.pc t' r s := by rw [Ser.psum, hG1]
          clear hG1
          obtain ⟨P, hP⟩ : ∃ P, Ser.psum G l = P := ⟨_, rfl⟩
          have hib := HIB.out l (by omega)
          have c1 := HS.out.pc k l
          have c2 := HS'.out.pc r s
          have hm := HS.out.m2
          obtain ⟨X, hX⟩ : ∃ X, Pl.pc t k l = X := ⟨_, rfl⟩
          obtain ⟨Y, hY⟩ : ∃ Y, Pl.pc t' r s = Y := ⟨_, rfl⟩
          rw [hX] at x3 c1 hst
          rw [hY] at y3 c2 hst
          rw [hP] at hib hst ⊢
          have hpr := Pl.prod_bdG c1.1 (by omega) c2.1 (by omega)
          have HST := Lib.hid hst
          have w1 : IntKind.i64.wrap (X * Y) = X * Y := by rw [IntKind.wrap_i64]; omega
          have w2 : IntKind.i64.wrap (O + P + X * Y) = O + P + X * Y := by rw [IntKind.wrap_i64]; omega
          have j2 : (0 : Int) ≤ (k : Int) := by omega
          have j3 : (k : Int) < (L : Int) := by omega
          have j4 : (0 : Int) ≤ (l : Int) := by omega
          have j5 : (l : Int) < (N : Int) := by omega
          have j6 : (i : Int) - (k : Int) = (r : Int) := by omega
          have j7 : (j : Int) - (l : Int) = (s : Int) := by omega
          have j8 : (r : Int) < (L' : Int) := by omega
          have j9 : (s : Int) < (N' : Int) := by omega
          have j10 : (0 : Int) ≤ (r : Int) := by omega
          have j11 : (0 : Int) ≤ (s : Int) := by omega
          clear hbel hL hN hL' hN' hst hP hib hX hY hr hs c1 c2 hpr
          go_wp2
          go_quiet (fail)
          go_wp2
          go_roundw
          case rel => exact ⟨l + 1, by omega, by go_num, by rw [HST.out, Int.add_assoc], below_drewN HB.out _⟩
          case measure => simp only [intOf]; omega
        · obtain rfl : l = j + 1 := by omega
          have HE : Hid (Ser.psum F (k + 1) = O + Ser.psum G (j + 1)) := Lib.hid (by rw [Ser.psum, HO.out, HFK.out])
          clear hbel
          go_wp2
          go_roundw
          case rel => exact ⟨k + 1, by omega, by go_num, by rw [HE.out], HB.out⟩
          case measure => simp only [intOf]; omega
    · obtain rfl : k = i + 1 := by omega
      go_wp2
      go_ret
      exact ⟨ret_int HM.out.symm, HB.out⟩
set_option maxHeartbeats 2000000 in
set_option maxRecDepth 100000 in
theorem gtimes_anyG (m : Int) (d : Nat) (A : Option Addr) (c : Nat) (t : List (List Int)) (A' : Option Addr) (c' : Nat) (t' : List (List Int)) (w : World) (hs : Pl.OkG m d t) (hs' : Pl.OkG m d t') (hr : RP w A t) (hr' : RP w A' t') :
    Calls Tryz.prog 112 #[.agg #[.int .i64 m, .int .i64 d, .slice A t.length c], .agg #[.int .i64 m, .int .i64 d, .slice A' t'.length c']] w fun e w' => ∃ v, e = .returned (.agg #[.int .i64 m, .int .i64 d, v]) ∧ OwnR w' w.heap.size w'.heap.size v (Pl.tab m d (Pl.mul2 (Pl.pc t) (Pl.pc t'))) ∧ Below w.heap.size w w' := by
  obtain ⟨W, hW, b1, b2, v3, hwb⟩ := gpro2 w m d A t.length c m d A' t'.length c'
  have HS := Lib.hid (filled_anyG m d 145 #[.pointer (some ⟨w.heap.size, 0, none⟩), .pointer (some ⟨w.heap.size + 1, 0, none⟩)] (Pl.mul2 (Pl.pc t) (Pl.pc t')) W (by have := hs.m1; omega) hs.m2 (by have := hs.d2; omega)
    (fun i j hij => by have := outer_bdG hs hs' i j (by have := hs.d2; omega) (i + 1) (by have := hs.d2; omega); unfold Pl.mul2; omega) (enters_fn Tryz.func145 (of_decide_eq_true (by kernel_rfl)) rfl)
    (fun i j W1 hij hb => gtimesC_anyG i j _ _ m d A c t A' c' t' W1 (b1.keep hb) (b2.keep hb) hs hs' ((hr.below hwb).below hb) ((hr'.below hwb).below hb) hij))
  have HB := Lib.hid hwb
  have HW := Lib.hid hW
  have V3 := Lib.hid v3
  obtain ⟨T, hT⟩ : ∃ T, Pl.tab m d (Pl.mul2 (Pl.pc t) (Pl.pc t')) = T := ⟨_, rfl⟩
  rw [hT] at HS ⊢
  clear b1 b2 v3 hwb hW hr hr' hs hs' hT
  go_enter Tryz.func112, Tryz.ntmps112
  go_wp2_with fail
  rw [HW.out]
  refine HS.out.mono ?_
  rintro e w2 ⟨v, rfl, ho, hb⟩
  obtain ⟨A2, c2, rfl, -⟩ := ho.len
  have hv := V3.out.keep hb
  obtain ⟨q0, q1, q2, q3, q4, q5⟩ := hv.tells3
  obtain ⟨f0, f1, f2, f3, f4⟩ := fin_grid (w := w) hv ho (by have := V3.out.lt; omega) (by omega) (Nat.le_refl _) (below_step HB.out hb) (.int .i64 m) (.int .i64 d) (.slice A2 T.length c2)
  have F3 := Lib.hid (f3.low (show w.heap.size ≤ W.heap.size from HB.out.size))
  have F4 := Lib.hid f4
  unfold set3 at f0 f1 f2
  clear f3 f4 ho hv hb
  go_wp2
  exact bodyPost_ret (v := .agg #[.int .i64 m, .int .i64 d, .slice A2 T.length c2]) (by simp [results, Tryz.results112, go_sem, f0, f1, f2]) rfl ⟨_, rfl, F3.out, F4.out⟩
namespace Pl
theorem hor_okG {m : Int} {d : Nat} (m1 : 2 ≤ m) (m2 : m ≤ 100000000) (d1 : 1 ≤ d) (d2 : d ≤ 10) (l : List Int) (F : Nat → Nat → Int) (k : Nat) : OkG m d (hor m d l F k) := by
  cases k <;> (unfold hor; exact OkG.of_tab m1 m2 d1 d2 _)
end Pl
set_option maxHeartbeats 16000000 in
set_option maxRecDepth 100000 in
theorem appliedTo_anyG (m : Int) (d : Nat) (A : Option Addr) (c : Nat) (l : List Int) (A' : Option Addr) (c' : Nat) (t : List (List Int)) (w : World) (hs : SerOkG m d l) (hs' : Pl.OkG m d t) (h00 : Pl.pc t 0 0 = 0) (hr : RI w A l) (hr' : RP w A' t) :
    Calls Tryz.prog 74 #[.agg #[.int .i64 m, .slice A l.length c], .agg #[.int .i64 m, .int .i64 d, .slice A' t.length c']] w fun e w' => ∃ v, e = .returned (.agg #[.int .i64 m, .int .i64 d, v]) ∧ OwnR w' w.heap.size w'.heap.size v (Pl.hor m d l (Pl.pc t) (d + 1)) ∧ Below w.heap.size w w' := by
  obtain ⟨W, hW, b1, b2, v3, hwb⟩ := gproA w m A l.length c m d A' t.length c'
  have B1 := Lib.hid b1
  have B2 := Lib.hid b2
  have V3 := Lib.hid v3
  have HB := Lib.hid hwb
  have HW := Lib.hid hW
  have HR := Lib.hid hr
  have HR' := Lib.hid hr'
  have HSZ : w.heap.size + 1 + 1 < W.heap.size := v3.lt
  have m1 := hs.m1
  have m2 := hs.m2
  have hd := hs.d2
  have hd1 := hs.d1
  have HS := Lib.hid hs
  have HS' := Lib.hid hs'
  have H00 := Lib.hid h00
  obtain ⟨b, off, rfl, hbb, hcd⟩ := hr.at d (by rw [hs.len]; omega)
  have hcd1 := (hwb.cell (p := ⟨b, off + d, none⟩) hbb).trans hcd
  obtain ⟨r1, r2⟩ := hs.red d
  have h1 := Pl.hor_one (Pl.pc t) r1 r2
  obtain ⟨X, hX⟩ : ∃ X, Ser.co l d = X := ⟨_, rfl⟩
  rw [hX] at hcd1 r1 r2 h1
  have HDG := Lib.hid (fun W0 => degree_nat m (some ⟨b, off, none⟩) l.length c d W0 hs.len (by omega))
  have HMO := Lib.hid (fun W0 => monomial_anyG m d 0 X W0 (by omega) m2 (by omega) (by omega) (by omega))
  have HGS := Lib.hid (fun (W0 : World) (A0 : Option Addr) (c0 : Nat) (h : RI W0 A0 (Ser.cut m d (Ser.mon 0 X))) => gridOfSeries_anyG m d A0 c0 _ 0 W0 ⟨m1, m2, by omega, by omega, Ser.cut_length _ _ _, Ser.cut_red (by omega) _ _⟩ h)
  have HT := Lib.hid (fun (k : Nat) (A1 : Option Addr) (c1 : Nat) (W0 : World) (h : RP W0 A1 (Pl.hor m d l (Pl.pc t) k)) (h' : RP W0 A' t) => by
    have := gtimes_anyG m d A1 c1 (Pl.hor m d l (Pl.pc t) k) A' c' t W0 (Pl.hor_okG m1 m2 hd1 hd l _ k) hs' h h'
    rw [Pl.hor_length] at this
    exact this)
  obtain ⟨L0, hL0⟩ : ∃ L0, Ser.cut m d (Ser.mon 0 X) = L0 := ⟨_, rfl⟩
  rw [hL0] at HMO HGS h1
  obtain ⟨T0, hT0⟩ : ∃ T0, Pl.tab m d (gosF L0 0) = T0 := ⟨_, rfl⟩
  rw [hT0] at HGS h1
  have HT0 := Lib.hid h1
  have z1 : (0 : Int) ≤ (d : Int) := by omega
  have z2 : (d : Int) < (l.length : Int) := by have := hs.len; omega
  have hWb : b < W.heap.size := Nat.lt_of_lt_of_le hbb hwb.size
  obtain ⟨L', hL'⟩ : ∃ L, t.length = L := ⟨_, rfl⟩
  rw [hL'] at HT B2 HW ⊢
  clear b1 b2 v3 hwb hW hr hr' hs hs' hcd hX hL0 hT0 h1 h00 hL'
  go_enter Tryz.func74, Tryz.ntmps74
  go_wp2_with fail
  rw [HW.out]
  refine (HDG.out _).mono ?_
  rintro e W1 ⟨rfl, hb1⟩
  have Y1 := Lib.hid (B1.out.keep hb1)
  have Y2 := Lib.hid (B2.out.keep hb1)
  have V1 := Lib.hid (V3.out.keep hb1)
  have HB1 := Lib.hid (below_step HB.out hb1)
  have HSZ1 : w.heap.size + 1 + 1 < W1.heap.size := (V3.out.keep hb1).lt
  have hcd2 := (hb1.cell (p := ⟨b, off + d, none⟩) hWb).trans hcd1
  have hW1b : b < W1.heap.size := Nat.lt_of_lt_of_le hWb hb1.size
  clear hb1 hcd1 HDG B1 B2 V3 HB
  obtain ⟨x1, x2, x3⟩ := Y1.out
  go_wp2
  go_cut [6] (fun s6 wx => ∃ g A1 c1 lo hi, s6 = .pointer (some ⟨g, 0, none⟩) ∧ VarC 55 wx g #[.int .i64 m, .int .i64 d, .slice A1 T0.length c1] ∧ OwnR wx lo hi (.slice A1 T0.length c1) T0 ∧ (g < lo ∨ hi ≤ g) ∧ W1.heap.size ≤ lo ∧ hi ≤ wx.heap.size ∧ Below W1.heap.size W1 wx ∧ W1.heap.size ≤ g)
  case first =>
    go_region_held3 (fun w' => (w'.cell? ⟨w.heap.size, 0, none⟩ = some (.int .i64 m) ∧ w'.cell? ⟨w.heap.size, 1, none⟩ = some (.slice (some ⟨b, off, none⟩) l.length c)) ∧ (w'.cell? ⟨b, off + d, none⟩ = some (.int .i64 X)) ∧ Below W1.heap.size W1 w') (first | exact bcb2 Y1.out hcd2 hW1b (below_drew0 _) | exact bcb2 Y1.out hcd2 hW1b hbel | exact bcb2 Y1.out hcd2 hW1b hka | exact bcb2 Y1.out hcd2 hW1b (below_alloc _ (trd (by assumption))) | exact bcb2 Y1.out hcd2 hW1b (below_alloc _ hbel) | exact bcb2 Y1.out hcd2 hW1b (below_alloc _ hka) | exact bcb2 Y1.out hcd2 hW1b (reg_finG hwg hgc hle hv hog hbel m d).2.2.2.2.2.1 | exact (by assumption)) (first
      | (go_at_call 72; refine (HMO.out _).mono ?_; rintro e wa ⟨sd, rfl, hod, hba⟩; obtain ⟨Ad, cd, rfl, hri⟩ := hod.form; obtain ⟨hka, hka2⟩ := reg_end (by assumption) hba)
      | (go_at_call 111; refine (HGS.out _ _ _ (by first | exact hri | exact hri.below (below_one _ _))).mono ?_; rintro e wd ⟨sg, rfl, hog, hbd⟩; obtain ⟨Ag, cg, rfl, -⟩ := hog.len; obtain ⟨hbel, hle⟩ := reg_end (by assumption) hbd; first | (refine use_it (varC_keep ((VarC.new 55 W1 _).drew.keep hba) hbd) ?_; rintro ⟨hv, hgc⟩; have hwg := varC_at (k := W1.heap.size) hv (Nat.le_refl _); obtain ⟨q0, q1, q2, q3, q4, q5⟩ := hv.tells3) | (refine use_it (varC_keep (VarC.new 55 _ _) hbd) ?_; rintro ⟨hv, hgc⟩; have hwg := varC_at (k := W1.heap.size) hv hka.size; obtain ⟨q0, q1, q2, q3, q4, q5⟩ := hv.tells3) | skip))
    all_goals
      go_wp2_with fail
      go_meet
      case rel => first | exact ⟨_, _, _, _, _, rfl, reg_newG hle hog hbel m d _⟩ | exact ⟨_, _, _, _, _, rfl, reg_finG hwg hgc hle hv hog hbel m d⟩
  case rest =>
    obtain ⟨w2, hwc⟩ : ∃ w9, w9 = wc := ⟨_, rfl⟩
    subst hwc
    obtain ⟨g7, A7, c7, lo7, hi7, rfl, v7, o7, hg7, hl7, hh7, hb7, hgw⟩ := hcut
    have hT0l : T0.length = d + 1 := by rw [HT0.out, Pl.hor_length]
    rw [hT0l] at v7 o7
    rw [HT0.out] at o7
    have O7 := Lib.hid o7
    have V7 := Lib.hid v7
    have B7 := Lib.hid hb7
    have G7 : Hid (g7 < lo7 ∨ hi7 ≤ g7) := Lib.hid hg7
    clear v7 o7 hb7 hg7 HMO HGS x1 x2 x3 hcd2 HT0 hT0l
    go_wp2
    go_loopw [7] (fun s7 wr => ∃ (j t0 : Nat) (I : Int) (A1 : Option Addr) (c1 lo hi : Nat), j + t0 = d ∧ I = (t0 : Int) - 1 ∧ s7 = .int .i64 I ∧ VarC 55 wr g7 #[.int .i64 m, .int .i64 d, .slice A1 (d + 1) c1] ∧ OwnR wr lo hi (.slice A1 (d + 1) c1) (Pl.hor m d l (Pl.pc t) (j + 1)) ∧ (g7 < lo ∨ hi ≤ g7) ∧ W1.heap.size ≤ lo ∧ hi ≤ wr.heap.size ∧ Below W1.heap.size W1 wr) (fun s7 _ => (intOf s7 + 1).toNat)
    case atStart => exact ⟨0, d, _, A7, c7, lo7, hi7, by omega, rfl, rfl, V7.out, O7.out, G7.out, hl7, hh7, B7.out⟩
    case round =>
      clear V7 O7 G7 B7 hl7 hh7
      obtain ⟨j, t0, I, A1, c1, lo, hi, hjt, hI, rfl, v1, o1, hg1, hl1, hh1, hb1⟩ := hrel
      have VV := Lib.hid v1
      have OO := Lib.hid o1
      have BB := Lib.hid hb1
      have VR := Lib.hid (V1.out.keep hb1)
      clear v1 o1 hb1
      rcases t0 with _ | i
      · obtain rfl : j = d := by omega
        obtain rfl : I = -1 := by omega
        clear hI hjt hg1
        obtain ⟨z3, z4, z5, -⟩ := VV.out.tells3
        obtain ⟨q0, q1, q2, q3, q4, q5⟩ := VR.out.tells3
        obtain ⟨f0, f1, f2, f3, f4⟩ := fin_grid (w := w) VR.out OO.out (.inl (by omega)) (by omega) hh1 (below_step HB1.out BB.out) (.int .i64 m) (.int .i64 j) (.slice A1 (j + 1) c1)
        have F3 := Lib.hid (f3.low (show w.heap.size ≤ lo by omega))
        have F4 := Lib.hid f4
        unfold set3 at f0 f1 f2
        clear f3 f4
        go_wp2
        exact bodyPost_ret (v := .agg #[.int .i64 m, .int .i64 j, .slice A1 (j + 1) c1]) (by simp [results, Tryz.results74, go_sem, f0, f1, f2]) rfl ⟨_, rfl, F3.out, F4.out⟩
      · obtain rfl : I = (i : Int) := by omega
        have hik : d - (j + 1) = i := by omega
        have hid : i ≤ d := by omega
        have HTK := Lib.hid (HT.out (j + 1) A1 c1 wr OO.out.rp (HR'.out.below (below_step HB1.out BB.out)))
        have hst := Pl.hor_stepP (m := m) (d := d) (l := l) (F := Pl.pc t) (j + 1) H00.out (by rw [hik]; exact (HS.out.red i).1) (by rw [hik]; exact (HS.out.red i).2)
        rw [hik] at hst
        obtain ⟨F, hF⟩ : ∃ F, Pl.mul2 (Pl.pc (Pl.hor m d l (Pl.pc t) (j + 1))) (Pl.pc t) = F := ⟨_, rfl⟩
        rw [hF] at HTK hst
        have HST := Lib.hid hst
        have HJT := Lib.hid hjt
        obtain ⟨z3, z4, z5, -⟩ := VV.out.tells3
        obtain ⟨y1, y2, y3, -⟩ := Y2.out.keep BB.out
        have hgr : g7 < wr.heap.size := VV.out.lt
        clear hI hst hF hik hjt hg1 hh1
        go_wp2_with fail
        refine HTK.out.mono ?_
        rintro e w3 ⟨v3, rfl, ho3, hb3⟩
        obtain ⟨g, cv, rfl⟩ := ho3.openv (by rw [Pl.tab_length]; omega)
        rw [Pl.tab_length] at ho3 ⊢
        clear z3 z4 z5 y1 y2 y3
        have v3 := VV.out.keep hb3
        obtain ⟨q0, q1, q2, q3, q4, q5⟩ := v3.tells3
        obtain ⟨X9, hX9⟩ : ∃ X9, set3 w3 g7 (.int .i64 m) (.int .i64 d) (.slice (some ⟨g, 0, none⟩) (d + 1) cv) = X9 := ⟨_, rfl⟩
        obtain ⟨f0, f1, f2, ox, bx⟩ := fin_grid (w := W1) v3 ho3 (.inl hgr) hgw (Nat.le_refl _) (below_step BB.out hb3) (.int .i64 m) (.int .i64 d) (.slice (some ⟨g, 0, none⟩) (d + 1) cv)
        have vx := v3.set3 (.int .i64 m) (.int .i64 d) (.slice (some ⟨g, 0, none⟩) (d + 1) cv)
        rw [hX9] at f0 f1 f2 ox bx vx
        obtain ⟨b4, c4, h1, h2, h3, h4, hcel⟩ := ox.numB 0 0 (d + 1) (by rw [Pl.tab_length]; omega) (by rw [Pl.tab_row m d _ 0 (by omega), Ser.cut_length]; omega) (by omega)
        obtain ⟨k4, k5, k6, k7⟩ := hcel X9.drew (below_drew0 X9)
        obtain ⟨b', off', hbe, hbb', hci⟩ := (HR.out.below (below_step HB1.out bx)).at i (by have := HS.out.len; omega)
        injection hbe with hbe
        injection hbe with hbe1 hbe2
        subst hbe1 hbe2
        obtain ⟨Z, hZ⟩ : ∃ Z, Ser.co l i = Z := ⟨_, rfl⟩
        have hst := HST.out
        rw [hZ] at hci hst
        have h8 := k7 Z
        rw [hst] at h8
        have hwr := BB.out.size
        have ne2 : b4 ≠ g7 := by omega
        have V9 := Lib.hid (vx.far b4 0 (.int .i64 Z) ne2)
        have BX := Lib.hid (bx.drew.setCell (p := ⟨b4, 0, none⟩) (show W1.heap.size ≤ b4 by omega) (.int .i64 Z))
        have HO2 := Lib.hid (h8.more (show X9.heap.size ≤ (X9.drew.setCell ⟨b4, 0, none⟩ (.int .i64 Z)).heap.size by show X9.heap.size ≤ (X9.heap.modify _ _).size; simp))
        have HHS : Hid ((X9.drew.setCell ⟨b4, 0, none⟩ (.int .i64 Z)).heap.size ≤ (X9.drew.setCell ⟨b4, 0, none⟩ (.int .i64 Z)).heap.size) := Lib.hid (Nat.le_refl _)
        obtain ⟨x5, x6, -⟩ := Y1.out.keep bx
        have j0 : (0 : Int) ≤ (i : Int) := by omega
        have j1 : (i : Int) < (l.length : Int) := by have := HS.out.len; have := HJT.out; omega
        have j2 : (0 : Int) < (d : Int) + 1 := by omega
        unfold set3 at hX9
        have HX := Lib.hid hX9
        clear ho3 hb3 v3 vx ox bx hZ hst hcel k7 h8 h1 h2 h3 h4 ne2 hX9 hbb'
        go_upto_region 7 with fail
        rw [HX.out]
        clear HX q0 q1 q2 q3 q4 q5
        go_still_tail 10, (by kernel_rfl)
        change wpList _ _ _ _ _ X9.drew
        go_wp2
        go_roundw
        case rel => exact ⟨j + 1, i, _, _, cv, wr.heap.size, _, by have := HJT.out; omega, rfl, by first | rfl | go_num, V9.out, HO2.out, .inl hgr, hwr, HHS.out, BX.out⟩
        case measure => simp only [intOf]; omega
end Go.Proofs.YtfhdgcndiljjcabGreat

