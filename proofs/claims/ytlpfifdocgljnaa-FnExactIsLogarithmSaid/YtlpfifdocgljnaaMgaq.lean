/- Texts of contracts, joined. -/
import Derived.Test.YtlpfifdocgljnaaMgap
import Derived.Test.YtlpfifdocgljnaaMgac
import Derived.Test.YtlpfifdocgljnaaMgag
import Derived.Test.YtlpfifdocgljnaaMgam
/- Plain facts: what passages make of x + y; the table a(x) + a(y). -/
namespace Go.Proofs.Ytlpfifdocgljnaa
open Go.RowKit

namespace Ser
theorem psum_two (f : Nat → Int) (h : ∀ i, 2 ≤ i → f i = 0) : ∀ n, psum f (n + 2) = f 0 + f 1
  | 0 => by show psum f 0 + f 0 + f 1 = _; show (0 : Int) + f 0 + f 1 = _; omega
  | n + 1 => by show psum f (n + 2) + f (n + 2) = _; rw [psum_two f h n, h (n + 2) (by omega)]; omega
end Ser
/-- a(x) + a(y) -/
def sumF (l : List Int) : Nat → Nat → Int := fun i j => if i = 0 then (if j = 0 then 0 else Ser.co l j) else (if j = 0 then Ser.co l i else 0)
/-- what the model's loop has written: the coefficients below k -/
def sumP (l : List Int) (k : Nat) : Nat → Nat → Int := fun i j => if i = 0 ∧ 0 < j ∧ j < k then Ser.co l j else if j = 0 ∧ 0 < i ∧ i < k then Ser.co l i else 0
/-- one number more: the first column's -/
def sumQ (l : List Int) (k : Nat) : Nat → Nat → Int := fun i j => if j = 0 ∧ i = k then Ser.co l k else sumP l k i j
theorem sumP_one (m : Int) (d : Nat) (l : List Int) : Pl.tab m d (sumP l 1) = Pl.tab m d fun _ _ => 0 := Pl.tab_congr (Pl.Eq.of m d (fun i j _ => by unfold sumP; rw [if_neg (by omega), if_neg (by omega)]))
theorem sumP_end (m : Int) (d : Nat) (l : List Int) : Pl.tab m d (sumP l (d + 1)) = Pl.tab m d (sumF l) := Pl.tab_congr (Pl.Eq.of m d (fun i j h => by
  unfold sumP sumF
  by_cases hi : i = 0
  · by_cases hj : j = 0
    · rw [if_neg (by omega), if_neg (by omega), if_pos hi, if_pos hj]
    · rw [if_pos (by omega), if_pos hi, if_neg hj]
  · by_cases hj : j = 0
    · rw [if_neg (by omega), if_pos (by omega), if_neg hi, if_pos hj]
    · rw [if_neg (by omega), if_neg (by omega), if_neg hi, if_neg hj]))
theorem sumP_step1 {m : Int} {d : Nat} {l : List Int} (hs : SerOk m d l) (k : Nat) (h : k ≤ d) : (Pl.tab m d (sumP l k)).set k ((Pl.rw' (Pl.tab m d (sumP l k)) k).set 0 (Ser.co l k)) = Pl.tab m d (sumQ l k) := by
  refine Pl.tab_put (by omega) ?_ (fun i j _ hne => ?_)
  · unfold sumQ
    rw [if_pos ⟨rfl, rfl⟩, Int.emod_eq_of_lt (hs.red k).1 (hs.red k).2]
  · unfold sumQ
    rw [if_neg (by omega)]
theorem sumP_step2 {m : Int} {d : Nat} {l : List Int} (hs : SerOk m d l) (k : Nat) (h0 : 0 < k) (h : k ≤ d) : (Pl.tab m d (sumQ l k)).set 0 ((Pl.rw' (Pl.tab m d (sumQ l k)) 0).set k (Ser.co l k)) = Pl.tab m d (sumP l (k + 1)) := by
  refine Pl.tab_put (by omega) ?_ (fun i j _ hne => ?_)
  · unfold sumP
    rw [if_pos ⟨rfl, h0, by omega⟩, Int.emod_eq_of_lt (hs.red k).1 (hs.red k).2]
  · unfold sumQ sumP
    by_cases hq : j = 0 ∧ i = k
    · obtain ⟨rfl, rfl⟩ := hq
      rw [if_neg (by omega), if_pos ⟨rfl, h0, by omega⟩, if_pos ⟨rfl, rfl⟩]
    · rw [if_neg hq]
      by_cases h1 : i = 0 ∧ 0 < j ∧ j < k
      · rw [if_pos h1, if_pos (by omega)]
      · rw [if_neg h1, if_neg (by omega)]
        by_cases h2 : j = 0 ∧ 0 < i ∧ i < k
        · rw [if_pos h2, if_pos (by omega)]
        · rw [if_neg h2, if_neg (by omega)]
theorem sum_ok {m : Int} {d : Nat} {l : List Int} (hs : SerOk m d l) : Pl.Ok m d (Pl.tab m d (sumF l)) := Pl.Ok.of_tab hs.m1 hs.m2 hs.d1 hs.d2 _
theorem sum_00 (m : Int) (d : Nat) (l : List Int) : Pl.pc (Pl.tab m d (sumF l)) 0 0 = 0 := by rw [Pl.pc_tab (by omega)]; rfl
/-- the coefficients of x + y -/
theorem lin_co {m : Int} {d : Nat} (m1 : 2 ≤ m) (k : Nat) (hk : k ≤ d) : Ser.co (Pl.lin m d 1) k = if k = 1 then 1 else 0 := by
  unfold Pl.lin
  rw [Ser.co_cut hk]
  unfold Ser.mon
  by_cases h1 : k = 1
  · rw [if_pos h1]; exact Int.emod_eq_of_lt (by omega) (by omega)
  · rw [if_neg h1]; exact Int.zero_emod m
theorem gos_x {m : Int} {d : Nat} (m1 : 2 ≤ m) (i j : Nat) (h : i + j ≤ d) : gosF (Pl.lin m d 1) 0 i j = if i = 1 ∧ j = 0 then 1 else 0 := by
  unfold gosF
  rw [if_pos rfl]
  by_cases hj : j = 0
  · rw [if_pos hj, lin_co m1 i (by omega)]
    by_cases hi : i = 1
    · rw [if_pos hi, if_pos ⟨hi, hj⟩]
    · rw [if_neg hi, if_neg (fun e => hi e.1)]
  · rw [if_neg hj, if_neg (fun e => hj e.2)]
theorem gos_y {m : Int} {d : Nat} (m1 : 2 ≤ m) (i j : Nat) (h : i + j ≤ d) : gosF (Pl.lin m d 1) 1 i j = if i = 0 ∧ j = 1 then 1 else 0 := by
  unfold gosF
  rw [if_neg (show ¬ ((1 : Int) = 0) by omega)]
  by_cases hi : i = 0
  · rw [if_pos hi, lin_co m1 j (by omega)]
    by_cases hj : j = 1
    · rw [if_pos hj, if_pos ⟨hi, hj⟩]
    · rw [if_neg hj, if_neg (fun e => hj e.2)]
  · rw [if_neg hi, if_neg (fun e => hi e.1)]
theorem xy_pc {m : Int} {d : Nat} (m1 : 2 ≤ m) (d1 : 1 ≤ d) (i j : Nat) : Pl.pc (xyT m d) i j = if (i = 1 ∧ j = 0) ∨ (i = 0 ∧ j = 1) then 1 else 0 := by
  unfold xyT
  have e1 : (1 : Int) % m = 1 := Int.emod_eq_of_lt (by omega) (by omega)
  by_cases h : i + j ≤ d
  · rw [Pl.pc_tab h, Pl.pc_tab h, Pl.pc_tab h, gos_x m1 i j h, gos_y m1 i j h]
    by_cases h1 : i = 1 ∧ j = 0
    · rw [if_pos h1, if_neg (by omega), if_pos (.inl h1), e1, Int.zero_emod]; exact e1
    · by_cases h2 : i = 0 ∧ j = 1
      · rw [if_neg h1, if_pos h2, if_pos (.inr h2), e1, Int.zero_emod]; exact e1
      · rw [if_neg h1, if_neg h2, if_neg (fun e => e.elim h1 h2), Int.zero_emod]; exact Int.zero_emod m
  · rw [Pl.pc_over (by omega), if_neg (by omega)]
theorem sum_botT {m : Int} {d : Nat} {l : List Int} (hs : SerOk m d l) (hz : Ser.co l 0 = 0) : Pl.botT m d (Pl.pc (xyT m d)) l l = Pl.tab m d (sumF l) := by
  have m1 := hs.m1
  have d1 := hs.d1
  unfold Pl.botT
  refine Pl.tab_congr (Pl.Eq.of m d (fun p q _ => ?_))
  have p0 : ∀ n, Ser.pw (Ser.co l) 0 n = if n = 0 then 1 else 0 := fun n => rfl
  have p1 : ∀ n, Ser.pw (Ser.co l) 1 n = Ser.co l n := fun n => by
    show Ser.cv n (Ser.pw (Ser.co l) 0) (Ser.co l) = _
    rw [show Ser.pw (Ser.co l) 0 = Ser.mon 0 1 from rfl, Ser.cv_const]
    omega
  obtain ⟨e, rfl⟩ : ∃ e, d = e + 1 := ⟨d - 1, by omega⟩
  unfold Pl.subB
  rw [show e + 1 + 1 = e + 2 from rfl]
  rw [Ser.psum_two _ (fun i hi => by
    refine (Ser.psum_low _ _ (fun j _ => ?_))
    rw [xy_pc m1 d1, if_neg (by omega), Int.zero_mul])]
  rw [Ser.psum_two _ (fun j hj => by rw [xy_pc m1 d1, if_neg (by omega), Int.zero_mul]), Ser.psum_two _ (fun j hj => by rw [xy_pc m1 d1, if_neg (by omega), Int.zero_mul])]
  have x00 : Pl.pc (xyT m (e + 1)) 0 0 = 0 := by rw [xy_pc m1 d1]; exact if_neg (by omega)
  have x01 : Pl.pc (xyT m (e + 1)) 0 1 = 1 := by rw [xy_pc m1 d1]; exact if_pos (by omega)
  have x10 : Pl.pc (xyT m (e + 1)) 1 0 = 1 := by rw [xy_pc m1 d1]; exact if_pos (by omega)
  have x11 : Pl.pc (xyT m (e + 1)) 1 1 = 0 := by rw [xy_pc m1 d1]; exact if_neg (by omega)
  simp only [x00, x01, x10, x11, p0, p1]
  unfold sumF
  by_cases hp : p = 0
  · by_cases hq : q = 0
    · simp [hp, hq, hz]
    · simp [hp, hq, hz]
  · by_cases hq : q = 0
    · simp [hp, hq, hz]
    · simp [hp, hq]
theorem acr_log {m : Int} {d : Nat} {l : List Int} (hs : SerOk m d l) (hz : Ser.co l 0 = 0) (A : Option Addr) (c : Nat) : acrT m d [(true, A, c, l)] = Pl.tab m d (sumF l) := sum_botT hs hz
theorem acr_both {m : Int} {d : Nat} {l : List Int} (hs : SerOk m d l) (hz : Ser.co l 0 = 0) (A A' : Option Addr) (c c' : Nat) (r : List Int) : acrT m d [(true, A, c, l), (false, A', c', r)] = Pl.hor m d r (Pl.pc (Pl.tab m d (sumF l))) (d + 1) := by
  have h := acr_log hs hz A c
  unfold acrT at h ⊢
  rw [← h]
  rfl
end Go.Proofs.Ytlpfifdocgljnaa

/- Contract of l05Sum, of the model. -/
namespace Go.Proofs.Ytlpfifdocgljnaa
open Go.RowKit Go.WideShapes Go.ChangeShapes Go.ChangeAt

set_option maxHeartbeats 8000000 in
set_option maxRecDepth 100000 in
theorem l05Sum_any (m : Int) (d : Nat) (A : Option Addr) (c : Nat) (l : List Int) (w : World) (hs : SerOk m d l) (hr : RI w A l) :
    Calls Try.prog 29 #[.int .i64 m, .slice A l.length c] w fun e w' => ∃ v, e = .returned v ∧ OwnR w' w.heap.size w'.heap.size v (Pl.tab m d (sumF l)) ∧ Below w.heap.size w w' := by
  have HR := Lib.hid hr
  have OK := Lib.hid hs
  have hd1 := hs.d1
  have hd2 := hs.d2
  have HZ := Lib.hid (fun W0 => l03Zero_any m d W0 (by omega))
  obtain ⟨L, hL⟩ : ∃ L, l.length = L := ⟨_, rfl⟩
  have HL := Lib.hid (hL.symm.trans hs.len)
  have HLL := Lib.hid hL
  have hLb : L ≤ 11 := by have := HL.out; omega
  rw [hL]
  have hw1 : IntKind.i64.wrap ((L : Int) - 1) = (d : Int) := by rw [IntKind.wrap_i64] <;> (have := HL.out; omega)
  clear hr hs hL
  go_enter Try.func29, Try.ntmps29
  go_wp2_with fail
  refine (HZ.out _).mono ?_
  rintro e w1 ⟨v, rfl, ho, hb1⟩
  rw [← sumP_one m d l] at ho
  obtain ⟨g, cv, rfl⟩ := ho.openv (by rw [Pl.tab_length]; omega)
  rw [Pl.tab_length] at ho ⊢
  have HO1 := Lib.hid ho
  have HB1 := Lib.hid hb1
  clear ho hb1 hw1
  go_wp2
  go_loopw [6] (fun i wr => ∃ q : Nat, 1 ≤ q ∧ q ≤ L ∧ i = .int .i64 q ∧ OwnR wr w.heap.size wr.heap.size (.slice (some ⟨g, 0, none⟩) (d + 1) cv) (Pl.tab m d (sumP l q)) ∧ Below w.heap.size w wr) (fun i _ => L - (intOf i).toNat)
  case atStart => exact ⟨1, Nat.le_refl _, by have := HL.out; omega, rfl, HO1.out, HB1.out⟩
  case round =>
    clear HO1 HB1
    obtain ⟨q, hq1, hq, rfl, hown, hbel⟩ := hrel
    have HO := Lib.hid hown
    have HB := Lib.hid hbel
    by_cases hlt : q < L
    · have hLd := HL.out
      obtain ⟨b, off, rfl, hb, hc⟩ := HR.out.at q (by rw [OK.out.len]; omega)
      have hc1 := ((hbel.drew).cell (p := ⟨b, off + q, none⟩) hb).trans hc
      have hst := sumP_step1 OK.out q (by omega)
      have hst2 := sumP_step2 OK.out q (by omega) (by omega)
      obtain ⟨X, hX⟩ : ∃ X, Ser.co l q = X := ⟨_, rfl⟩
      rw [hX] at hc1 hst hst2 hc
      obtain ⟨b2, c2, g1, g2, g3, g4, hcel⟩ := HO.out.numB q 0 (d - q + 1) (by rw [Pl.tab_length]; omega) (by rw [Pl.tab_row m d _ q (by omega), Ser.cut_length]) (by omega)
      obtain ⟨c4, c5, c6, c7⟩ := hcel wr.drew (below_drew0 wr)
      have h8 := (hcel wr (Below.refl _ _)).2.2.2 X
      rw [hst] at h8
      have h8 : OwnR (wr.setCell ⟨b2, 0, none⟩ (.int .i64 X)).drew w.heap.size wr.heap.size (.slice (some ⟨g, 0, none⟩) (d + 1) cv) (Pl.tab m d (sumQ l q)) := h8
      obtain ⟨W1, hW1⟩ : ∃ W1, (wr.setCell ⟨b2, 0, none⟩ (.int .i64 X)).drew = W1 := ⟨_, rfl⟩
      have hbw : Below w.heap.size w W1 := by rw [← hW1]; exact (hbel.setCell (p := ⟨b2, 0, none⟩) (by show w.heap.size ≤ b2; omega) (.int .i64 X)).drew
      have hsz : wr.heap.size ≤ W1.heap.size := by rw [← hW1]; show wr.heap.size ≤ (wr.heap.modify _ _).size; simp
      rw [hW1] at h8
      have ho2 := h8.more hsz
      obtain ⟨b3, c3, e1, e2, e3, e4, hcel3⟩ := ho2.numB 0 q (d + 1) (by rw [Pl.tab_length]; omega) (by rw [Pl.tab_row m d _ 0 (by omega), Ser.cut_length]; omega) (by omega)
      obtain ⟨f4, f5, f6, f7⟩ := hcel3 W1.drew (below_drew0 W1)
      have hc3 := ((hbw.drew).cell (p := ⟨b, off + q, none⟩) hb).trans hc
      have h9 := f7 X
      rw [hst2] at h9
      have HO2 := Lib.hid (h9.more (show W1.heap.size ≤ (W1.drew.setCell ⟨b3, q, none⟩ (.int .i64 X)).heap.size by show W1.heap.size ≤ (W1.heap.modify _ _).size; simp))
      have HB2 := Lib.hid ((hbw.drew).setCell (p := ⟨b3, q, none⟩) (by show w.heap.size ≤ b3; omega) (.int .i64 X))
      have HW1 := Lib.hid hW1
      obtain ⟨M, hM⟩ : ∃ M, d - q + 1 = M := ⟨_, rfl⟩
      rw [hM] at c4
      have i0 : (0 : Int) ≤ (q : Int) := by omega
      have i1 : (q : Int) < (L : Int) := by omega
      have i2 : (q : Int) < (d : Int) + 1 := by omega
      have i3 : (0 : Int) < (M : Int) := by omega
      have i4 : 0 < M := by omega
      have i5 : (0 : Int) < (d : Int) + 1 := by omega
      clear hc hX hst hst2 hcel c7 h8 hM hown hbel hLd hW1 hbw ho2 hcel3 f7 h9 hsz g1 g2 g3 g4 e1 e2 e3 e4
      go_upto_region 5 with fail
      go_still_tail 9, (by kernel_rfl)
      change wpList _ _ _ _ _ wr.drew
      go_upto_region 6 with fail
      rw [HW1.out]
      go_still_tail 9, (by kernel_rfl)
      change wpList _ _ _ _ _ W1.drew
      go_wp2
      go_roundw
      case rel => exact ⟨q + 1, by omega, by omega, by go_num, HO2.out, HB2.out⟩
      case measure => simp only [intOf]; omega
    · obtain rfl : q = L := by omega
      have i1 : ¬ ((q : Int) < (q : Int)) := by omega
      have hse := sumP_end m d l
      have hq2 : q = d + 1 := HL.out
      rw [← hq2] at hse
      have HSE := Lib.hid hse
      clear hse hq2
      go_wp2
      go_ret
      exact ⟨_, rfl, by rw [← HSE.out]; exact HO.out, HB.out⟩
end Go.Proofs.Ytlpfifdocgljnaa

/- Contracts of PlaneOfSeries, of the program and of the model. -/
namespace Go.Proofs.Ytlpfifdocgljnaa
open Go.RowKit Go.WideShapes Go.ChangeShapes Go.ChangeAt

/-- the model of PlaneOfSeries -/
def posP (m : Int) (l : List Int) (k : Int) : Int × List (List Int) × Int :=
  if isS m l = true then (if inB k 0 1 = true then (m, Pl.tab m (l.length - 1) (gosF l k), 0) else (0, [], 2)) else (0, [], 1)
theorem ok_ser {m : Int} {d : Nat} {l : List Int} (h : SerOk m d l) (f : Nat → Nat → Int) : Pl.Ok m d (Pl.tab m d f) := Pl.Ok.of_tab h.m1 h.m2 h.d1 h.d2 f
theorem posP_len (m : Int) (l : List Int) (k : Int) : szT (posP m l k).2.1 ≤ 1048576 := by
  unfold posP
  by_cases h : isS m l = true
  · rw [if_pos h]
    obtain ⟨d, e, s⟩ := serOk_of h
    rw [e]
    by_cases hk : inB k 0 1 = true
    · rw [if_pos hk]; exact szT_ok (ok_ser s _)
    · rw [if_neg hk]; exact Nat.zero_le _
  · rw [if_neg h]; exact Nat.zero_le _
/-- a series' box, a plane's variable, the list of the one series -/
theorem pro1T (w : World) (m : Int) (A : Option Addr) (n c : Nat) : ∃ W, ((w.alloc (.cells #[.int .i64 m, .slice A n c] 34)).alloc (.cells #[.int .i64 0, .slice none 0 0] 32)).alloc (.cells #[.int .i64 m, .slice A n c] 34) = W ∧
    Box W w.heap.size m A n c ∧ VarC 32 W (w.heap.size + 1) #[.int .i64 0, .slice none 0 0] ∧ Box W (w.heap.size + 1 + 1) m A n c ∧ Below w.heap.size w W := by
  refine ⟨_, rfl, ((Box.newT _ _ _ _ _ _).keep (below_one _ _)).keep (below_one _ _), ?_, ?_, below_alloc _ (below_alloc _ (below_one _ _))⟩
  · have := (VarC.new 32 (w.alloc (.cells #[.int .i64 m, .slice A n c] 34)) #[.int .i64 0, .slice none 0 0]).keep (below_one _ (.cells #[.int .i64 m, .slice A n c] 34))
    simpa using this
  · have := Box.newT 34 ((w.alloc (.cells #[.int .i64 m, .slice A n c] 34)).alloc (.cells #[.int .i64 0, .slice none 0 0] 32)) m A n c
    simpa using this
theorem spro1T (w : World) (m : Int) (A : Option Addr) (n c : Nat) : ∃ W, (w.alloc (.cells #[.int .i64 m, .slice A n c] 34)).alloc (.cells #[.int .i64 0, .slice none 0 0] 32) = W ∧
    Box W w.heap.size m A n c ∧ VarC 32 W (w.heap.size + 1) #[.int .i64 0, .slice none 0 0] ∧ Below w.heap.size w W := by
  refine ⟨_, rfl, (Box.newT _ _ _ _ _ _).keep (below_one _ _), ?_, below_alloc _ (below_one _ _)⟩
  have := VarC.new 32 (w.alloc (.cells #[.int .i64 m, .slice A n c] 34)) #[.int .i64 0, .slice none 0 0]
  simpa using this
end Go.Proofs.Ytlpfifdocgljnaa

/- Contracts of LawOfCurve, of the model. -/
namespace Go.Proofs.Ytlpfifdocgljnaa
open Go.RowKit Go.WideShapes Go.ChangeShapes Go.ChangeAt

/-- the table of the law of a curve -/
def lawT (m : Int) (d : Nat) (l : List Int) : List (List Int) := Pl.hor m d (revL m l) (Pl.pc (Pl.tab m d (sumF l))) (d + 1)
theorem lawT_ok {m : Int} {d : Nat} {l : List Int} (hs : SerOk m d l) : Pl.Ok m d (lawT m d l) := Pl.hor_ok hs.m1 hs.m2 hs.d1 hs.d2 _ _ _
/-- the model of LawOfCurve -/
def locM (m : Int) (l : List Int) : Int × List (List Int) × Int :=
  if isS m l = true then (if Ser.co l 0 = 0 ∧ gcdI (Ser.co l 1) m = 1 then (m, lawT m (l.length - 1) l, 0) else (0, [], 5)) else (0, [], 1)
theorem locM_len (m : Int) (l : List Int) : szT (locM m l).2.1 ≤ 1048576 := by
  unfold locM
  by_cases h : isS m l = true
  · rw [if_pos h]
    obtain ⟨d, e, s⟩ := serOk_of h
    by_cases hk : Ser.co l 0 = 0 ∧ gcdI (Ser.co l 1) m = 1
    · rw [if_pos hk, e]; exact szT_ok (lawT_ok s)
    · rw [if_neg hk]; exact Nat.zero_le _
  · rw [if_neg h]; exact Nat.zero_le _
set_option maxHeartbeats 4000000 in
set_option maxRecDepth 100000 in
theorem l05Law_any (m : Int) (d : Nat) (A : Option Addr) (c : Nat) (l : List Int) (w : World) (hs : SerOk m d l) (hz : Ser.co l 0 = 0) (hr : RI w A l) :
    Calls Try.prog 43 #[.int .i64 m, .slice A l.length c] w fun e w' => ∃ v, e = .returned v ∧ OwnR w' w.heap.size w'.heap.size v (lawT m d l) ∧ Below w.heap.size w w' := by
  have hd1 := hs.d1
  have hd2 := hs.d2
  have hw1 : IntKind.i64.wrap ((l.length : Int) - 1) = (d : Int) := by rw [IntKind.wrap_i64] <;> (have := hs.len; omega)
  have HRV := Lib.hid (l02Reverse_any m d A c l w hs hr hz)
  have hrl : Ser.revC m (egI m (Ser.co l 1)).2 (Ser.co l) (d - 1) = revL m l := by unfold revL; rw [hs.len]; rfl
  rw [hrl] at HRV
  have HSM := Lib.hid (fun W0 (h : Below w.heap.size w W0) => l05Sum_any m d A c l W0 hs (hr.below h))
  have hro := revL_ok hs
  have HAF := Lib.hid (fun (A1 : Option Addr) (c1 : Nat) (A2 : Option Addr) (c2 : Nat) (W0 : World) (h1 : RI W0 A1 (revL m l)) (h2 : RP W0 A2 (Pl.tab m d (sumF l))) => l03After_any m d A1 c1 (revL m l) A2 c2 (Pl.tab m d (sumF l)) W0 hro (sum_ok hs) h1 h2)
  rw [show Pl.hor m d (revL m l) (Pl.pc (Pl.tab m d (sumF l))) (d + 1) = lawT m d l from rfl] at HAF
  obtain ⟨R, hR⟩ : ∃ R, revL m l = R := ⟨_, rfl⟩
  obtain ⟨S, hS⟩ : ∃ S, Pl.tab m d (sumF l) = S := ⟨_, rfl⟩
  obtain ⟨T, hT⟩ : ∃ T, lawT m d l = T := ⟨_, rfl⟩
  rw [hR, hS, hT] at HAF
  rw [hR] at HRV
  rw [hS] at HSM
  rw [hT]
  clear hrl hro hR hS hT hs hr
  go_enter Try.func43, Try.ntmps43
  go_wp2_with fail
  refine HRV.out.mono ?_
  rintro e w1 ⟨v1, rfl, ho1, hb1⟩
  obtain ⟨A1, c1, rfl, -⟩ := ho1.form
  go_wp2_with fail
  refine (HSM.out _ hb1).mono ?_
  rintro e w2 ⟨v2, rfl, ho2, hb2⟩
  obtain ⟨A2, c2, rfl, -⟩ := ho2.len
  go_wp2_with fail
  refine (HAF.out _ _ _ _ _ (ho1.ri.below hb2) ho2.rp).mono ?_
  rintro e w3 ⟨v3, rfl, ho3, hb3⟩
  have HO := Lib.hid (ho3.low (show w.heap.size ≤ w2.heap.size from (below_step hb1 hb2).size))
  have HB := Lib.hid (below_step (below_step hb1 hb2) hb3)
  clear ho1 ho2 ho3 hb1 hb2 hb3
  go_wp2
  go_ret
  exact ⟨_, rfl, HO.out, HB.out⟩
end Go.Proofs.Ytlpfifdocgljnaa

