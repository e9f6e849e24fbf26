/- Texts of contracts, joined. -/
import Derived.Test.YtfhdgcndiljjcabGreatMgat
import Derived.Test.YtfhdgcndiljjcabGreatMgas
import Derived.Test.YtfhdgcndiljjcabGreatMgaq
import Derived.Test.YtfhdgcndiljjcabGreatMgab
import Derived.Test.YtfhdgcndiljjcabGreatMgaa
/- Contract of l09Law: the model's typical laws, found degree by degree. -/
namespace Go.Proofs.YtfhdgcndiljjcabGreat
open Go.RowKit Go.WideShapes Go.ChangeShapes Go.ChangeAt
namespace Pl
def xyF : Nat → Nat → Int := fun i j => (if i = 0 ∧ j = 1 then 1 else 0) + (if i = 1 ∧ j = 0 then 1 else 0)
theorem sub2_congr {m : Int} {d : Nat} {F G : Nat → Nat → Int} (h : Eq m d F G) (q : Nat) : Eq m d (sub2 F q) (sub2 G q) := fun i j hij => by
  unfold sub2 sub1
  rw [Int.sub_sub, Int.sub_sub]
  exact Int.emod_sub_cancel_right _ |>.2 (h i j hij)
theorem psum_cong {m : Int} {f g : Nat → Int} : ∀ k, (∀ i, i < k → f i % m = g i % m) → Ser.psum f k % m = Ser.psum g k % m
  | 0, _ => rfl
  | k + 1, h => Ser.add_cong (psum_cong k (fun i hi => h i (by omega))) (h k (by omega))
theorem restF_congr {W : Int} {n : Nat} {F G : Nat → Nat → Int} (h : Eq W n F G) (p N : Nat) (A : Nat → Int) (k : Nat) : Eq W n (restF p N A F k) (restF p N A G k) := fun i j hij =>
  psum_cong k (fun _ _ => Ser.mul_cong rfl (sub2_congr (pwF_congr h _) _ i j hij))
/-- what is due at x^i y^j, by the sum so far -/
def dueF (p N : Nat) (top W : Int) (A : Nat → Int) (F : Nat → Nat → Int) (i j : Nat) : Int := (-(restF p N A F (N + 1) i j % W / top)) % W
/-- the law up to the degree k + 1 -/
def lwF (p N : Nat) (top W : Int) (A : Nat → Int) : Nat → Nat → Nat → Int
  | 0 => xyF
  | k + 1 => fun i j => if i + j = k + 2 ∧ 1 ≤ i ∧ 1 ≤ j then dueF p N top W A (lwF p N top W A k) i j else lwF p N top W A k i j
/-- and in the next degree those with i below q -/
def lwP (p N : Nat) (top W : Int) (A : Nat → Int) (k q : Nat) : Nat → Nat → Int :=
  fun i j => if i + j = k + 2 ∧ 1 ≤ i ∧ 1 ≤ j ∧ i < q then dueF p N top W A (lwF p N top W A k) i j else lwF p N top W A k i j
theorem lwP_one (p N : Nat) (top W : Int) (A : Nat → Int) (k : Nat) : lwP p N top W A k 1 = lwF p N top W A k := by
  funext i j; unfold lwP; rw [if_neg (by omega)]
theorem lwP_all (p N : Nat) (top W : Int) (A : Nat → Int) (k : Nat) : lwP p N top W A k (k + 2) = lwF p N top W A (k + 1) := by
  funext i j
  show (if _ then _ else _) = (if _ then _ else _)
  by_cases h : i + j = k + 2 ∧ 1 ≤ i ∧ 1 ≤ j
  · rw [if_pos ⟨h.1, h.2.1, h.2.2, by omega⟩, if_pos h]
  · rw [if_neg (fun e => h ⟨e.1, e.2.1, e.2.2.1⟩), if_neg h]
theorem lwP_at (p N : Nat) (top W : Int) (A : Nat → Int) (k q : Nat) (h1 : 1 ≤ q) (h2 : q < k + 2) : lwP p N top W A k (q + 1) q (k + 2 - q) = dueF p N top W A (lwF p N top W A k) q (k + 2 - q) := if_pos ⟨by omega, h1, by omega, by omega⟩
theorem lwP_ne (p N : Nat) (top W : Int) (A : Nat → Int) (k q i j : Nat) (h : ¬ (i = q ∧ j = k + 2 - q)) : lwP p N top W A k (q + 1) i j = lwP p N top W A k q i j := by
  unfold lwP
  by_cases h1 : i + j = k + 2 ∧ 1 ≤ i ∧ 1 ≤ j ∧ i < q
  · rw [if_pos h1, if_pos ⟨h1.1, h1.2.1, h1.2.2.1, by omega⟩]
  · rw [if_neg h1, if_neg (fun e => h1 ⟨e.1, e.2.1, e.2.2.1, by omega⟩)]
/-- the rows below j reduced -/
def mixT (m W : Int) (d : Nat) (f : Nat → Nat → Int) (j : Nat) : List (List Int) := (List.range (d + 1)).map fun i => if i < j then Ser.cut m (d - i) (f i) else Ser.cut W (d - i) (f i)
theorem mixT_length (m W : Int) (d : Nat) (f : Nat → Nat → Int) (j : Nat) : (mixT m W d f j).length = d + 1 := by simp [mixT]
theorem mixT_zero (m W : Int) (d : Nat) (f : Nat → Nat → Int) : mixT m W d f 0 = tab W d f := List.map_congr_left (fun i _ => if_neg (by omega))
theorem mixT_all (m W : Int) (d : Nat) (f : Nat → Nat → Int) : mixT m W d f (d + 1) = tab m d f := List.map_congr_left (fun i hi => if_pos (by have := List.mem_range.1 hi; omega))
theorem mixT_row (m W : Int) (d : Nat) (f : Nat → Nat → Int) (j : Nat) (h : j ≤ d) : rw' (mixT m W d f j) j = Ser.cut W (d - j) (f j) := by
  unfold rw' mixT
  rw [List.getElem?_map, List.getElem?_range (by omega)]
  show (if j < j then _ else _) = _
  rw [if_neg (by omega)]
theorem mixT_set (m W : Int) (d : Nat) (f : Nat → Nat → Int) (j : Nat) (h : j ≤ d) : (mixT m W d f j).set j (Ser.cut m (d - j) (f j)) = mixT m W d f (j + 1) := by
  apply List.ext_getElem?
  intro i
  unfold mixT
  rw [List.getElem?_set, List.length_map, List.length_range, List.getElem?_map, List.getElem?_map]
  by_cases hi : i < d + 1
  · rw [List.getElem?_range hi]
    by_cases hij : j = i
    · subst hij
      rw [if_pos rfl, if_pos (by omega)]
      show some _ = some (if j < j + 1 then _ else _)
      rw [if_pos (by omega)]
    · rw [if_neg hij]
      show some (if i < j then _ else _) = some (if i < j + 1 then _ else _)
      by_cases h2 : i < j
      · rw [if_pos h2, if_pos (by omega)]
      · rw [if_neg h2, if_neg (by omega)]
  · rw [List.getElem?_eq_none (show (List.range (d + 1)).length ≤ i by simp; omega)]
    by_cases hij : j = i
    · omega
    · rw [if_neg hij]; rfl
theorem cut_dvd {m W : Int} (h : m ∣ W) (d : Nat) (f : Nat → Int) : Ser.cut m d (Ser.co (Ser.cut W d f)) = Ser.cut m d f :=
  Ser.cut_congr (fun i hi => by rw [Ser.co_cut hi]; exact Int.emod_emod_of_dvd _ h)
end Pl
/-- the modulus that the model calculates with -/
def tyW (p : Nat) (m : Int) (D : Nat) : Int := m * ((p ^ needN p D : Nat) : Int) * (p : Int)
def lawT (p : Nat) (m : Int) (D : Nat) (v : Nat → Int) : List (List Int) :=
  Pl.tab m D (Pl.lwF p (needN p D) ((p ^ needN p D : Nat) : Int) (tyW p m D) (Nmr.num p v) (D - 1))
theorem Span.ofB {lo hi : Nat} {w w' : World} (h : Below w.heap.size w w') : Span lo hi w w' := ⟨h.os, h.tape, h.output, h.size, fun k hk _ => h.block k hk⟩
theorem Span.set3 {lo hi : Nat} (w : World) (b j : Nat) (u : Value) (h1 : lo ≤ b) (h2 : b < hi) : Span lo hi w (w.setCell ⟨b, j, none⟩ u) :=
  Span.of_grown (grown_setCell w b j u) (fun g h => by injection h with h; subst h; exact ⟨h1, h2⟩)
theorem tyW_bd {p : Nat} {m : Int} {D : Nat} (hp : p = 2 ∨ p = 3 ∨ p = 5 ∨ p = 7) (h1 : 2 ≤ m) (h2 : m ≤ 10000) (d1 : 1 ≤ D) (d2 : D ≤ 10) :
    1 ≤ p ^ needN p D ∧ p ^ needN p D ≤ 10 ∧ 2 ≤ tyW p m D ∧ tyW p m D ≤ 700000 ∧ (0 ≤ m * ((p ^ needN p D : Nat) : Int) ∧ m * ((p ^ needN p D : Nat) : Int) ≤ 100000) ∧ m ∣ tyW p m D := by
  have h3 := needN_le3 p (in4 hp) D (List.mem_range.2 (by omega))
  have ht1 : 1 ≤ p ^ needN p D := Nat.pow_pos (by omega)
  have ht : p ^ needN p D ≤ D := by
    by_cases h0 : needN p D = 0
    · rw [h0, Nat.pow_zero]; exact d1
    · exact ((needN_at p (in4 hp) D (List.mem_range.2 (by omega)) (needN p D) (List.mem_range.2 (by omega))).1 ⟨by omega, Nat.le_refl _⟩).2
  obtain ⟨T, hT⟩ : ∃ T, p ^ needN p D = T := ⟨_, rfl⟩
  unfold tyW
  rw [hT] at ht ht1 ⊢
  have b1 : 2 * 1 ≤ m * (T : Int) := Int.mul_le_mul h1 (by omega) (by omega) (by omega)
  have b2 : m * (T : Int) ≤ 10000 * 10 := Int.mul_le_mul h2 (by omega) (by omega) (by omega)
  have b3 : (m * (T : Int)) * 1 ≤ m * (T : Int) * (p : Int) := Int.mul_le_mul_of_nonneg_left (by omega) (by omega)
  have b4 : m * (T : Int) * (p : Int) ≤ 100000 * 7 := Int.mul_le_mul (by omega) (by omega) (by omega) (by omega)
  exact ⟨ht1, by omega, by omega, by omega, ⟨by omega, by omega⟩, ⟨(T : Int) * p, by rw [Int.mul_assoc]⟩⟩
set_option maxHeartbeats 16000000 in
set_option maxRecDepth 100000 in
theorem l09Law_any (p : Nat) (m : Int) (D : Nat) (A : Option Addr) (c : Nat) (l : List Int) (w : World) (hp : p = 2 ∨ p = 3 ∨ p = 5 ∨ p = 7) (m1 : 2 ≤ m) (m2 : m ≤ 10000) (d1 : 1 ≤ D) (d2 : D ≤ 10) (hl : l.length ≤ 3) (hx : ∀ i, 0 ≤ Ser.co l i ∧ Ser.co l i ≤ 10000) (hr : RI w A l) :
    Calls Tryz.prog 50 #[.int .i64 p, .int .i64 m, .int .i64 D, .slice A l.length c] w fun e w' => ∃ u, e = .returned u ∧ OwnR w' w.heap.size w'.heap.size u (lawT p m D (Ser.co l)) ∧ Below w.heap.size w w' := by
  have HMO := Lib.hid (l09Most_any p D w hp d1 d2)
  obtain ⟨t1, t2, W1, W2, hmt, hdv⟩ := tyW_bd hp m1 m2 d1 d2
  have hN3 := needN_le3 p (in4 hp) D (List.mem_range.2 (by omega))
  have HLT := Lib.hid (show lawT p m D (Ser.co l) = Pl.tab m D (Pl.lwF p (needN p D) ((p ^ needN p D : Nat) : Int) (tyW p m D) (Nmr.num p (Ser.co l)) (D - 1)) from rfl)
  have HWE := Lib.hid (show m * ((p ^ needN p D : Nat) : Int) * (p : Int) = tyW p m D from rfl)
  obtain ⟨N, hN⟩ : ∃ N, needN p D = N := ⟨_, rfl⟩
  obtain ⟨T, hT⟩ : ∃ T, p ^ N = T := ⟨_, rfl⟩
  obtain ⟨W, hW⟩ : ∃ W, tyW p m D = W := ⟨_, rfl⟩
  rw [hN] at HMO t1 t2 hmt hN3 HLT HWE
  rw [hT] at HMO t1 t2 hmt HLT HWE
  rw [hW] at W1 W2 hdv HLT HWE
  have HTH := Lib.hid (fun W0 (h : RI W0 A l) => l09Three_any A c l W0 hl h)
  have HNM := Lib.hid (fun A1 c1 W0 (h : RI W0 A1 (ndL 3 l)) => by
    have := l09Numerators_any p W A1 c1 (ndL 3 l) W0 W1 (by omega) (by omega) (by omega) (by rw [ndL_length]; omega) (fun i => by
      rw [ndL_co]; split
      · have := hx i; omega
      · omega) h
    rw [ndL_length] at this
    rw [show Nmr.numR W p (Ser.co (ndL 3 l)) (3 + 1) = Nmr.numR W p (Ser.co l) 4 by
      rw [show Ser.co (ndL 3 l) = Ser.co l from funext fun i => by
        rw [ndL_co]; split
        · rfl
        · rw [Ser.co_over (by omega)]]] at this
    exact this)
  have HNL := Lib.hid (Nmr.numR_length W p (Ser.co l) 4)
  have HZ := Lib.hid (fun W0 => l03Zero_any W D W0 (by omega))
  have okD := fun f => Pl.OkG.of_tab W1 (show W ≤ 100000000 by omega) d1 d2 f
  have HCU := Lib.hid (fun (k : Nat) (hk : k + 2 ≤ D) A1 c1 W0 (h : RP W0 A1 (Pl.tab W D (Pl.lwF p N T W (Nmr.num p (Ser.co l)) k))) => by
    have := l03Cut_anyG W D A1 c1 _ (k + 2) W0 (okD _) h hk
    rw [Pl.tab_length, Pl.tab_congr (show Pl.Eq W (k + 2) _ _ from fun i j hij => Pl.pc_tab_eq W D (Pl.lwF p N T W (Nmr.num p (Ser.co l)) k) i j (by omega))] at this
    exact this)
  have HRE := Lib.hid (fun (k : Nat) (hk : k + 2 ≤ D) A0 c0 A1 c1 W0 (h0 : RI W0 A0 (Nmr.numR W p (Ser.co l) 4)) (h : RP W0 A1 (Pl.tab W (k + 2) (Pl.lwF p N T W (Nmr.num p (Ser.co l)) k))) => by
    have := l09Rest_any p N W (k + 2) (Ser.co l) A0 c0 A1 c1 _ W0 hp hN3 (Pl.OkG.of_tab W1 (by omega) (by omega) (by omega) _) h0 h
    rw [Pl.tab_length, Pl.tab_congr (Pl.restF_congr (Pl.pc_tab_eq W (k + 2) (Pl.lwF p N T W (Nmr.num p (Ser.co l)) k)) p N (Nmr.num p (Ser.co l)) (N + 1))] at this
    exact this)
  have HMD := Lib.hid (fun x W0 (h : -1000000 ≤ x ∧ x ≤ 1000000) => l01ModB_any W x W0 (by omega) (by omega) (by omega) (by omega))
  have hmw : m ≤ W := Int.le_of_dvd (by omega) hdv
  have HRS := Lib.hid (fun (j : Nat) (hj : j ≤ D) A1 c1 (f : Nat → Nat → Int) W0 (h : RI W0 A1 (Ser.cut W (D - j) (f j))) => by
    have := l02RestR_anyG m (D - j) W A1 c1 (Ser.cut W (D - j) (f j)) W0 m1 ⟨W1, by omega, by omega, Ser.cut_length _ _ _, Ser.cut_red (by omega) _ _⟩ h
    rw [Ser.cut_length, Pl.cut_dvd hdv] at this
    exact this)
  have HR := Lib.hid hr
  have hp7 : p ≤ 7 ∧ 2 ≤ p := by omega
  have hW0 : ¬ W = 0 := by omega
  have hT0 : ¬ (T : Int) = 0 := by omega
  obtain ⟨ll, hll⟩ : ∃ ll, l.length = ll := ⟨_, rfl⟩
  rw [hll] at HTH ⊢
  rw [HLT.out]
  have hWE := HWE.out
  clear HLT HWE
  clear hr hx hN hT hW hp okD hll hl
  go_enter Tryz.func50, Tryz.ntmps50
  go_wp2_with fail
  refine HMO.out.mono ?_
  rintro e w' ⟨rfl, rfl⟩
  go_wp2_with fail
  refine (HTH.out _ HR.out).mono ?_
  rintro e w1 ⟨u, rfl, ho1, hb1⟩
  obtain ⟨A1, c1, hu, -⟩ := ho1.form
  subst hu
  rw [ndL_length] at ho1 ⊢
  go_wp2_with fail
  refine (HNM.out _ _ _ ho1.ri).mono ?_
  rintro e w2 ⟨u, rfl, ho2, hb2⟩
  obtain ⟨A2, c2, hu, -⟩ := ho2.form
  subst hu
  rw [HNL.out] at ho2 ⊢
  have HB2 := Lib.hid (below_step hb1 hb2)
  have HO2 := Lib.hid ho2
  clear ho1 ho2 hb1 hb2 hWE HTH HNM HMO HR
  go_wp2_with fail
  refine (HZ.out _).mono ?_
  rintro e w3 ⟨u, rfl, ho, hb3⟩
  obtain ⟨g, cv, e3⟩ := ho.openv (by rw [Pl.tab_length]; omega)
  subst e3
  rw [Pl.tab_length] at ho ⊢
  have hz23 : w2.heap.size ≤ w3.heap.size := hb3.size
  have HN3 := Lib.hid (HO2.out.keep hb3)
  have HNB := Lib.hid (fun b (h : (Value.slice A2 4 c2).ownBlock = some b) => (HO2.out.lt b h).2)
  have HB3 := Lib.hid (below_step HB2.out hb3)
  -- the two coefficients in degree 1
  obtain ⟨b0, q0, p1, p2, p3, p4, p5, pg, p6⟩ := ho.poke3 0 1 (D + 1) (by omega) (by omega)
  obtain ⟨b1, q1, r1, -, -, -, -, -, -⟩ := ho.poke3 1 0 (D - 1 + 1) (by omega) rfl
  obtain ⟨D1, hD1⟩ : ∃ D1, D - 1 + 1 = D1 := ⟨_, rfl⟩
  have hD1' : D1 = D := by omega
  subst hD1'
  rw [hD1] at r1
  have e11 : (1 : Int) % W = 1 := Int.emod_eq_of_lt (by omega) (by omega)
  have e00 : (0 : Int) % W = 0 := Int.zero_emod W
  rw [e00] at p2
  have s1 := p6 (fun i j => if i = 0 ∧ j = 1 then 1 else 0) 1 (by show (if (0 : Nat) = 0 ∧ (1 : Nat) = 1 then (1 : Int) else 0) % W = 1; rw [if_pos ⟨rfl, rfl⟩]; exact e11) (fun i j _ h => by
    show (if i = 0 ∧ j = 1 then (1 : Int) else 0) % W = _
    rw [if_neg h])
  have S1 := Lib.hid s1
  have R1 := Lib.hid r1
  have P2 := Lib.hid p2
  have E11 := Lib.hid e11
  have HB33 := Lib.hid hb3
  clear p6 s1 hb3 e11 e00 ho hD1
  go_upto_region 5 with fail
  go_quiet (fail)
  obtain ⟨Z, hZ⟩ : ∃ Z, w3.drewN nq = Z := ⟨_, rfl⟩
  have hbz : Below w3.heap.size w3 Z := by rw [← hZ]; exact below_drewN (Below.refl _ _) _
  have p2z : Z.cell? ⟨b0, 1, none⟩ = some (.int .i64 0) := by rw [← hZ]; exact P2.out
  have p3z : Z.frozen? ⟨b0, 1, none⟩ = false := by rw [← hZ]; exact p3
  have s1z : OwnR (Z.setCell ⟨b0, 1, none⟩ (.int .i64 1)) w2.heap.size w3.heap.size (.slice (some ⟨g, 0, none⟩) (D1 + 1) cv) (Pl.tab W D1 (fun i j => if i = 0 ∧ j = 1 then 1 else 0)) := by
    rw [← hZ]
    show OwnR ((w3.setCell ⟨b0, 1, none⟩ (.int .i64 1)).drewN nq) _ _ _ _
    exact S1.out.keep (below_drewN (Below.refl _ _) _)
  have r1z : (Z.setCell ⟨b0, 1, none⟩ (.int .i64 1)).cell? ⟨g, 1, none⟩ = some (.slice (some ⟨b1, 0, none⟩) D1 q1) :=
    (World.cell?_of_block (Below.heap_setCell Z ⟨b0, 1, none⟩ _ g (fun e => pg e.symm))).trans (by rw [← hZ]; exact R1.out)
  obtain ⟨b3, q3, y1, y2, y3, y4, y5, -, y6⟩ := s1z.poke3 1 0 D1 (by omega) (by omega)
  rw [r1z] at y1
  injection y1 with y1
  injection y1 with y1a y1b y1c
  injection y1a with y1a
  injection y1a with y1a
  subst y1a y1c
  have hs2 := y6 Pl.xyF 1 (by show ((if (1 : Nat) = 0 ∧ (0 : Nat) = 1 then (1 : Int) else 0) + (if (1 : Nat) = 1 ∧ (0 : Nat) = 0 then 1 else 0)) % W = 1; exact E11.out) (fun i j _ h => by
    show ((if i = 0 ∧ j = 1 then (1 : Int) else 0) + (if i = 1 ∧ j = 0 then 1 else 0)) % W = _
    rw [if_neg h, Int.add_zero])
  obtain ⟨Y1, hY1⟩ : ∃ Y1, Z.setCell ⟨b0, 1, none⟩ (.int .i64 1) = Y1 := ⟨_, rfl⟩
  rw [hY1] at y2 y3 hs2
  have hsp1 : Span w2.heap.size w3.heap.size w3 Y1 := by rw [← hY1]; exact (Span.ofB hbz).trans (Span.set3 _ _ _ _ p4 p5)
  obtain ⟨Y2, hY2⟩ : ∃ Y2, Y1.setCell ⟨b1, 0, none⟩ (.int .i64 1) = Y2 := ⟨_, rfl⟩
  rw [hY2] at hs2
  have hsp2 : Span w2.heap.size w3.heap.size w3 Y2 := by rw [← hY2]; exact hsp1.trans (Span.set3 _ _ _ _ y4 y5)
  have OX := Lib.hid hs2
  have SX := Lib.hid hsp2
  have HY1 := Lib.hid hY1
  have HY2 := Lib.hid hY2
  rw [hZ]
  clear hZ hbz s1z r1z y6 hs2 hY1 hY2 hsp1 hsp2 S1 R1 P2 p1 p2 p3 r1 HB33 y1b
  go_upto_region 7 with fail
  rw [HY1.out]
  clear HY1 p2z p3z
  go_upto_region 8 with fail
  rw [HY2.out]
  clear HY2 y2 y3
  go_wp2
  go_loopw [16, 17, 18, 19] (fun s16 _ _ _ wr => ∃ k : Nat, k + 1 ≤ D1 ∧ s16 = .int .i64 ((k : Int) + 2) ∧ OwnR wr w2.heap.size w3.heap.size (.slice (some ⟨g, 0, none⟩) (D1 + 1) cv) (Pl.tab W D1 (Pl.lwF p N T W (Nmr.num p (Ser.co l)) k)) ∧ Span w2.heap.size w3.heap.size w3 wr) (fun s16 _ _ _ _ => D1 + 3 - (intOf s16).toNat)
  case atStart => exact ⟨0, by omega, by go_num, OX.out, SX.out⟩
  case round =>
    clear OX SX
    obtain ⟨wo, hwo⟩ : ∃ wo, wo = wr := ⟨_, rfl⟩
    subst hwo
    obtain ⟨k, hk, rfl, ho, hs⟩ := hrel
    have HO := Lib.hid ho
    have HS := Lib.hid hs
    clear ho hs
    by_cases hlt : k + 2 ≤ D1
    · have i1 : (k : Int) + 2 ≤ (D1 : Int) := by omega
      have HCK := Lib.hid (fun A1 c1 W0 h => by have := HCU.out k hlt A1 c1 W0 h; rw [show ((k + 2 : Nat) : Int) = (k : Int) + 2 by omega] at this; exact this)
      have HRK := Lib.hid (fun A0 c0 A1 c1 W0 h0 h => HRE.out k hlt A0 c0 A1 c1 W0 h0 h)
      have hz3o := HS.out.size
      go_wp2_with fail
      refine (HCK.out _ _ wo HO.out.rp).mono ?_
      rintro e w4 ⟨u, rfl, ho4, hb4⟩
      obtain ⟨A4, c4, hu, -⟩ := ho4.len
      subst hu
      rw [Pl.tab_length] at ho4 ⊢
      have hn4 := ((HN3.out.far HS.out (fun b hb => .inl (HNB.out b hb))).keep hb4).ri
      go_wp2_with fail
      refine (HRK.out _ _ _ _ w4 hn4 ho4.rp).mono ?_
      rintro e w5 ⟨u, rfl, ho5, hb5⟩
      obtain ⟨g5, cv5, e5⟩ := ho5.openv (by rw [Pl.tab_length]; omega)
      subst e5
      rw [Pl.tab_length] at ho5 ⊢
      have hz34 : w3.heap.size ≤ w4.heap.size := Nat.le_trans hz3o hb4.size
      have HO5 := Lib.hid ho5
      have H25 := Lib.hid (below_step hb4 hb5)
      have HOO := Lib.hid ((HO.out.keep (hb4.mono hz3o)).keep (hb5.mono hz34))
      rw [← Pl.lwP_one] at HOO
      clear hn4 ho4 ho5 hb4 hb5 HCK HRK HO
      go_wp2
      go_loopw [18, 19] (fun s18 _ wx => ∃ i : Nat, 1 ≤ i ∧ i ≤ k + 2 ∧ s18 = .int .i64 i ∧ OwnR wx w2.heap.size w3.heap.size (.slice (some ⟨g, 0, none⟩) (D1 + 1) cv) (Pl.tab W D1 (Pl.lwP p N T W (Nmr.num p (Ser.co l)) k i)) ∧ Span w2.heap.size w3.heap.size w5 wx) (fun s18 _ _ => k + 3 - (intOf s18).toNat)
      case atStart => exact ⟨1, by omega, by omega, rfl, HOO.out, Span.refl _ _ _⟩
      case round =>
        clear HOO
        obtain ⟨i, hi1, hi2, rfl, ho, hs⟩ := hrel
        by_cases hil : i < k + 2
        · obtain ⟨J, hJ⟩ : ∃ J, k + 2 - i = J := ⟨_, rfl⟩
          obtain ⟨M, hM⟩ : ∃ M, D1 - i + 1 = M := ⟨_, rfl⟩
          obtain ⟨b1', q1', p1, p2, p3, p4, p5, -, p6⟩ := ho.poke3 i J M (by omega) hM.symm
          obtain ⟨b2', q2', r1, r2, -, -, -, -, -⟩ := (HO5.out.far hs (.inr hz34)).poke3 i J (J + 1) (by omega) (by omega)
          have hrb : 0 ≤ Pl.restF p N (Nmr.num p (Ser.co l)) (Pl.lwF p N T W (Nmr.num p (Ser.co l)) k) (N + 1) i J % W ∧ Pl.restF p N (Nmr.num p (Ser.co l)) (Pl.lwF p N T W (Nmr.num p (Ser.co l)) k) (N + 1) i J % W < W := ⟨Int.emod_nonneg _ (by omega), Int.emod_lt_of_pos _ (by omega)⟩
          have hd := p6 (Pl.lwP p N T W (Nmr.num p (Ser.co l)) k (i + 1)) (Pl.dueF p N T W (Nmr.num p (Ser.co l)) (Pl.lwF p N T W (Nmr.num p (Ser.co l)) k) i J) (by
            rw [← hJ, Pl.lwP_at p N T W _ k i hi1 hil]
            exact Int.emod_emod _ _) (fun a b _ h => by rw [Pl.lwP_ne p N T W _ k i a b (by rw [hJ]; exact h)])
          unfold Pl.dueF at hd
          obtain ⟨R, hR⟩ : ∃ R, Pl.restF p N (Nmr.num p (Ser.co l)) (Pl.lwF p N T W (Nmr.num p (Ser.co l)) k) (N + 1) i J % W = R := ⟨_, rfl⟩
          rw [hR] at hrb hd r2
          have hq3 : R ≤ 700000 := by omega
          have hq1 : 0 ≤ R / (T : Int) := Int.ediv_nonneg hrb.1 (by omega)
          have hq2 : R / (T : Int) ≤ R := Int.ediv_le_self _ hrb.1
          have HMQ := Lib.hid (fun W0 => HMD.out (-(R / (T : Int))) W0 (by omega))
          have hTQ : R.tdiv (T : Int) = R / (T : Int) := Int.tdiv_eq_ediv_of_nonneg hrb.1
          obtain ⟨Q, hQ⟩ : ∃ Q, R / (T : Int) = Q := ⟨_, rfl⟩
          rw [hQ] at hd hq1 hq2 HMQ hTQ
          obtain ⟨X, hX⟩ : ∃ X, (Pl.lwP p N T W (Nmr.num p (Ser.co l)) k i) i J % W = X := ⟨_, rfl⟩
          rw [hX] at p2
          have HD := Lib.hid hd
          have HSS := Lib.hid (hs.trans (Span.set3 wr b1' J (.int .i64 (-Q % W)) p4 p5))
          have j1 : (i : Int) < (k : Int) + 2 := by omega
          have j2 : (0 : Int) ≤ (i : Int) := by omega
          have j3 : (i : Int) < (D1 : Int) + 1 := by omega
          have j4 : (k : Int) + 2 - (i : Int) = (J : Int) := by omega
          have j5 : (0 : Int) ≤ (J : Int) := by omega
          have j6 : (J : Int) < (M : Int) := by omega
          have j7 : (J : Int) < (J : Int) + 1 := by omega
          have j8 : (i : Int) < (k : Int) + 2 + 1 := by omega
          clear p6 hd hR hQ hX ho hs hJ hM p4 p5 hrb HMD HRE HCU HRS
          go_wp2_with fail
          refine (HMQ.out _).mono ?_
          rintro e w' ⟨rfl, rfl⟩
          obtain ⟨Y, hY⟩ : ∃ Y, wr.setCell ⟨b1', J, none⟩ (.int .i64 (-Q % W)) = Y := ⟨_, rfl⟩
          have HY := Lib.hid hY
          rw [hY] at HD HSS
          clear hY HMQ
          go_wp2
          rw [HY.out]
          go_roundw
          case rel => exact ⟨i + 1, by omega, by omega, by go_num, HD.out, HSS.out⟩
          case measure => simp only [intOf]; omega
        · obtain rfl : i = k + 2 := by omega
          rw [Pl.lwP_all] at ho
          have j1 : ¬ (((k + 2 : Nat) : Int) < (k : Int) + 2) := by omega
          have NO := Lib.hid ho
          have NS := Lib.hid ((HS.out.trans (Span.ofB H25.out)).trans hs)
          clear ho hs
          go_wp2
          go_roundw
          case rel => exact ⟨k + 1, by omega, by go_num, NO.out, NS.out⟩
          case measure => simp only [intOf]; omega
    · have hkD : k = D1 - 1 := by omega
      subst hkD
      have i1 : ¬ (((D1 - 1 : Nat) : Int) + 2 ≤ (D1 : Int)) := by omega
      have ho := HO.out
      obtain ⟨f, hf⟩ : ∃ f, Pl.lwF p N T W (Nmr.num p (Ser.co l)) (D1 - 1) = f := ⟨_, rfl⟩
      rw [hf] at ho
      have HFQ := Lib.hid hf
      rw [← Pl.mixT_zero m W D1 f] at ho
      have hz3o := HS.out.size
      have HO1 := Lib.hid (ho.more hz3o)
      have HBW := Lib.hid (HB3.out.trans ((HS.out.below hz23).mono (by have := HB2.out.size; exact this)))
      clear ho HO hf HCU HRE HMD
      go_wp2
      go_loopw [20] (fun s20 wx => ∃ j : Nat, j ≤ D1 + 1 ∧ s20 = .int .i64 j ∧ OwnR wx w2.heap.size wx.heap.size (.slice (some ⟨g, 0, none⟩) (D1 + 1) cv) (Pl.mixT m W D1 f j) ∧ Below w.heap.size w wx) (fun s20 _ => D1 + 2 - (intOf s20).toNat)
      case atStart => exact ⟨0, Nat.zero_le _, rfl, HO1.out, HBW.out⟩
      case round =>
        clear HO1 HBW
        obtain ⟨j, hj, rfl, ho, hb⟩ := hrel
        have HO1 := Lib.hid ho
        have HBW := Lib.hid hb
        by_cases hjl : j < D1 + 1
        · have hml := Pl.mixT_length m W D1 f j
          obtain ⟨b, off, A7, c7, e7, hb7, hc7, hcap7, hri7⟩ := ho.rp.at j (by rw [hml]; exact hjl)
          injection e7 with e7
          injection e7 with e7a e7b
          subst e7a e7b
          rw [Pl.mixT_row m W D1 f j (by omega)] at hc7 hri7
          rw [Ser.cut_length, Nat.zero_add] at hc7
          have hrs := HRS.out j (by omega) A7 c7 f wr hri7
          obtain ⟨M, hM⟩ : ∃ M, D1 - j + 1 = M := ⟨_, rfl⟩
          rw [hM] at hc7 hrs
          have HRQ := Lib.hid hrs
          have hrl : (Ser.cut m (D1 - j) (f j)).length = M := by rw [Ser.cut_length, hM]
          have HST := Lib.hid (Pl.mixT_set m W D1 f j (by omega))
          obtain ⟨row, hrow⟩ : ∃ row, Ser.cut m (D1 - j) (f j) = row := ⟨_, rfl⟩
          rw [hrow] at HRQ HST hrl
          have HRL := Lib.hid hrl
          have j1 : (j : Int) < (D1 : Int) + 1 := by omega
          have j2 : (0 : Int) ≤ (j : Int) := by omega
          have HML := Lib.hid hml
          clear hrs hM hrow hri7 hcap7 ho hb hrl hml
          go_wp2_with fail
          refine HRQ.out.mono ?_
          rintro e w8 ⟨u, rfl, ho8, hb8⟩
          obtain ⟨A8, c8, hu8, -⟩ := ho8.form
          subst hu8
          rw [HRL.out] at ho8 ⊢
          have ho9 := HO1.out.keep hb8
          obtain ⟨hg1, hg2, hg3, hfz, A9, c9, hcl, -, -, -⟩ := ho9.cell j (by rw [HML.out]; exact hjl)
          have hput := ho9.put j (by rw [HML.out]; exact hjl) (.slice A8 M c8) row (ho8.more (show w2.heap.size ≤ wr.heap.size by have := hcl; have := HBW.out.size; omega)) (hi' := w8.heap.size) (fun b hb => ⟨(ho8.lt b hb).1, (ho8.lt b hb).2⟩) hb8.size
          rw [HST.out] at hput
          obtain ⟨Y, hY⟩ : ∃ Y, w8.setCell ⟨g, j, none⟩ (.slice A8 M c8) = Y := ⟨_, rfl⟩
          have hyz : Y.heap.size = w8.heap.size := by rw [← hY]; simp [World.setCell]
          have nb : Below w.heap.size w Y := by
            rw [← hY]
            exact (below_step HBW.out hb8).setCell (p := ⟨g, j, none⟩) (Nat.le_trans HB2.out.size hg1) _
          rw [hY, ← hyz] at hput
          have HPUT := Lib.hid hput
          have NB := Lib.hid nb
          have HY := Lib.hid hY
          clear hput hyz nb hY ho8 hb8 hg1 hg2 hg3 HRQ HST ho9
          go_wp2
          rw [HY.out]
          go_roundw
          case rel => exact ⟨j + 1, by omega, by go_num, HPUT.out, NB.out⟩
          case measure => simp only [intOf]; omega
        · obtain rfl : j = D1 + 1 := by omega
          have i9 : ¬ (((D1 + 1 : Nat) : Int) < (D1 : Int) + 1) := by omega
          rw [Pl.mixT_all] at ho
          have HF := Lib.hid ho
          clear ho hb
          have hww : w.heap.size ≤ w2.heap.size := HB2.out.size
          go_wp2
          go_ret
          exact ⟨_, rfl, by rw [HFQ.out]; exact HF.out.low hww, HBW.out⟩
end Go.Proofs.YtfhdgcndiljjcabGreat

/- Plain facts on standard laws: monomials, the laws of the tangent and of Euler as quotients: no program in sight. -/
namespace Go.Proofs.YtfhdgcndiljjcabGreat
namespace Pl
open Ser (psum)
/-- x^a y^b -/
def mon2 (a b : Nat) : Nat → Nat → Int := fun i j => if i = a ∧ j = b then 1 else 0
theorem psum_one (g : Nat → Int) (a : Nat) : ∀ n, (∀ i, i < n → i ≠ a → g i = 0) → psum g n = if a < n then g a else 0 := by
  intro n
  induction n with
  | zero => intro _; rfl
  | succ n ih =>
    intro h
    rw [Ser.psum, ih (fun i hi => h i (by omega))]
    by_cases h1 : a < n
    · rw [if_pos h1, if_pos (by omega), h n (by omega) (by omega), Int.add_zero]
    · by_cases h2 : a = n
      · rw [if_neg h1, if_pos (by omega), h2, Int.zero_add]
      · rw [if_neg h1, if_neg (by omega), h n (by omega) (fun e => h2 e.symm), Int.add_zero]
theorem mon2_mul2 (a b : Nat) (F : Nat → Nat → Int) (p q : Nat) : mul2 (mon2 a b) F p q = if a ≤ p ∧ b ≤ q then F (p - a) (q - b) else 0 := by
  unfold mul2
  rw [psum_one _ a _ (fun i _ hi => Ser.psum_low _ _ (fun j _ => by unfold mon2; rw [if_neg (fun e => hi e.1), Int.zero_mul]))]
  by_cases h : a ≤ p
  · rw [if_pos (by omega), psum_one _ b _ (fun j _ hj => by unfold mon2; rw [if_neg (fun e => hj e.2), Int.zero_mul])]
    by_cases k : b ≤ q
    · rw [if_pos (by omega), if_pos ⟨h, k⟩]
      unfold mon2
      rw [if_pos ⟨rfl, rfl⟩, Int.one_mul]
    · rw [if_neg (by omega), if_neg (fun e => k e.2)]
  · rw [if_neg (by omega), if_neg (fun e => h e.1)]
theorem mul2_mon2 (a b : Nat) (F : Nat → Nat → Int) (p q : Nat) : mul2 F (mon2 a b) p q = if a ≤ p ∧ b ≤ q then F (p - a) (q - b) else 0 := by rw [mul2_comm, mon2_mul2]
theorem mon2_mon2 (a b c e : Nat) : mul2 (mon2 a b) (mon2 c e) = mon2 (a + c) (b + e) := by
  funext p q
  rw [mon2_mul2]
  unfold mon2
  by_cases h : p = a + c ∧ q = b + e
  · rw [if_pos (by omega), if_pos (by omega), if_pos h]
  · rw [if_neg h]
    by_cases k : a ≤ p ∧ b ≤ q
    · rw [if_pos k, if_neg (by omega)]
    · rw [if_neg k]
theorem pw2_y : ∀ k, pw2 (mon2 0 1) k = mon2 0 k := by
  intro k
  induction k with
  | zero => rfl
  | succ k ih => show mul2 (pw2 (mon2 0 1) k) (mon2 0 1) = _; rw [ih, mon2_mon2]
theorem pw2_x : ∀ k, pw2 (mon2 1 0) k = mon2 k 0 := by
  intro k
  induction k with
  | zero => rfl
  | succ k ih => show mul2 (pw2 (mon2 1 0) k) (mon2 1 0) = _; rw [ih, mon2_mon2]
theorem pw2_congr {m : Int} {d : Nat} {F G : Nat → Nat → Int} (h : Eq m d F G) : ∀ k, Eq m d (pw2 F k) (pw2 G k) := by
  intro k
  induction k with
  | zero => exact Eq.refl _ _ _
  | succ k ih => exact mul2_congr ih h
/-- a series put upon a table: the sum of powers -/
def aft (l : Nat → Int) (F : Nat → Nat → Int) (n : Nat) : Nat → Nat → Int := fun p q => psum (fun i => l i * pw2 F i p q) n
theorem aft_congr {m : Int} {d : Nat} {l l' : Nat → Int} {F G : Nat → Nat → Int} (n : Nat) (hl : ∀ i, i < n → l i % m = l' i % m) (h : Eq m d F G) : Eq m d (aft l F n) (aft l' G n) :=
  fun p q hpq => Ser.psum_congr _ (fun i hi => Ser.mul_cong (hl i hi) (pw2_congr h i p q hpq))
theorem horq_aft {m : Int} {d : Nat} {l : List Int} (hl : l.length = d + 1) (F : Nat → Nat → Int) : Eq m d (pc (horq m d l F (d + 1))) (aft (Ser.co l) F (d + 1)) := by
  have h := horq_pw (m := m) (d := d) l F (d + 1) (by omega)
  refine h.trans (Eq.of m d (fun p q _ => ?_))
  refine Ser.psum_ext _ (fun i _ => ?_)
  rw [hl, Nat.sub_self, Nat.zero_add]
theorem aft_y (l : Nat → Int) (n p q : Nat) (h : q < n) : aft l (mon2 0 1) n p q = if p = 0 then l q else 0 := by
  unfold aft
  rw [psum_one _ q _ (fun i _ hi => by rw [pw2_y]; unfold mon2; rw [if_neg (fun e => hi e.2.symm), Int.mul_zero]), if_pos h, pw2_y]
  unfold mon2
  by_cases hp : p = 0
  · rw [if_pos ⟨hp, rfl⟩, if_pos hp, Int.mul_one]
  · rw [if_neg (fun e => hp e.1), if_neg hp, Int.mul_zero]
theorem aft_x (l : Nat → Int) (n p q : Nat) (h : p < n) : aft l (mon2 1 0) n p q = if q = 0 then l p else 0 := by
  unfold aft
  rw [psum_one _ p _ (fun i _ hi => by rw [pw2_x]; unfold mon2; rw [if_neg (fun e => hi e.1.symm), Int.mul_zero]), if_pos h, pw2_x]
  unfold mon2
  by_cases hq : q = 0
  · rw [if_pos ⟨rfl, hq⟩, if_pos hq, Int.mul_one]
  · rw [if_neg (fun e => hq e.2), if_neg hq, Int.mul_zero]
/-! the multiplicative law -/
/-! the law of the tangent -/
/-! the law of Euler -/
end Pl
end Go.Proofs.YtfhdgcndiljjcabGreat

/- Plain: what a change of the last parameter that a degree needs does to the model's typical law. -/
namespace Go.Proofs.YtfhdgcndiljjcabGreat
open Go.RowKit
namespace Pl
theorem mul2_zero_at {a b : Nat → Nat → Int} (p q : Nat) (h : ∀ k l, k ≤ p → l ≤ q → a k l * b (p - k) (q - l) = 0) : mul2 a b p q = 0 := by
  unfold mul2
  rw [Ser.psum_ext (g := fun _ => 0) _ (fun k hk => (Ser.psum_ext (g := fun _ => 0) _ (fun l hl => h k l (by omega) (by omega))).trans (Ser.psum_zero _))]
  exact Ser.psum_zero _
theorem mul2_ext_at {a b a' b' : Nat → Nat → Int} (p q : Nat) (h : ∀ k l, k ≤ p → l ≤ q → a k l * b (p - k) (q - l) = a' k l * b' (p - k) (q - l)) : mul2 a b p q = mul2 a' b' p q := by
  unfold mul2
  exact Ser.psum_ext _ (fun k hk => Ser.psum_ext _ (fun l hl => h k l (by omega) (by omega)))
theorem pwF_low {F : Nat → Nat → Int} (h0 : F 0 0 = 0) : ∀ q i j, i + j < q → pwF F q i j = 0 := by
  intro q
  induction q with
  | zero => intro i j h; omega
  | succ q ih =>
    intro i j h
    refine mul2_zero_at i j (fun k l hk hl => ?_)
    by_cases h1 : k + l < q
    · rw [ih k l h1, Int.zero_mul]
    · rw [show i - k = 0 by omega, show j - l = 0 by omega, h0, Int.mul_zero]
theorem pwF_lead {F G : Nat → Nat → Int} (h0 : F 0 0 = 0) (g0 : G 0 0 = 0) (h : ∀ i j, i + j ≤ 1 → F i j = G i j) : ∀ q i j, i + j ≤ q → pwF F q i j = pwF G q i j := by
  intro q
  induction q with
  | zero => intro i j _; rfl
  | succ q ih =>
    intro i j hij
    refine mul2_ext_at i j (fun k l hk hl => ?_)
    by_cases h1 : k + l < q
    · rw [pwF_low h0 q k l h1, pwF_low g0 q k l h1, Int.zero_mul, Int.zero_mul]
    · by_cases h2 : k + l ≤ q
      · rw [ih k l h2, h _ _ (by omega)]
      · rw [show i - k = 0 by omega, show j - l = 0 by omega, h0, g0, Int.mul_zero, Int.mul_zero]
theorem xyF_mon : xyF = pl (mon2 0 1) (mon2 1 0) := by
  funext i j
  rfl
theorem pwF_xy : ∀ q i j, pwF xyF q i j = if i + j = q then ((Num.bin q i : Nat) : Int) else 0 := by
  intro q
  induction q with
  | zero =>
    intro i j
    show one2 1 i j = _
    unfold one2
    by_cases h : i + j = 0
    · obtain ⟨rfl, rfl⟩ : i = 0 ∧ j = 0 := by omega
      rfl
    · rw [if_neg h]
      first | rw [if_neg (by omega)] | (split <;> first | omega | rfl)
  | succ q ih =>
    intro i j
    show mul2 (pwF xyF q) xyF i j = _
    rw [xyF_mon, mul2_pl]
    show mul2 (pwF (pl (mon2 0 1) (mon2 1 0)) q) (mon2 0 1) i j + mul2 (pwF (pl (mon2 0 1) (mon2 1 0)) q) (mon2 1 0) i j = _
    rw [← xyF_mon, mul2_mon2, mul2_mon2, ih, ih]
    by_cases h : i + j = q + 1
    · rw [if_pos h]
      cases i with
      | zero =>
        rw [if_pos ⟨by omega, by omega⟩, if_pos (by omega), if_neg (by omega), Num.bin_zero, Num.bin_zero]; rfl
      | succ i =>
        rw [show i + 1 - 1 = i by omega, if_pos (show 1 ≤ i + 1 ∧ 0 ≤ j by omega), if_pos (show i + (j - 0) = q by omega), Num.bin_succ, Int.natCast_add]
        by_cases hj : 1 ≤ j
        · rw [if_pos ⟨by omega, hj⟩, if_pos (by omega), show i + 1 - 0 = i + 1 by omega]; omega
        · rw [if_neg (by omega), Num.bin_over q (i + 1) (by omega)]; simp
    · rw [if_neg h]
      by_cases h1 : 0 ≤ i ∧ 1 ≤ j
      · rw [if_pos h1, if_neg (by omega)]
        by_cases h2 : 1 ≤ i ∧ 0 ≤ j
        · rw [if_pos h2, if_neg (by omega)]; rfl
        · rw [if_neg h2]; rfl
      · rw [if_neg h1]
        by_cases h2 : 1 ≤ i ∧ 0 ≤ j
        · rw [if_pos h2, if_neg (by omega)]; rfl
        · rw [if_neg h2]; rfl
theorem lwF_low (p N : Nat) (top W : Int) (A : Nat → Int) : ∀ k i j, i + j ≤ 1 → lwF p N top W A k i j = xyF i j
  | 0, _, _, _ => rfl
  | k + 1, i, j, h => by
    show (if i + j = k + 2 ∧ 1 ≤ i ∧ 1 ≤ j then _ else lwF p N top W A k i j) = _
    rw [if_neg (by omega)]
    exact lwF_low p N top W A k i j h
theorem lwF_zero (p N : Nat) (top W : Int) (A : Nat → Int) (k : Nat) : lwF p N top W A k 0 0 = 0 := lwF_low p N top W A k 0 0 (by omega)
theorem lwF_side (p N : Nat) (top W : Int) (A : Nat → Int) : ∀ k i j, i = 0 ∨ j = 0 → lwF p N top W A k i j = xyF i j
  | 0, _, _, _ => rfl
  | k + 1, i, j, h => by
    show (if i + j = k + 2 ∧ 1 ≤ i ∧ 1 ≤ j then _ else lwF p N top W A k i j) = _
    rw [if_neg (by omega)]
    exact lwF_side p N top W A k i j h
theorem sub2_in (F : Nat → Nat → Int) (q i j : Nat) (h1 : 1 ≤ i) (h2 : 1 ≤ j) : sub2 F q i j = F i j := by
  unfold sub2 sub1
  rw [if_neg (by omega), if_neg (by omega)]; omega
theorem restF_last (p N : Nat) (A : Nat → Int) (F : Nat → Nat → Int) (i j : Nat) : restF p N A F (N + 1) i j = restF p N A F N i j + A N * sub2 (pwF F (p ^ N)) (p ^ N) i j := by
  show restF p N A F N i j + (p : Int) ^ (N - N) * A N * sub2 (pwF F (p ^ N)) (p ^ N) i j = _
  rw [Nat.sub_self, Int.pow_zero, Int.one_mul]
theorem restF_same (p N : Nat) {A A' : Nat → Int} (h : ∀ e, e < N → A e = A' e) (F : Nat → Nat → Int) (i j : Nat) : restF p N A F N i j = restF p N A' F N i j :=
  Ser.psum_ext _ (fun e he => by rw [h e he])
/-- below the degree p^N nothing changes -/
theorem lwF_same (p N : Nat) (top W : Int) {A A' : Nat → Int} (h : ∀ e, e < N → A e = A' e) : ∀ k, k + 1 < p ^ N → lwF p N top W A k = lwF p N top W A' k
  | 0, _ => rfl
  | k + 1, hk => by
    have ih := lwF_same p N top W h k (by omega)
    funext i j
    show (if i + j = k + 2 ∧ 1 ≤ i ∧ 1 ≤ j then _ else lwF p N top W A k i j) = (if i + j = k + 2 ∧ 1 ≤ i ∧ 1 ≤ j then _ else lwF p N top W A' k i j)
    rw [ih]
    by_cases hc : i + j = k + 2 ∧ 1 ≤ i ∧ 1 ≤ j
    · rw [if_pos hc, if_pos hc]
      unfold dueF
      rw [restF_last, restF_last, restF_same p N h, sub2_in _ _ _ _ hc.2.1 hc.2.2, pwF_low (lwF_zero p N top W A' k) _ _ _ (by omega), Int.mul_zero, Int.mul_zero]
    · rw [if_neg hc, if_neg hc]
/-- in the degree p^N the sum gets a multiple of the binomial number -/
theorem rest_top (p N : Nat) (top W : Int) {A A' : Nat → Int} (h : ∀ e, e < N → A e = A' e) (k i j : Nat) (hij : i + j = p ^ N) (h1 : 1 ≤ i) (h2 : 1 ≤ j) :
    restF p N A' (lwF p N top W A k) (N + 1) i j = restF p N A (lwF p N top W A k) (N + 1) i j + (A' N - A N) * ((Num.bin (p ^ N) i : Nat) : Int) := by
  rw [restF_last, restF_last, restF_same p N h, sub2_in _ _ _ _ h1 h2, pwF_lead (lwF_zero p N top W A k) rfl (lwF_low p N top W A k) _ _ _ (by omega), pwF_xy, if_pos hij, Int.sub_mul]
  omega
end Pl
namespace Nmr
theorem hs_diff (p : Int) {f g : Nat → Int} (n : Nat) (h : ∀ i, 1 ≤ i → i ≤ n → f i = g i) : hs p f (n + 1) = hs p g (n + 1) + p ^ n * (f 0 - g 0) := by
  induction n with
  | zero =>
    show 0 * p + f 0 = 0 * p + g 0 + p ^ 0 * (f 0 - g 0)
    rw [Int.pow_zero, Int.one_mul]; omega
  | succ n ih =>
    show hs p f (n + 1) * p + f (n + 1) = hs p g (n + 1) * p + g (n + 1) + p ^ (n + 1) * (f 0 - g 0)
    rw [ih (fun i h1 h2 => h i h1 (by omega)), h (n + 1) (by omega) (Nat.le_refl _), Int.add_mul, Int.pow_succ, Int.mul_assoc, Int.mul_comm (f 0 - g 0) p, ← Int.mul_assoc]
    omega
/-- the last parameter stands in the last numerator once -/
theorem num_diff {p : Nat} {v v' : Nat → Int} (n : Nat) (h : ∀ i, i < n → v i = v' i) : num p v' (n + 1) = num p v (n + 1) + (p : Int) ^ n * (v' n - v n) := by
  rw [num_succ, num_succ, hs_diff (p : Int) (g := fun i => num p v i * v (n - i) ^ p ^ i) n (fun i h1 h2 => by
    rw [num_ext n (fun k hk => (h k hk).symm) i (by omega), h (n - i) (by omega)])]
  rw [num_zero, num_zero, Nat.sub_zero, Nat.pow_zero, Int.pow_one, Int.pow_one, Int.one_mul, Int.one_mul]
end Nmr
theorem div_shift {W T M r z : Int} (hT : 0 < T) (hM : 0 < M) (hW : W = T * M) : ((r + T * z) % W / T) % M = (r % W / T + z) % M := by
  subst hW
  have hr := Int.emod_add_mul_ediv r (T * M)
  obtain ⟨r0, hr0⟩ : ∃ r0, r % (T * M) = r0 := ⟨_, rfl⟩
  obtain ⟨q, hq⟩ : ∃ q, r / (T * M) = q := ⟨_, rfl⟩
  rw [hr0, hq] at hr
  rw [hr0]
  have hd := Int.emod_add_mul_ediv r0 T
  have hb1 := Int.emod_nonneg r0 (show T ≠ 0 by omega)
  have hb2 := Int.emod_lt_of_pos r0 hT
  obtain ⟨b, hb⟩ : ∃ b, r0 % T = b := ⟨_, rfl⟩
  obtain ⟨a, ha⟩ : ∃ a, r0 / T = a := ⟨_, rfl⟩
  rw [hb, ha] at hd
  rw [hb] at hb1 hb2
  rw [ha]
  have hy := Int.emod_add_mul_ediv (a + z) M
  have hy1 := Int.emod_nonneg (a + z) (show M ≠ 0 by omega)
  have hy2 := Int.emod_lt_of_pos (a + z) hM
  obtain ⟨y0, hy0⟩ : ∃ y0, (a + z) % M = y0 := ⟨_, rfl⟩
  obtain ⟨u, hu⟩ : ∃ u, (a + z) / M = u := ⟨_, rfl⟩
  rw [hy0, hu] at hy
  rw [hy0] at hy1 hy2
  rw [hy0]
  have e1 : r + T * z = (T * y0 + b) + (T * M) * (u + q) := by
    rw [← hr, ← hd]
    have : T * (a + z) = T * (y0 + M * u) := by rw [hy]
    rw [Int.mul_add, Int.mul_add] at this
    rw [Int.mul_add (T * M), Int.mul_assoc T M u]
    omega
  have b1 : 0 ≤ T * y0 := Int.mul_nonneg (by omega) hy1
  have b2 : T * (y0 + 1) ≤ T * M := Int.mul_le_mul_of_nonneg_left (by omega) (by omega)
  rw [Int.mul_add, Int.mul_one] at b2
  have e2 : (T * y0 + b) % (T * M) = T * y0 + b := Int.emod_eq_of_lt (by omega) (by omega)
  rw [e1, Int.add_mul_emod_self_left, e2, Int.add_comm (T * y0) b, Int.add_mul_ediv_left _ _ (by omega), Int.ediv_eq_zero_of_lt hb1 hb2, Int.zero_add, Int.emod_eq_of_lt hy1 hy2]
namespace Pl
theorem bin_lay : ∀ p ∈ [2, 3, 5, 7], ∀ k ∈ List.range 4, 1 ≤ k → p ^ k ≤ 10 → ∀ i ∈ List.range 11, 1 ≤ i → i < p ^ k → ((Num.bin (p ^ k) i : Nat) : Int) = (p : Int) * layF (p ^ k) i := by decide +kernel
theorem need_pow : ∀ p ∈ [2, 3, 5, 7], ∀ k ∈ List.range 4, 1 ≤ k → p ^ k ≤ 10 → needN p (p ^ k) = k := by decide
/-- a whole combination of the coefficients of C(n) is 1 -/
theorem lay_one : ∀ n ∈ List.range 11, 2 ≤ n → n ≠ 6 → n ≠ 10 → ∃ i ∈ List.range 11, ∃ j ∈ List.range 11, i ≤ n ∧ j ≤ n ∧ (layF n i = 1 ∨ 9 * layF n i - layF n j = 1 ∨ layF n i - layF n j = 1 ∨ layF n i - 9 * layF n j = 1) := by decide +kernel
theorem unit_of {m x : Int} {n : Nat} (h2 : 2 ≤ n) (h10 : n ≤ 10) (n6 : n ≠ 6) (n0 : n ≠ 10) (h : ∀ i, i ≤ n → (x * layF n i) % m = 0) : x % m = 0 := by
  obtain ⟨i, _, j, _, hi, hj, hc⟩ := lay_one n (List.mem_range.2 (by omega)) h2 n6 n0
  have a := Int.dvd_of_emod_eq_zero (h i hi)
  have b := Int.dvd_of_emod_eq_zero (h j hj)
  refine Int.emod_eq_zero_of_dvd ?_
  obtain ⟨u, hu⟩ := a
  obtain ⟨v, hv⟩ := b
  obtain ⟨P, hP⟩ : ∃ P, layF n i = P := ⟨_, rfl⟩
  obtain ⟨Q, hQ⟩ : ∃ Q, layF n j = Q := ⟨_, rfl⟩
  rw [hP] at hc hu
  rw [hQ] at hc hv
  rcases hc with e | e | e | e
  · exact ⟨u, by rw [← hu, e, Int.mul_one]⟩
  · exact ⟨9 * u - v, by rw [Int.mul_sub, ← hv, Int.mul_left_comm, ← hu]; grind⟩
  · exact ⟨u - v, by rw [Int.mul_sub, ← hv, ← hu]; grind⟩
  · exact ⟨u - 9 * v, by rw [Int.mul_sub, ← hu, Int.mul_left_comm, ← hv]; grind⟩
end Pl
/-- the factor of a multiple of C(n) -/
theorem facM_mul {m x : Int} {n : Nat} {l : List Int} (m1 : 2 ≤ m) (m2 : m ≤ 10000) (h2 : 2 ≤ n) (h10 : n ≤ 10) (n6 : n ≠ 6) (n0 : n ≠ 10) (h : ∀ i, i ≤ n → Ser.co l i % m = (x * layF n i) % m) :
    Cyc.facM m l n = x % m ∧ (Cyc.facO m l n).isSome = true := by
  have hf : Cyc.Fits m l n (x % m) := fun i hi => by
    rw [Int.sub_emod, h i hi, Int.mul_emod, Int.emod_emod, ← Int.mul_emod, Int.sub_self, Int.zero_emod]
  have hu : ∀ c', Cyc.Fits m l n c' → c' % m = x % m := fun c' hc => by
    refine Int.emod_eq_emod_iff_emod_sub_eq_zero.2 (Pl.unit_of h2 h10 n6 n0 (fun i hi => ?_))
    have h1 := hc i hi
    rw [Int.sub_emod, h i hi, ← Int.sub_emod, ← Int.sub_mul] at h1
    exact h1
  constructor
  · exact Cyc.facM_first m1 m2 (Int.emod_nonneg _ (by omega)) hf (fun c' c0 c1 hc => by
      have := hu c' hc
      have hlt := Int.emod_lt_of_pos x (show 0 < m by omega)
      rw [Int.emod_eq_of_lt c0 (by omega)] at this
      omega)
  · cases hO : Cyc.facO m l n with
    | none => exact absurd hf (Cyc.facO_none m1 m2 hO _)
    | some X => rfl
end Go.Proofs.YtfhdgcndiljjcabGreat

/- Plain: the model's typical law is the whole one, modulo m. -/
namespace Go.Proofs.YtfhdgcndiljjcabGreat
open Go.RowKit
theorem emod_downP {m M x y : Int} (h : x % M = y % M) (hd : m ∣ M) : x % m = y % m := by
  rw [← Int.emod_emod_of_dvd x hd, h, Int.emod_emod_of_dvd y hd]
namespace Pl
theorem pwF_mulx (F : Nat → Nat → Int) (a : Nat) : ∀ b, pwF (pwF F a) b = pwF F (a * b)
  | 0 => rfl
  | b + 1 => by
    show mul2 (pwF (pwF F a) b) (pwF F a) = _
    rw [pwF_mulx F a b, ← Tyc.pwF_add, Nat.mul_succ]
/-- a power of what differs by a multiple of M, modulo the square of M -/
theorem pow_step (M : Int) (d : Nat) (b h : Nat → Nat → Int) : ∀ n, Eq (M * M) d (pwF (pl b (sm M h)) (n + 1)) (pl (pwF b (n + 1)) (sm (((n + 1 : Nat) : Int) * M) (mul2 (pwF b n) h))) := by
  intro n
  induction n with
  | zero =>
    rw [pwF_one, pwF_one]
    show Eq _ _ _ (pl b (sm _ (mul2 (one2 1) h)))
    rw [one2_mul2, one_sm, show ((0 + 1 : Nat) : Int) * M = M by simp]
    exact Eq.refl _ _ _
  | succ n ih =>
    refine (Eq.mul2 ih (Eq.refl _ _ (pl b (sm M h)))).trans ?_
    have e1 : mul2 (pl (pwF b (n + 1)) (sm (((n + 1 : Nat) : Int) * M) (mul2 (pwF b n) h))) (pl b (sm M h))
        = pl (pl (pwF b (n + 2)) (sm (((n + 2 : Nat) : Int) * M) (mul2 (pwF b (n + 1)) h))) (sm (M * M) (sm ((n + 1 : Nat) : Int) (mul2 (mul2 (pwF b n) h) h))) := by
      rw [mul2_pl, pl_mul2, pl_mul2, sm_mul2, mul2_sm, sm_mul2, mul2_sm]
      have e2 : mul2 (mul2 (pwF b n) h) b = mul2 (pwF b (n + 1)) h := by
        show _ = mul2 (mul2 (pwF b n) b) h
        rw [mul2_assoc, mul2_comm h b, ← mul2_assoc]
      rw [e2]
      funext i j
      show (pwF b (n + 2) i j + ((n + 1 : Nat) : Int) * M * mul2 (pwF b (n + 1)) h i j) + (M * mul2 (pwF b (n + 1)) h i j + ((n + 1 : Nat) : Int) * M * (M * mul2 (mul2 (pwF b n) h) h i j)) = (pwF b (n + 2) i j + ((n + 2 : Nat) : Int) * M * mul2 (pwF b (n + 1)) h i j) + M * M * (((n + 1 : Nat) : Int) * mul2 (mul2 (pwF b n) h) h i j)
      rw [show ((n + 2 : Nat) : Int) = ((n + 1 : Nat) : Int) + 1 by omega]
      grind
    rw [e1]
    intro i j _
    show (_ + M * M * _) % (M * M) = _
    rw [Int.add_mul_emod_self_left]
/-- congruent modulo M, a multiple of p: the powers with exponent p are congruent modulo M p -/
theorem pow_lift {M : Int} {d p : Nat} {a b : Nat → Nat → Int} (hp : 1 ≤ p) (hd : (p : Int) ∣ M) (h : Eq M d a b) : Eq (M * p) d (pwF a p) (pwF b p) := by
  have h1 : Tyc.Up d a (pl b (sm M fun i j => (a i j - b i j) / M)) := fun i j hij => by
    show a i j = b i j + M * ((a i j - b i j) / M)
    rw [Int.mul_ediv_cancel' (Int.dvd_of_emod_eq_zero (Int.emod_eq_emod_iff_emod_sub_eq_zero.1 (h i j hij)))]; omega
  have h2 : ∀ q, Tyc.Up d (pwF a q) (pwF (pl b (sm M fun i j => (a i j - b i j) / M)) q) := by
    intro q
    induction q with
    | zero => exact fun _ _ _ => rfl
    | succ q ih => exact Tyc.Up.mul ih h1
  obtain ⟨n, rfl⟩ : ∃ n, p = n + 1 := ⟨p - 1, by omega⟩
  intro i j hij
  rw [h2 (n + 1) i j hij]
  have h3 := pow_step M d b (fun i j => (a i j - b i j) / M) n i j hij
  have h4 := emod_downP h3 (show M * ((n + 1 : Nat) : Int) ∣ M * M from Int.mul_dvd_mul_left M hd)
  rw [h4]
  show (pwF b (n + 1) i j + ((n + 1 : Nat) : Int) * M * _) % _ = _
  rw [Int.mul_comm ((n + 1 : Nat) : Int) M, Int.add_mul_emod_self_left]
theorem pow_lifts {M : Int} {d p : Nat} {a b : Nat → Nat → Int} (hp : 1 ≤ p) (hd : (p : Int) ∣ M) (h : Eq M d a b) : ∀ e, Eq (M * ((p ^ e : Nat) : Int)) d (pwF a (p ^ e)) (pwF b (p ^ e)) := by
  intro e
  induction e with
  | zero =>
    rw [Nat.pow_zero, pwF_one, pwF_one]
    rw [show M * ((1 : Nat) : Int) = M by simp]
    exact h
  | succ e ih =>
    have := pow_lift (M := M * ((p ^ e : Nat) : Int)) hp (Int.dvd_trans hd ⟨_, rfl⟩) ih
    rw [pwF_mulx, pwF_mulx, ← Nat.pow_succ, Int.mul_assoc, ← Int.natCast_mul, ← Nat.pow_succ] at this
    exact this
/-- the coefficients of degree n of powers from the second on need those below n alone -/
theorem pwF_below {F G : Nat → Nat → Int} {n : Nat} (h0 : F 0 0 = 0) (g0 : G 0 0 = 0) (h : ∀ i j, i + j < n → F i j = G i j) : ∀ q i j, i + j ≤ n → 2 ≤ q → pwF F q i j = pwF G q i j := by
  have hb : ∀ q i j, i + j < n → pwF F q i j = pwF G q i j := by
    intro q
    induction q with
    | zero => intro i j _; rfl
    | succ q ih =>
      intro i j hij
      exact mul2_ext_at i j (fun k l hk hl => by rw [ih k l (by omega), h (i - k) (j - l) (by omega)])
  intro q i j hij hq
  obtain ⟨r, rfl⟩ : ∃ r, q = r + 1 := ⟨q - 1, by omega⟩
  refine mul2_ext_at i j (fun k l hk hl => ?_)
  by_cases h1 : k + l = 0
  · obtain ⟨rfl, rfl⟩ : k = 0 ∧ l = 0 := by omega
    rw [pwF_low h0 r 0 0 (by omega), pwF_low g0 r 0 0 (by omega), Int.zero_mul, Int.zero_mul]
  · by_cases h2 : k + l < n
    · rw [hb r k l h2, h (i - k) (j - l) (by omega)]
    · rw [show i - k = 0 by omega, show j - l = 0 by omega, h0, g0, Int.mul_zero, Int.mul_zero]
end Pl
namespace Tyc
/-- at the sides and in degree 1 the law is x + y -/
theorem side_get : ∀ p ∈ [2, 3, 5, 7], ∀ j ∈ List.range 11, (get (FLp p) 0 j).map (fun x => (x.c, x.a, x.b, x.e)) = (if j = 1 then [(1, 0, 0, 0)] else []) ∧ (get (FLp p) j 0).map (fun x => (x.c, x.a, x.b, x.e)) = (if j = 1 then [(1, 0, 0, 0)] else []) := by decide +kernel
theorem pev_one {P : Po} (v : Nat → Int) (h : P.map (fun x => (x.c, x.a, x.b, x.e)) = [(1, 0, 0, 0)]) : pev v P = 1 := by
  match P, h with
  | [⟨c, a, b, e⟩], h =>
    simp only [List.map_cons, List.map_nil, List.cons.injEq, Prod.mk.injEq, and_true] at h
    obtain ⟨rfl, rfl, rfl, rfl⟩ := h
    show 1 * (v 0 ^ 0 * (v 1 ^ 0 * v 2 ^ 0)) + 0 = 1
    rw [Int.pow_zero, Int.pow_zero, Int.pow_zero]; rfl
theorem pev_none {P : Po} (v : Nat → Int) (h : P.map (fun x => (x.c, x.a, x.b, x.e)) = []) : pev v P = 0 := by
  rw [List.map_eq_nil_iff] at h
  rw [h]; rfl
theorem fam_side {p : Nat} (hp : p = 2 ∨ p = 3 ∨ p = 5 ∨ p = 7) (v : Nat → Int) {i j : Nat} (h : i = 0 ∨ j = 0) (h2 : i + j ≤ 10) : fam p v i j = Pl.xyF i j := by
  have key := fun k (hk : k ≤ 10) => side_get p (in4 hp) k (List.mem_range.2 (by omega))
  unfold fam evT
  rcases h with rfl | rfl
  · obtain ⟨h1, -⟩ := key j (by omega)
    unfold Pl.xyF
    by_cases hj : j = 1
    · rw [if_pos hj] at h1
      rw [pev_one v h1, hj]; rfl
    · rw [if_neg hj] at h1
      rw [pev_none v h1, if_neg (by omega), if_neg (by omega)]; rfl
  · obtain ⟨-, h1⟩ := key i (by omega)
    unfold Pl.xyF
    by_cases hi : i = 1
    · rw [if_pos hi] at h1
      rw [pev_one v h1, hi]; rfl
    · rw [if_neg hi] at h1
      rw [pev_none v h1, if_neg (by omega), if_neg (by omega)]; rfl
end Tyc
namespace Pl
/-- cut below the degree n -/
def below (n : Nat) (F : Nat → Nat → Int) : Nat → Nat → Int := fun i j => if i + j < n then F i j else 0
theorem psum_split (f : Nat → Int) : ∀ k, Ser.psum f (k + 1) = f 0 + Ser.psum (fun i => f (i + 1)) k
  | 0 => by show 0 + f 0 = f 0 + 0; omega
  | k + 1 => by
    rw [Ser.psum, psum_split f k, Ser.psum]; omega
theorem need_le : ∀ p ∈ [2, 3, 5, 7], ∀ D ∈ List.range 11, needN p D ≤ Tyc.n10 p ∧ D < p ^ (needN p D + 1) := by decide
/-- the sum of what is below the degree n is what is due there -/
theorem rest_fam {p D : Nat} (hp : p = 2 ∨ p = 3 ∨ p = 5 ∨ p = 7) (hD : D ≤ 10) (v : Nat → Int) {i j : Nat} (h1 : 1 ≤ i) (h2 : 1 ≤ j) (h3 : i + j ≤ D) :
    restF p (needN p D) (Nmr.num p v) (below (i + j) (Tyc.fam p v)) (needN p D + 1) i j = -(((p ^ needN p D : Nat) : Int) * Tyc.fam p v i j) := by
  have hz := Tyc.hazewinkel hp v h1 h2 (by omega)
  obtain ⟨hN, hDp⟩ := need_le p (in4 hp) D (List.mem_range.2 (by omega))
  obtain ⟨N, hNN⟩ : ∃ N, needN p D = N := ⟨_, rfl⟩
  rw [hNN] at hN hDp ⊢
  have hf0 : Tyc.fam p v 0 0 = 0 := Tyc.fam_side hp v (.inl rfl) (by omega)
  obtain ⟨F, hF⟩ : ∃ F, Tyc.fam p v = F := ⟨_, rfl⟩
  rw [hF] at hz hf0 ⊢
  obtain ⟨A, hA⟩ : ∃ A, Nmr.num p v = A := ⟨_, rfl⟩
  have hA0 : A 0 = 1 := by rw [← hA]; rfl
  rw [hA] at hz ⊢
  -- all of it with F
  have hS : Ser.psum (fun e => (p : Int) ^ (N - e) * A e * pwF F (p ^ e) i j) (N + 1) = 0 := by
    have e1 : Ser.psum (fun e => (p : Int) ^ (Tyc.n10 p - e) * A e * pwF F (p ^ e) i j) (Tyc.n10 p + 1) = Ser.psum (fun e => (p : Int) ^ (Tyc.n10 p - e) * A e * pwF F (p ^ e) i j) (N + 1) :=
      psum_cut _ _ _ (by omega) (fun e he1 he2 => by
        have : p ^ (N + 1) ≤ p ^ e := Nat.pow_le_pow_right (by omega) he1
        rw [pwF_low hf0 _ _ _ (by omega), Int.mul_zero])
    rw [e1] at hz
    have e2 : Ser.psum (fun e => (p : Int) ^ (Tyc.n10 p - e) * A e * pwF F (p ^ e) i j) (N + 1) = (p : Int) ^ (Tyc.n10 p - N) * Ser.psum (fun e => (p : Int) ^ (N - e) * A e * pwF F (p ^ e) i j) (N + 1) := by
      rw [← Ser.psum_mul]
      refine Ser.psum_ext _ (fun e he => ?_)
      rw [show Tyc.n10 p - e = (Tyc.n10 p - N) + (N - e) by omega, Int.pow_add, Int.mul_assoc, Int.mul_assoc, Int.mul_assoc]
    rw [e2] at hz
    rcases Int.mul_eq_zero.1 hz with h | h
    · exact absurd h (Int.pow_ne_zero (by omega))
    · exact h
  unfold restF
  rw [psum_split] at hS ⊢
  have hg0 : below (i + j) F 0 0 = 0 := by unfold below; rw [if_pos (by omega)]; exact hf0
  have hb : ∀ a b, a + b < i + j → below (i + j) F a b = F a b := fun a b h => if_pos h
  have e3 : Ser.psum (fun e => (p : Int) ^ (N - (e + 1)) * A (e + 1) * sub2 (pwF (below (i + j) F) (p ^ (e + 1))) (p ^ (e + 1)) i j) N = Ser.psum (fun e => (p : Int) ^ (N - (e + 1)) * A (e + 1) * pwF F (p ^ (e + 1)) i j) N :=
    Ser.psum_ext _ (fun e he => by
      have hq : 2 ≤ p ^ (e + 1) := by
        have : p ^ 1 ≤ p ^ (e + 1) := Nat.pow_le_pow_right (by omega) (by omega)
        rw [Nat.pow_one] at this; omega
      rw [sub2_in _ _ _ _ h1 h2, pwF_below hg0 hf0 hb _ i j (Nat.le_refl _) hq])
  rw [e3]
  rw [Nat.sub_zero, hA0, Nat.pow_zero, sub2_in _ _ _ _ h1 h2, pwF_one]
  rw [Nat.sub_zero, hA0, Nat.pow_zero, pwF_one] at hS
  have e4 : below (i + j) F i j = 0 := if_neg (by omega)
  rw [e4, Int.mul_zero, Int.natCast_pow]
  rw [Int.mul_one] at hS
  omega
end Pl
namespace Pl
theorem lwF_high (p N : Nat) (top W : Int) (A : Nat → Int) : ∀ k i j, k + 1 < i + j → lwF p N top W A k i j = 0
  | 0, i, j, h => by
    show xyF i j = 0
    unfold xyF
    rw [if_neg (by omega), if_neg (by omega)]; rfl
  | k + 1, i, j, h => by
    show (if i + j = k + 2 ∧ 1 ≤ i ∧ 1 ≤ j then _ else lwF p N top W A k i j) = 0
    rw [if_neg (by omega)]
    exact lwF_high p N top W A k i j (by omega)
theorem mul_lift {K q a x y : Int} (h : x % K = y % K) : (q * a * x) % (K * q) = (q * a * y) % (K * q) := by
  obtain ⟨u, hu⟩ := Int.dvd_of_emod_eq_zero (Int.emod_eq_emod_iff_emod_sub_eq_zero.1 h)
  have e : q * a * x = q * a * y + K * q * (a * u) := by
    have : x = y + K * u := by omega
    rw [this]; grind
  rw [e, Int.add_mul_emod_self_left]
theorem lwF_fam {p D : Nat} {m : Int} (hp : p = 2 ∨ p = 3 ∨ p = 5 ∨ p = 7) (m1 : 2 ≤ m) (hD : D ≤ 10) (v : Nat → Int) : ∀ k, k + 1 ≤ D → ∀ i j, i + j ≤ k + 1 →
    lwF p (needN p D) ((p ^ needN p D : Nat) : Int) (tyW p m D) (Nmr.num p v) k i j % (m * (p : Int)) = Tyc.fam p v i j % (m * (p : Int)) := by
  intro k
  induction k with
  | zero =>
    intro _ i j hij
    show xyF i j % _ = _
    rw [Tyc.fam_side hp v (by omega) (by omega)]
  | succ k ih =>
    intro hk i j hij
    have ih := ih (by omega)
    have hrf := fun h1 h2 h3 => rest_fam (D := D) hp hD v (i := i) (j := j) h1 h2 h3
    have hside := fun h h2 => Tyc.fam_side hp v (i := i) (j := j) h h2
    obtain ⟨N, hN⟩ : ∃ N, needN p D = N := ⟨_, rfl⟩
    have hW : tyW p m D = ((p ^ N : Nat) : Int) * (m * (p : Int)) := by
      unfold tyW; rw [hN, Int.mul_comm m, Int.mul_assoc]
    rw [hN] at ih hrf ⊢
    obtain ⟨W, hWW⟩ : ∃ W, tyW p m D = W := ⟨_, rfl⟩
    rw [hWW] at ih hW ⊢
    obtain ⟨A, hA⟩ : ∃ A, Nmr.num p v = A := ⟨_, rfl⟩
    rw [hA] at ih hrf ⊢
    obtain ⟨F, hF⟩ : ∃ F, Tyc.fam p v = F := ⟨_, rfl⟩
    rw [hF] at ih hrf hside ⊢
    have hT : 0 < ((p ^ N : Nat) : Int) := by have := Nat.pow_pos (n := N) (show 0 < p by omega); omega
    have hM : 0 < m * (p : Int) := Int.mul_pos (by omega) (by omega)
    show (if i + j = k + 2 ∧ 1 ≤ i ∧ 1 ≤ j then dueF p N ((p ^ N : Nat) : Int) W A (lwF p N ((p ^ N : Nat) : Int) W A k) i j else lwF p N ((p ^ N : Nat) : Int) W A k i j) % _ = _
    by_cases hc : i + j = k + 2 ∧ 1 ≤ i ∧ 1 ≤ j
    · rw [if_pos hc]
      have hEq : Eq (m * (p : Int)) (i + j) (lwF p N ((p ^ N : Nat) : Int) W A k) (below (i + j) F) := fun a b hab => by
        unfold below
        by_cases hlt : a + b < i + j
        · rw [if_pos hlt]; exact ih a b (by omega)
        · rw [if_neg hlt, lwF_high p N _ W A k a b (by omega)]
      have hlift := pow_lifts (show 1 ≤ p by omega) (show (p : Int) ∣ m * (p : Int) from ⟨m, Int.mul_comm _ _⟩) hEq
      have hR : restF p N A (lwF p N ((p ^ N : Nat) : Int) W A k) (N + 1) i j % W = restF p N A (below (i + j) F) (N + 1) i j % W :=
        psum_cong _ (fun e he => by
          rw [sub2_in _ _ _ _ hc.2.1 hc.2.2, sub2_in _ _ _ _ hc.2.1 hc.2.2]
          have h1 := mul_lift (q := (p : Int) ^ (N - e)) (a := A e) (hlift e i j (Nat.le_refl _))
          have h2 : m * (p : Int) * ((p ^ e : Nat) : Int) * (p : Int) ^ (N - e) = W := by
            rw [hW, Int.mul_assoc (m * (p : Int)), Int.natCast_pow, Int.natCast_pow, ← Int.pow_add, show e + (N - e) = N by omega, Int.mul_comm]
          rw [h2] at h1
          exact h1)
      unfold dueF
      rw [hR, hrf hc.2.1 hc.2.2 (by omega)]
      have hs := div_shift (r := 0) (z := -(F i j)) hT hM hW
      rw [Int.zero_add, Int.zero_emod, Int.zero_ediv, Int.zero_add, Int.mul_neg] at hs
      obtain ⟨Q, hQ⟩ : ∃ Q, -(((p ^ N : Nat) : Int) * F i j) % W / ((p ^ N : Nat) : Int) = Q := ⟨_, rfl⟩
      rw [hQ] at hs ⊢
      rw [Int.emod_emod_of_dvd _ (show m * (p : Int) ∣ W from ⟨((p ^ N : Nat) : Int), by rw [hW, Int.mul_comm]⟩)]
      have := Ser.mul_cong (m := m * (p : Int)) (x := -1) (y := -1) rfl hs
      rw [Int.neg_mul, Int.one_mul, Int.neg_mul, Int.one_mul, Int.neg_neg] at this
      exact this
    · rw [if_neg hc]
      by_cases h2 : i + j ≤ k + 1
      · exact ih i j h2
      · rw [lwF_side _ _ _ _ _ _ _ _ (by omega), hside (by omega) (by omega)]
end Pl
/-- the model's typical law is the whole one modulo m -/
theorem lawT_fam {p D : Nat} {m : Int} (hp : p = 2 ∨ p = 3 ∨ p = 5 ∨ p = 7) (m1 : 2 ≤ m) (d1 : 1 ≤ D) (hD : D ≤ 10) (v : Nat → Int) : lawT p m D v = Pl.tab m D (Tyc.fam p v) :=
  Pl.tab_congr (fun i j hij => emod_downP (Pl.lwF_fam hp m1 hD v (D - 1) (by omega) i j (by omega)) ⟨(p : Int), rfl⟩)
end Go.Proofs.YtfhdgcndiljjcabGreat

/- Plain facts on the Weierstrass series and on square roots of series: no program in sight. -/
namespace Go.Proofs.YtfhdgcndiljjcabGreat
namespace Ser
theorem cv_congr_curves {m : Int} {f f' b b' : Nat → Int} {n : Nat} (hf : f 0 = 0) (hf' : f' 0 = 0) (hb : b 0 = 0) (hb' : b' 0 = 0) (h : Eq m n f f') (k : Eq m n b b') : cv (n + 1) f b % m = cv (n + 1) f' b' % m := by
  rw [cv_succ, cv_succ, hf, hf', Int.zero_mul, Int.zero_mul, Int.zero_add, Int.zero_add, cv_comm (sh f), cv_comm (sh f')]
  exact cv_congr_curve (by rw [hb]; rfl) (by rw [hb']; rfl) k (fun i hi => h (i + 1) (by omega))
/-- the right side of the equation of the Weierstrass series -/
def weiB (a3 a4 a6 : Int) (w : Nat → Int) : Nat → Int := fun n => (mon 0 a3 n + mon 1 a4 n) + w n * a6
def weiA (a1 a2 a3 a4 a6 : Int) (w : Nat → Int) : Nat → Int := fun n => (mon 1 a1 n + mon 2 a2 n) + mul w (weiB a3 a4 a6 w) n
def weiF (a1 a2 a3 a4 a6 : Int) (w : Nat → Int) : Nat → Int := fun n => mon 3 1 n + mul w (weiA a1 a2 a3 a4 a6 w) n
theorem weiA_zero (a1 a2 a3 a4 a6 : Int) {w : Nat → Int} (h : w 0 = 0) : weiA a1 a2 a3 a4 a6 w 0 = 0 := by
  show mon 1 a1 0 + mon 2 a2 0 + cv 0 w _ = 0
  rw [cv_zero, h]; simp [mon]
theorem weiF_zero (a1 a2 a3 a4 a6 : Int) {w : Nat → Int} (h : w 0 = 0) : weiF a1 a2 a3 a4 a6 w 0 = 0 := by
  show mon 3 1 0 + cv 0 w _ = 0
  rw [cv_zero, h]; simp [mon]
theorem weiB_congr {m : Int} {k : Nat} (a3 a4 a6 : Int) {w w' : Nat → Int} (h : Eq m k w w') : Eq m k (weiB a3 a4 a6 w) (weiB a3 a4 a6 w') := fun i hi => add_cong rfl (mul_cong (h i hi) rfl)
theorem weiA_congr {m : Int} {k : Nat} (a1 a2 a3 a4 a6 : Int) {w w' : Nat → Int} (h : Eq m k w w') : Eq m k (weiA a1 a2 a3 a4 a6 w) (weiA a1 a2 a3 a4 a6 w') := fun i hi => add_cong rfl (Eq.mul h (weiB_congr a3 a4 a6 h) i hi)
/-- one degree more is right -/
theorem weiF_congr {m : Int} {k : Nat} (a1 a2 a3 a4 a6 : Int) {w w' : Nat → Int} (h0 : w 0 = 0) (h0' : w' 0 = 0) (h : Eq m k w w') : Eq m (k + 1) (weiF a1 a2 a3 a4 a6 w) (weiF a1 a2 a3 a4 a6 w') := by
  intro i hi
  refine add_cong rfl ?_
  by_cases hk : i ≤ k
  · exact Eq.mul h (weiA_congr a1 a2 a3 a4 a6 h) i hk
  · obtain rfl : i = k + 1 := by omega
    exact cv_congr_curves h0 h0' (weiA_zero _ _ _ _ _ h0) (weiA_zero _ _ _ _ _ h0') h (weiA_congr a1 a2 a3 a4 a6 h)
/-- the program's rounds -/
def addL (m : Int) (d : Nat) (l l' : List Int) : List Int := cut m d fun n => co l n + co l' n
/-- what the model's list is when the coefficients below n have come -/
structure WeiN (m : Int) (D : Nat) (a1 a2 a3 a4 a6 : Int) (L : List Int) (n : Nat) : Prop where
  len : L.length = D + 1
  red : Red m L
  zero : ∀ i, i < 3 → co L i = 0
  last : ∀ i, n ≤ i → co L i = 0
  fix : ∀ i, i < n → co L i = weiF a1 a2 a3 a4 a6 (co L) i % m
theorem weiF_low (a1 a2 a3 a4 a6 : Int) {w : Nat → Int} (h : ∀ i, i < 3 → w i = 0) (i : Nat) (hi : i < 3) : weiF a1 a2 a3 a4 a6 w i = 0 := by
  have : cv i w (weiA a1 a2 a3 a4 a6 w) = 0 := by
    rw [cv_psum]
    exact psum_low _ _ (fun j hj => by rw [h j (by omega), Int.zero_mul])
  show mon 3 1 i + cv i w _ = 0
  rw [this]
  unfold mon
  rw [if_neg (by omega)]; rfl
theorem co_zeros0 (n i : Nat) : co (List.replicate n (0 : Int)) i = 0 := co_zeros n i
theorem WeiN.start {m : Int} (hm : 0 < m) (D : Nat) (a1 a2 a3 a4 a6 : Int) : WeiN m D a1 a2 a3 a4 a6 (List.replicate (D + 1) 0) 3 := by
  have z : ∀ i, co (List.replicate (D + 1) (0 : Int)) i = 0 := fun i => co_zeros0 _ i
  refine ⟨List.length_replicate, fun i => by rw [z]; omega, fun i _ => z i, fun i _ => z i, fun i hi => ?_⟩
  rw [weiF_low _ _ _ _ _ (fun j _ => z j) i hi, z, Int.zero_emod]
theorem WeiN.step {m : Int} (hm : 0 < m) {D : Nat} {a1 a2 a3 a4 a6 : Int} {L : List Int} {n : Nat} (h : WeiN m D a1 a2 a3 a4 a6 L n) (hn : 3 ≤ n) (hD : n ≤ D) {v : Int} (hv : v = weiF a1 a2 a3 a4 a6 (co L) n % m) : WeiN m D a1 a2 a3 a4 a6 (L.set n v) (n + 1) := by
  have hs : ∀ i, co (L.set n v) i = if i = n then v else co L i := fun i => co_set (by rw [h.len]; omega) _ i
  have he : ∀ k, k < n → Eq m k (co (L.set n v)) (co L) := fun k hk i hi => by rw [hs, if_neg (by omega)]
  have h0 : co L 0 = 0 := h.zero 0 (by omega)
  have h0' : co (L.set n v) 0 = 0 := by rw [hs, if_neg (by omega), h0]
  refine ⟨by rw [List.length_set, h.len], fun i => ?_, fun i hi => ?_, fun i hi => ?_, fun i hi => ?_⟩
  · rw [hs]
    split
    · rw [hv]; exact ⟨Int.emod_nonneg _ (by omega), Int.emod_lt_of_pos _ hm⟩
    · exact h.red i
  · rw [hs, if_neg (by omega)]; exact h.zero i hi
  · rw [hs, if_neg (by omega)]; exact h.last i (by omega)
  · rcases i with _ | i
    · rw [h0', weiF_zero _ _ _ _ _ h0', Int.zero_emod]
    · have := weiF_congr a1 a2 a3 a4 a6 h0' h0 (he i (by omega)) (i + 1) (Nat.le_refl _)
      rw [this, hs]
      by_cases hi' : i + 1 = n
      · rw [if_pos hi', hv, hi']
      · rw [if_neg hi']; exact h.fix (i + 1) (by omega)
/-! square roots -/
end Ser
end Go.Proofs.YtfhdgcndiljjcabGreat

/- Plain facts on the Weierstrass law: substitution is a passage, quotients as series, the two ways to the law: no program in sight. -/
namespace Go.Proofs.YtfhdgcndiljjcabGreat
namespace Pl
open Ser (psum cv)
theorem mul2_psum' (g : Nat → Nat → Nat → Int) (F : Nat → Nat → Int) (p q n : Nat) : mul2 F (fun i j => psum (fun k => g k i j) n) p q = psum (fun k => mul2 F (g k) p q) n := by
  rw [mul2_comm, mul2_psum]
  exact Ser.psum_ext _ (fun k _ => by rw [mul2_comm])
theorem pw2_add (F : Nat → Nat → Int) (i : Nat) : ∀ j, mul2 (pw2 F i) (pw2 F j) = pw2 F (i + j) := by
  intro j
  induction j with
  | zero => show mul2 _ (one2 1) = _; rw [mul2_one2, one_sm]; rfl
  | succ j ih => show mul2 _ (mul2 (pw2 F j) F) = mul2 (pw2 F (i + j)) F; rw [← mul2_assoc, ih]
theorem pw2_lowW {F : Nat → Nat → Int} (h : F 0 0 = 0) : ∀ k p q, p + q < k → pw2 F k p q = 0 := by
  intro k
  induction k with
  | zero => intro p q h; omega
  | succ k ih =>
    intro p q hpq
    show mul2 (pw2 F k) F p q = 0
    unfold mul2
    refine Ser.psum_low _ _ (fun i hi => Ser.psum_low _ _ (fun j hj => ?_))
    by_cases hk : i + j < k
    · rw [ih i j hk, Int.zero_mul]
    · rw [show p - i = 0 by omega, show q - j = 0 by omega, h, Int.mul_zero]
/-- substitution leads products to products -/
theorem aft_mul (f g : Nat → Int) {F : Nat → Nat → Int} (h : F 0 0 = 0) (d p q : Nat) (hpq : p + q ≤ d) : mul2 (aft f F (d + 1)) (aft g F (d + 1)) p q = aft (Ser.mul f g) F (d + 1) p q := by
  have e1 : mul2 (aft f F (d + 1)) (aft g F (d + 1)) p q = psum (fun i => psum (fun j => f i * g j * pw2 F (i + j) p q) (d + 1)) (d + 1) := by
    unfold aft
    rw [mul2_psum (fun i p q => f i * pw2 F i p q)]
    refine Ser.psum_ext _ (fun i _ => ?_)
    rw [mul2_psum' (fun j p q => g j * pw2 F j p q)]
    refine Ser.psum_ext _ (fun j _ => ?_)
    have : mul2 (sm (f i) (pw2 F i)) (sm (g j) (pw2 F j)) = sm (f i * g j) (pw2 F (i + j)) := by rw [sm_mul2, mul2_sm, pw2_add, sm_sm]
    exact congrFun (congrFun this p) q
  have e2 : psum (fun i => psum (fun j => f i * g j * pw2 F (i + j) p q) (d + 1)) (d + 1) = psum (fun i => psum (fun j => f i * g j * pw2 F (i + j) p q) (d - i + 1)) (d + 1) := by
    refine Ser.psum_ext _ (fun i hi => ?_)
    exact psum_cut _ (d - i + 1) (d + 1) (by omega) (fun j h1 _ => by rw [pw2_lowW h _ _ _ (by omega), Int.mul_zero])
  rw [e1, e2, ← Ser.psum_tri d (fun i j _ => f i * g j * pw2 F (i + j) p q)]
  unfold aft
  refine Ser.psum_ext _ (fun n hn => ?_)
  rw [Ser.mul_at, Ser.cv_psum, ← Ser.psum_mul']
  refine Ser.psum_ext _ (fun i hi => ?_)
  rw [show i + (n - i) = n by omega]
theorem aft_add (f g : Nat → Int) (F : Nat → Nat → Int) (n : Nat) : aft (fun i => f i + g i) F n = pl (aft f F n) (aft g F n) := by
  funext p q
  show psum _ n = psum _ n + psum _ n
  rw [← Ser.psum_add]
  exact Ser.psum_ext _ (fun i _ => Int.add_mul _ _ _)
theorem aft_smul (c : Int) (f : Nat → Int) (F : Nat → Nat → Int) (n : Nat) : aft (fun i => c * f i) F n = sm c (aft f F n) := by
  funext p q
  show psum _ n = c * psum _ n
  rw [← Ser.psum_mul]
  exact Ser.psum_ext _ (fun i _ => Int.mul_assoc _ _ _)
theorem aft_mon (k : Nat) (c : Int) (F : Nat → Nat → Int) (n : Nat) (h : k < n) : aft (Ser.mon k c) F n = sm c (pw2 F k) := by
  funext p q
  show psum _ n = c * pw2 F k p q
  rw [psum_one _ k _ (fun i _ hi => by unfold Ser.mon; rw [if_neg hi, Int.zero_mul]), if_pos h]
  unfold Ser.mon
  rw [if_pos rfl]
theorem pw2_one (F : Nat → Nat → Int) : pw2 F 1 = F := by show mul2 (one2 1) F = F; rw [one2_mul2, one_sm]
theorem aft_t (c : Int) (F : Nat → Nat → Int) (n : Nat) (h : 1 < n) : aft (Ser.mon 1 c) F n = sm c F := by rw [aft_mon 1 c F n h, pw2_one]
theorem aft_c (c : Int) (F : Nat → Nat → Int) (n : Nat) (h : 0 < n) : aft (Ser.mon 0 c) F n = one2 c := by
  rw [aft_mon 0 c F n h]
  show sm c (one2 1) = _
  rw [sm_one2, Int.mul_one]
/-! the two ways -/
end Pl
end Go.Proofs.YtfhdgcndiljjcabGreat

/- Plain: laws with tables in both places, homomorphisms of a law to itself, and the degree in which they begin. -/
namespace Go.Proofs.YtfhdgcndiljjcabGreat
namespace Pl
open Ser (psum pw)
/-- a series of tables at a table -/
def aftR (f : Nat → Nat → Nat → Int) (A : Nat → Nat → Int) (n : Nat) : Nat → Nat → Int := fun p q => psum (fun i => mul2 (f i) (pw2 A i) p q) n
theorem aftR_congr {m : Int} {d : Nat} {f g : Nat → Nat → Nat → Int} {A A' : Nat → Nat → Int} (n : Nat) (h : ∀ i, i < n → Eq m d (f i) (g i)) (k : Eq m d A A') : Eq m d (aftR f A n) (aftR g A' n) :=
  fun p q hpq => Ser.psum_congr _ (fun i hi => mul2_congr (h i hi) (pw2_congr k i) p q hpq)
/-- nothing below the degree k -/
def LowT (k : Nat) (X : Nat → Nat → Int) : Prop := ∀ p q, p + q < k → X p q = 0
theorem LowT.mul {k l : Nat} {X Y : Nat → Nat → Int} (h : LowT k X) (g : LowT l Y) : LowT (k + l) (mul2 X Y) := by
  intro p q hpq
  unfold mul2
  refine psum_nil _ _ (fun x hx => psum_nil _ _ (fun y hy => ?_))
  by_cases e : x + y < k
  · rw [h x y e, Int.zero_mul]
  · rw [g (p - x) (q - y) (by omega), Int.mul_zero]
theorem LowT.pw {A : Nat → Nat → Int} (h : A 0 0 = 0) (k : Nat) : LowT k (pw2 A k) := fun p q hpq => pw2_lowW h k p q hpq
theorem LowT.none (X : Nat → Nat → Int) : LowT 0 X := fun p q h => absurd h (by omega)
theorem aftR_mul (f g : Nat → Nat → Nat → Int) {A : Nat → Nat → Int} (h : A 0 0 = 0) (d p q : Nat) (hpq : p + q ≤ d) :
    mul2 (aftR f A (d + 1)) (aftR g A (d + 1)) p q = aftR (fun n p q => psum (fun i => mul2 (f i) (g (n - i)) p q) (n + 1)) A (d + 1) p q := by
  have e1 : mul2 (aftR f A (d + 1)) (aftR g A (d + 1)) p q = psum (fun i => psum (fun j => mul2 (mul2 (f i) (g j)) (pw2 A (i + j)) p q) (d + 1)) (d + 1) := by
    unfold aftR
    rw [mul2_psum (fun i => mul2 (f i) (pw2 A i))]
    refine Ser.psum_ext _ (fun i _ => ?_)
    rw [mul2_psum' (fun j => mul2 (g j) (pw2 A j))]
    refine Ser.psum_ext _ (fun j _ => ?_)
    rw [← pw2_add, mul2_assoc (f i), mul2_assoc (f i), mul2_lc (pw2 A i)]
  have e2 : psum (fun i => psum (fun j => mul2 (mul2 (f i) (g j)) (pw2 A (i + j)) p q) (d + 1)) (d + 1) = psum (fun i => psum (fun j => mul2 (mul2 (f i) (g j)) (pw2 A (i + j)) p q) (d - i + 1)) (d + 1) := by
    refine Ser.psum_ext _ (fun i hi => ?_)
    exact psum_cut _ (d - i + 1) (d + 1) (by omega) (fun j h1 _ => ((LowT.none _).mul (LowT.pw h (i + j))) p q (by omega))
  rw [e1, e2, ← Ser.psum_tri d (fun i j _ => mul2 (mul2 (f i) (g j)) (pw2 A (i + j)) p q)]
  unfold aftR
  refine Ser.psum_ext _ (fun n hn => ?_)
  rw [mul2_psum (fun i => mul2 (f i) (g (n - i)))]
  refine Ser.psum_ext _ (fun i hi => ?_)
  rw [show i + (n - i) = n by omega]
theorem aft_psum (f : Nat → Nat → Int) (k : Nat) (B : Nat → Nat → Int) (n p q : Nat) : aft (fun j => psum (fun x => f x j) k) B n p q = psum (fun x => aft (f x) B n p q) k := by
  unfold aft
  rw [Ser.psum_swap]
  exact Ser.psum_ext _ (fun i _ => (Ser.psum_mul' _ _ _).symm)
theorem mul2_aft (f : Nat → Int) (B X : Nat → Nat → Int) (n p q : Nat) : mul2 (aft f B n) X p q = psum (fun j => f j * mul2 (pw2 B j) X p q) n := by
  unfold aft
  rw [mul2_psum (fun j p q => f j * pw2 B j p q)]
  exact Ser.psum_ext _ (fun j _ => mul2_smul _ _ _ _ _)
/-- G with a table in each place -/
def sb (G A B : Nat → Nat → Int) (n : Nat) : Nat → Nat → Int := aftR (fun i => aft (G i) B n) A n
theorem sb_congr {m : Int} {d : Nat} (G : Nat → Nat → Int) {A A' B B' : Nat → Nat → Int} (n : Nat) (h : Eq m d A A') (k : Eq m d B B') : Eq m d (sb G A B n) (sb G A' B' n) :=
  aftR_congr n (fun _ _ => aft_congr n (fun _ _ => rfl) k) h
theorem sb_at (G A B : Nat → Nat → Int) (n p q : Nat) : sb G A B n p q = psum (fun i => psum (fun j => G i j * mul2 (pw2 B j) (pw2 A i) p q) n) n :=
  Ser.psum_ext _ (fun _ _ => mul2_aft _ _ _ _ _ _)
theorem sb_mul {A B : Nat → Nat → Int} (hA : A 0 0 = 0) (hB : B 0 0 = 0) (m : Int) (d : Nat) (G H : Nat → Nat → Int) : Eq m d (sb (mul2 G H) A B (d + 1)) (mul2 (sb G A B (d + 1)) (sb H A B (d + 1))) := by
  have e : Eq m d (aftR (fun i => aft (mul2 G H i) B (d + 1)) A (d + 1)) (aftR (fun n p q => psum (fun k => mul2 (aft (G k) B (d + 1)) (aft (H (n - k)) B (d + 1)) p q) (n + 1)) A (d + 1)) :=
    aftR_congr _ (fun i _ p q hpq => by
      have e1 : mul2 G H i = fun j => psum (fun k => Ser.mul (G k) (H (i - k)) j) (i + 1) := by
        funext j; unfold mul2; exact Ser.psum_ext _ (fun k _ => by rw [Ser.mul_at, Ser.cv_psum])
      show aft (mul2 G H i) B (d + 1) p q % m = _
      rw [e1, aft_psum]
      have e2 : psum (fun k => aft (Ser.mul (G k) (H (i - k))) B (d + 1) p q) (i + 1) = psum (fun k => mul2 (aft (G k) B (d + 1)) (aft (H (i - k)) B (d + 1)) p q) (i + 1) :=
        Ser.psum_ext _ (fun k _ => (aft_mul (G k) (H (i - k)) hB d p q hpq).symm)
      rw [e2]) (Eq.refl _ _ _)
  intro p q hpq
  have h2 := aftR_mul (fun i => aft (G i) B (d + 1)) (fun i => aft (H i) B (d + 1)) hA d p q hpq
  have h3 : mul2 (sb G A B (d + 1)) (sb H A B (d + 1)) p q = aftR (fun n p q => psum (fun k => mul2 (aft (G k) B (d + 1)) (aft (H (n - k)) B (d + 1)) p q) (n + 1)) A (d + 1) p q := h2
  rw [h3]
  exact e p q hpq
theorem aft_zero (B : Nat → Nat → Int) (n : Nat) : aft (fun _ => 0) B n = fun _ _ => 0 := by
  funext p q
  exact psum_nil _ _ (fun i _ => Int.zero_mul _)
theorem sb_one (A B : Nat → Nat → Int) (d : Nat) : sb (one2 1) A B (d + 1) = one2 1 := by
  funext p q
  unfold sb aftR
  rw [psum_at _ 0 (d + 1) (by omega) (fun i _ hi => by
    have : one2 1 i = fun _ => 0 := by funext j; unfold one2; rw [if_neg (by omega)]
    show mul2 (aft (one2 1 i) B (d + 1)) _ p q = 0
    rw [this, aft_zero, zero_mul2])]
  have h0 : one2 1 0 = Ser.mon 0 1 := by funext j; unfold one2 Ser.mon; simp
  show mul2 (aft (one2 1 0) B (d + 1)) (one2 1) p q = _
  rw [h0, aft_c 1 B (d + 1) (by omega), mul2_one2, one_sm]
theorem sb_pw {A B : Nat → Nat → Int} (hA : A 0 0 = 0) (hB : B 0 0 = 0) (m : Int) (d : Nat) (F : Nat → Nat → Int) : ∀ i, Eq m d (sb (pw2 F i) A B (d + 1)) (pw2 (sb F A B (d + 1)) i)
  | 0 => Eq.fn (sb_one A B d)
  | i + 1 => (sb_mul hA hB m d (pw2 F i) F).trans (Eq.mul2 (sb_pw hA hB m d F i) (Eq.refl _ _ _))
/-- three tables -/
def T3 (β : Nat → Nat → Nat → Int) (A B C : Nat → Nat → Int) (n : Nat) : Nat → Nat → Int := fun p q => psum (fun a => psum (fun b => psum (fun c => β a b c * mul2 (mul2 (pw2 A a) (pw2 B b)) (pw2 C c) p q) n) n) n
theorem T3_congr {m : Int} {d : Nat} {β β' : Nat → Nat → Nat → Int} {A B C : Nat → Nat → Int} (hA : A 0 0 = 0) (hB : B 0 0 = 0) (hC : C 0 0 = 0) (n : Nat) (h : ∀ a b c, a + b + c ≤ d → β a b c % m = β' a b c % m) : Eq m d (T3 β A B C n) (T3 β' A B C n) := by
  intro p q hpq
  refine Ser.psum_congr _ (fun a _ => Ser.psum_congr _ (fun b _ => Ser.psum_congr _ (fun c _ => ?_)))
  by_cases e : a + b + c ≤ d
  · exact Ser.mul_cong (h a b c e) rfl
  · rw [(((LowT.pw hA a).mul (LowT.pw hB b)).mul (LowT.pw hC c)) p q (by omega), Int.mul_zero, Int.mul_zero]
theorem T3_swap (β : Nat → Nat → Nat → Int) (A B C : Nat → Nat → Int) (n : Nat) : T3 β A B C n = T3 (fun a b c => β c b a) C B A n := by
  funext p q
  unfold T3
  have e : ∀ a, psum (fun b => psum (fun c => β a b c * mul2 (mul2 (pw2 A a) (pw2 B b)) (pw2 C c) p q) n) n = psum (fun c => psum (fun b => β a b c * mul2 (mul2 (pw2 A a) (pw2 B b)) (pw2 C c) p q) n) n := fun a => Ser.psum_swap _ _ _
  rw [Ser.psum_ext n (fun a _ => e a), Ser.psum_swap]
  refine Ser.psum_ext _ (fun c _ => ?_)
  rw [Ser.psum_swap]
  refine Ser.psum_ext _ (fun b _ => Ser.psum_ext _ (fun a _ => ?_))
  have : mul2 (mul2 (pw2 A a) (pw2 B b)) (pw2 C c) = mul2 (mul2 (pw2 C c) (pw2 B b)) (pw2 A a) := by
    rw [mul2_comm (mul2 (pw2 A a) (pw2 B b)), mul2_comm (pw2 A a), ← mul2_assoc]
  rw [this]
/-- the coefficients of F(F(x, y), z) -/
def beF (F : Nat → Nat → Int) (n a b c : Nat) : Int := psum (fun i => F i c * pw2 F i a b) n
theorem sb_sb {A B : Nat → Nat → Int} (hA : A 0 0 = 0) (hB : B 0 0 = 0) (m : Int) (d : Nat) (F C : Nat → Nat → Int) : Eq m d (sb F (sb F A B (d + 1)) C (d + 1)) (T3 (beF F (d + 1)) A B C (d + 1)) := by
  intro p q hpq
  have e1 : sb F (sb F A B (d + 1)) C (d + 1) p q % m = psum (fun i => mul2 (aft (F i) C (d + 1)) (sb (pw2 F i) A B (d + 1)) p q) (d + 1) % m :=
    Ser.psum_congr _ (fun i _ => mul2_congr (Eq.refl _ _ _) (sb_pw hA hB m d F i).symm p q hpq)
  rw [e1]
  congr 1
  have e2 : ∀ i, mul2 (aft (F i) C (d + 1)) (sb (pw2 F i) A B (d + 1)) p q = psum (fun a => psum (fun b => psum (fun c => F i c * pw2 F i a b * mul2 (mul2 (pw2 A a) (pw2 B b)) (pw2 C c) p q) (d + 1)) (d + 1)) (d + 1) := by
    intro i
    unfold sb aftR
    rw [mul2_psum' (fun a => mul2 (aft (pw2 F i a) B (d + 1)) (pw2 A a))]
    refine Ser.psum_ext _ (fun a _ => ?_)
    rw [mul2_lc, mul2_aft]
    refine Ser.psum_ext _ (fun b _ => ?_)
    rw [mul2_lc, mul2_aft, ← Ser.psum_mul]
    refine Ser.psum_ext _ (fun c _ => ?_)
    have : mul2 (pw2 C c) (mul2 (pw2 B b) (pw2 A a)) = mul2 (mul2 (pw2 A a) (pw2 B b)) (pw2 C c) := by
      rw [mul2_comm (pw2 C c), mul2_comm (pw2 B b)]
    rw [this, ← Int.mul_assoc, Int.mul_comm (pw2 F i a b)]
  rw [Ser.psum_ext _ (fun i _ => e2 i), Ser.psum_swap]
  refine Ser.psum_ext _ (fun a _ => ?_)
  rw [Ser.psum_swap]
  refine Ser.psum_ext _ (fun b _ => ?_)
  rw [Ser.psum_swap]
  refine Ser.psum_ext _ (fun c _ => ?_)
  exact Ser.psum_mul' _ _ _
theorem beF_br {m : Int} {d : Nat} {F : Nat → Nat → Int} (hN : Norm d F) {a b c : Nat} (h : a + b + c ≤ d) : beF F (d + 1) a b c % m = br m d F a b c := by
  unfold beF br brS
  rw [psum_cut _ (d + 1 - c) (d + 1) (by omega) (fun i h1 _ => by rw [hN.over i c (by omega), Int.zero_mul])]
  refine Ser.psum_congr _ (fun i _ => Ser.mul_cong rfl ?_)
  rw [pwT_tab, pc_tab (by omega), Int.emod_emod]
/-- a law: its table, and that it is associative -/
structure LawF (m : Int) (d : Nat) (F : Nat → Nat → Int) : Prop where
  norm : Norm d F
  ass : ∀ a b c, a + b + c ≤ d → br m d F a b c = br m d F c b a
theorem sb_turn {m : Int} {d : Nat} {F A B C : Nat → Nat → Int} (hF : LawF m d F) (hA : A 0 0 = 0) (hB : B 0 0 = 0) (hC : C 0 0 = 0) :
    Eq m d (sb F (sb F A B (d + 1)) C (d + 1)) (sb F (sb F C B (d + 1)) A (d + 1)) := by
  refine (sb_sb hA hB m d F C).trans (Eq.trans ?_ (sb_sb hC hB m d F A).symm)
  refine (T3_congr hA hB hC (β' := fun a b c => beF F (d + 1) c b a) _ (fun a b c h => ?_)).trans (Eq.fn ?_)
  · rw [beF_br hF.norm h, beF_br hF.norm (show c + b + a ≤ d by omega), hF.ass a b c h]
  · rw [T3_swap]
theorem norm_00 {d : Nat} {F : Nat → Nat → Int} (h : Norm d F) : F 0 0 = 0 := h.x 0 (Nat.zero_le _)
theorem sb_00 {d : Nat} {F A B : Nat → Nat → Int} (h : Norm d F) (hA : A 0 0 = 0) (hB : B 0 0 = 0) : sb F A B (d + 1) 0 0 = 0 := by
  rw [sb_at]
  refine psum_nil _ _ (fun i _ => psum_nil _ _ (fun j _ => ?_))
  by_cases e : 0 < j + i
  · rw [((LowT.pw hB j).mul (LowT.pw hA i)) 0 0 (by omega), Int.mul_zero]
  · obtain ⟨rfl, rfl⟩ : i = 0 ∧ j = 0 := by omega
    rw [norm_00 h, Int.zero_mul]
/-- four in the places: the two in the middle change -/
theorem sb_four {m : Int} {d : Nat} {F A B C D : Nat → Nat → Int} (hF : LawF m d F) (hA : A 0 0 = 0) (hB : B 0 0 = 0) (hC : C 0 0 = 0) (hD : D 0 0 = 0) :
    Eq m d (sb F (sb F A B (d + 1)) (sb F C D (d + 1)) (d + 1)) (sb F (sb F A C (d + 1)) (sb F B D (d + 1)) (d + 1)) := by
  have hCD := sb_00 hF.norm hC hD
  have hBD := sb_00 hF.norm hB hD
  refine (sb_turn hF hA hB hCD).trans ?_
  refine (sb_congr F _ (sb_turn hF hC hD hB) (Eq.refl _ _ A)).trans ?_
  exact sb_turn hF hBD hC hA
theorem aft_pwE {G : Nat → Nat → Int} (hG : G 0 0 = 0) (m : Int) (d : Nat) (f : Nat → Int) : ∀ i, Eq m d (aft (pw f i) G (d + 1)) (pw2 (aft f G (d + 1)) i)
  | 0 => Eq.fn (aft_c 1 G (d + 1) (by omega))
  | i + 1 => (Eq.of m d (fun p q hpq => (aft_mul (pw f i) f hG d p q hpq).symm)).trans (Eq.mul2 (aft_pwE hG m d f i) (Eq.refl _ _ _))
/-- a sum of curves at a table -/
theorem aft_put {G : Nat → Nat → Int} (hG : G 0 0 = 0) (m : Int) (d : Nat) (F : Nat → Nat → Int) (b c : Nat → Int) :
    Eq m d (aft (putF F b c (d + 1)) G (d + 1)) (sb F (aft b G (d + 1)) (aft c G (d + 1)) (d + 1)) := by
  intro p q hpq
  have e1 : aft (putF F b c (d + 1)) G (d + 1) p q = psum (fun i => psum (fun j => F i j * aft (Ser.mul (pw b i) (pw c j)) G (d + 1) p q) (d + 1)) (d + 1) := by
    have h1 := aft_psum (fun i n => psum (fun j => F i j * Ser.cv n (pw b i) (pw c j)) (d + 1)) (d + 1) G (d + 1) p q
    refine h1.trans (Ser.psum_ext _ (fun i _ => ?_))
    have h2 := aft_psum (fun j n => F i j * Ser.cv n (pw b i) (pw c j)) (d + 1) G (d + 1) p q
    refine h2.trans (Ser.psum_ext _ (fun j _ => ?_))
    exact congrFun (congrFun (aft_smul (F i j) (fun n => Ser.cv n (pw b i) (pw c j)) G (d + 1)) p) q
  rw [e1, sb_at]
  refine Ser.psum_congr _ (fun i _ => Ser.psum_congr _ (fun j _ => Ser.mul_cong rfl ?_))
  rw [← aft_mul (pw b i) (pw c j) hG d p q hpq, mul2_comm]
  exact mul2_congr (aft_pwE hG m d c j) (aft_pwE hG m d b i) p q hpq
/-- a homomorphism of the law to itself -/
def Endo (m : Int) (d : Nat) (F : Nat → Nat → Int) (a : Nat → Int) : Prop := Eq m d (aft a F (d + 1)) (sb F (aft a (mon2 1 0) (d + 1)) (aft a (mon2 0 1) (d + 1)) (d + 1))
theorem Endo.congr {m : Int} {d : Nat} {F : Nat → Nat → Int} {a b : Nat → Int} (h : ∀ i, i ≤ d → a i % m = b i % m) (ha : Endo m d F a) : Endo m d F b := by
  have k : ∀ G, Eq m d (aft a G (d + 1)) (aft b G (d + 1)) := fun G => aft_congr (d + 1) (fun i hi => h i (by omega)) (Eq.refl _ _ _)
  exact (k F).symm.trans (Eq.trans ha (sb_congr F _ (k _) (k _)))
theorem aft_00 {G : Nat → Nat → Int} (hG : G 0 0 = 0) {a : Nat → Int} (ha : a 0 = 0) (n : Nat) : aft a G n 0 0 = 0 := by
  refine psum_nil _ _ (fun i _ => ?_)
  by_cases e : i = 0
  · rw [e, ha, Int.zero_mul]
  · rw [(LowT.pw hG i) 0 0 (by omega), Int.mul_zero]
theorem Endo.put {m : Int} {d : Nat} {F : Nat → Nat → Int} {b c : Nat → Int} (hF : LawF m d F) (b0 : b 0 = 0) (c0 : c 0 = 0) (hb : Endo m d F b) (hc : Endo m d F c) : Endo m d F (putF F b c (d + 1)) := by
  have hx : mon2 1 0 0 0 = 0 := rfl
  have hy : mon2 0 1 0 0 = 0 := rfl
  refine (aft_put (norm_00 hF.norm) m d F b c).trans ?_
  refine (sb_congr F _ hb hc).trans ?_
  refine (sb_four hF (aft_00 hx b0 _) (aft_00 hy b0 _) (aft_00 hx c0 _) (aft_00 hy c0 _)).trans ?_
  exact sb_congr F _ (aft_put hx m d F b c).symm (aft_put hy m d F b c).symm
theorem pw2_zeroT : ∀ j, 0 < j → pw2 (fun _ _ => 0) j = fun _ _ => 0
  | j + 1, _ => by
    show mul2 (pw2 (fun _ _ => 0) j) (fun _ _ => 0) = _
    rw [mul2_comm, zero_mul2]
theorem Endo.zero {m : Int} {d : Nat} {F : Nat → Nat → Int} (hF : LawF m d F) : Endo m d F (fun _ => 0) := by
  unfold Endo
  rw [aft_zero, aft_zero, aft_zero]
  refine Eq.of m d (fun p q _ => ?_)
  rw [sb_at]
  refine (psum_nil _ _ (fun i _ => psum_nil _ _ (fun j _ => ?_))).symm
  by_cases hi : i = 0
  · by_cases hj : j = 0
    · rw [hi, hj, norm_00 hF.norm, Int.zero_mul]
    · rw [pw2_zeroT j (by omega), zero_mul2, Int.mul_zero]
  · rw [pw2_zeroT i (by omega), mul2_comm, zero_mul2, Int.mul_zero]
theorem Endo.one {m : Int} {d : Nat} (d1 : 1 ≤ d) (F : Nat → Nat → Int) : Endo m d F (Ser.mon 1 1) := by
  unfold Endo
  rw [aft_t 1 F (d + 1) (by omega), aft_t 1 _ (d + 1) (by omega), aft_t 1 _ (d + 1) (by omega), one_sm, one_sm, one_sm]
  refine Eq.of m d (fun p q hpq => ?_)
  unfold sb aftR
  have e : ∀ i, mul2 (aft (F i) (mon2 0 1) (d + 1)) (pw2 (mon2 1 0) i) p q = if i = p then F i q else 0 := by
    intro i
    rw [pw2_x, mul2_mon2, aft_y _ _ _ _ (by omega)]
    by_cases h : i = p
    · rw [if_pos h, if_pos ⟨by omega, by omega⟩, if_pos (by omega), Nat.sub_zero]
    · rw [if_neg h]
      by_cases h2 : i ≤ p ∧ 0 ≤ q
      · rw [if_pos h2, if_neg (by omega)]
      · rw [if_neg h2]
  rw [psum_at _ p (d + 1) (by omega) (fun i _ hi => by rw [e, if_neg hi]), e, if_pos rfl]
end Pl
end Go.Proofs.YtfhdgcndiljjcabGreat

/- Plain: the typical laws up to degree 10 are laws, by certificates. -/
namespace Go.Proofs.YtfhdgcndiljjcabGreat
namespace Tyc
/-- powers of the law, as lists of polynomials -/
def pwP (T : List (List Po)) : Nat → List (List Po)
  | 0 => tabP 10 fun i j => if i = 0 ∧ j = 0 then A0 else []
  | k + 1 => poTim 10 (pwP T k) T
/-- the powers 0 .. 10 in a list -/
def pwsP (T : List (List Po)) : Nat → List (List (List Po))
  | 0 => [pwP T 0]
  | k + 1 => match pwsP T k with
    | [] => []
    | U :: r => poTim 10 U T :: U :: r
def getU (L : List (List (List Po))) (n i : Nat) : List (List Po) := L[n - i]?.getD []
/-- the coefficient of x^a y^b z^c in F(F(x, y), z) -/
def asP (T : List (List Po)) (L : List (List (List Po))) (a b c : Nat) : Po := rsum (fun i => poMul (get T i c) (get (getU L 10 i) a b)) 11
def assOk (T : List (List Po)) : Bool :=
  let L := pwsP T 10
  (List.range 11).all fun a => (List.range 11).all fun b => (List.range 11).all fun c => !(decide (a < c ∧ a + b + c ≤ 10)) || allZ (add (asP T L a b c) (smul (-1) (asP T L c b a)))
set_option maxRecDepth 1000000 in
theorem ass2 : assOk FL2 = true := by decide +kernel
set_option maxRecDepth 1000000 in
theorem ass3 : assOk FL3 = true := by decide +kernel
set_option maxRecDepth 1000000 in
theorem ass5 : assOk FL5 = true := by decide +kernel
set_option maxRecDepth 1000000 in
theorem ass7 : assOk FL7 = true := by decide +kernel
theorem pev_A0 (v : Nat → Int) : pev v A0 = 1 := by
  show 1 * (v 0 ^ 0 * (v 1 ^ 0 * v 2 ^ 0)) + 0 = 1
  rw [Int.pow_zero, Int.pow_zero, Int.pow_zero]; rfl
theorem pws_at (v : Nat → Int) (T : List (List Po)) : ∀ k, (pwsP T k).length = k + 1 ∧ ∀ i, i ≤ k → Up 10 (evT v ((pwsP T k)[k - i]?.getD [])) (Pl.pw2 (evT v T) i)
  | 0 => by
    refine ⟨rfl, fun i hi => ?_⟩
    obtain rfl : i = 0 := by omega
    intro a b hab
    show pev v (get (tabP 10 fun i j => if i = 0 ∧ j = 0 then A0 else []) a b) = Pl.one2 1 a b
    rw [get_tab hab]
    unfold Pl.one2
    by_cases h : a = 0 ∧ b = 0
    · rw [if_pos h, if_pos h, pev_A0]
    · rw [if_neg h, if_neg h]; rfl
  | k + 1 => by
    obtain ⟨hl, hk⟩ := pws_at v T k
    obtain ⟨U, r, hU⟩ : ∃ U r, pwsP T k = U :: r := by
      cases h : pwsP T k with
      | nil => rw [h] at hl; simp at hl
      | cons U r => exact ⟨U, r, rfl⟩
    have hS : pwsP T (k + 1) = poTim 10 U T :: U :: r := by rw [pwsP, hU]
    rw [hU] at hl hk
    refine ⟨by rw [hS]; simp at hl ⊢; exact hl, fun i hi => ?_⟩
    rw [hS]
    rcases Nat.eq_or_lt_of_le hi with rfl | hlt
    · rw [Nat.sub_self]
      show Up 10 (evT v (poTim 10 U T)) (Pl.mul2 (Pl.pw2 (evT v T) k) (evT v T))
      have h0 := hk k (Nat.le_refl _)
      rw [Nat.sub_self] at h0
      exact evT_up v 10 h0 (fun _ _ _ => rfl)
    · have h0 := hk i (by omega)
      rw [show k + 1 - i = (k - i) + 1 by omega]
      exact h0
theorem asP_be (v : Nat → Int) (T : List (List Po)) {a b c : Nat} (h : a + b ≤ 10) : pev v (asP T (pwsP T 10) a b c) = Pl.beF (evT v T) 11 a b c := by
  unfold asP Pl.beF
  rw [pev_rsum]
  refine Ser.psum_ext _ (fun i hi => ?_)
  rw [pev_poMul]
  congr 1
  exact (pws_at v T 10).2 i (by omega) a b h
theorem ass_of {T : List (List Po)} (h : assOk T = true) (v : Nat → Int) {a b c : Nat} (habc : a + b + c ≤ 10) : Pl.beF (evT v T) 11 a b c = Pl.beF (evT v T) 11 c b a := by
  have key : ∀ a c, a < c → a + b + c ≤ 10 → Pl.beF (evT v T) 11 a b c = Pl.beF (evT v T) 11 c b a := by
    intro a c hac hs
    unfold assOk at h
    have h1 := List.all_eq_true.1 (List.all_eq_true.1 (List.all_eq_true.1 h a (List.mem_range.2 (by omega))) b (List.mem_range.2 (by omega))) c (List.mem_range.2 (by omega))
    rw [decide_eq_true (show a < c ∧ a + b + c ≤ 10 from ⟨hac, hs⟩)] at h1
    have h2 : allZ (add (asP T (pwsP T 10) a b c) (smul (-1) (asP T (pwsP T 10) c b a))) = true := by simpa using h1
    have h3 := pev_allZ v _ h2
    rw [pev_add, pev_smul, asP_be v T (by omega), asP_be v T (by omega)] at h3
    omega
  rcases Nat.lt_trichotomy a c with h1 | rfl | h1
  · exact key a c h1 habc
  · rfl
  · exact (key c a h1 (by omega)).symm
theorem assAll : ∀ p ∈ [2, 3, 5, 7], assOk (FLp p) = true := by
  intro p hp
  simp at hp
  rcases hp with rfl | rfl | rfl | rfl
  · exact ass2
  · exact ass3
  · exact ass5
  · exact ass7
def symOk (T : List (List Po)) : Bool := (List.range 11).all fun a => (List.range 11).all fun b => !(decide (a + b ≤ 10)) || allZ (add (get T a b) (smul (-1) (get T b a)))
theorem symAll : ∀ p ∈ [2, 3, 5, 7], symOk (FLp p) = true := by decide +kernel
theorem fam_sym {p : Nat} (hp : p = 2 ∨ p = 3 ∨ p = 5 ∨ p = 7) (v : Nat → Int) {i j : Nat} (h : i + j ≤ 10) : fam p v i j = fam p v j i := by
  have h0 := symAll p (by simp; exact hp)
  unfold symOk at h0
  have h1 := List.all_eq_true.1 (List.all_eq_true.1 h0 i (List.mem_range.2 (by omega))) j (List.mem_range.2 (by omega))
  rw [decide_eq_true h] at h1
  have h2 : allZ (add (get (FLp p) i j) (smul (-1) (get (FLp p) j i))) = true := by simpa using h1
  have h3 := pev_allZ v _ h2
  rw [pev_add, pev_smul] at h3
  unfold fam evT
  omega
theorem fam_ass {p : Nat} (hp : p = 2 ∨ p = 3 ∨ p = 5 ∨ p = 7) (v : Nat → Int) {a b c : Nat} (h : a + b + c ≤ 10) : Pl.beF (fam p v) 11 a b c = Pl.beF (fam p v) 11 c b a :=
  ass_of (assAll p (by simp; exact hp)) v h
end Tyc
namespace Pl
theorem srch_all {p : Nat → Option (List Int)} : ∀ n k, (∀ i, k ≤ i → i < k + n → p i = none) → srch p n k = none
  | 0, _, _ => rfl
  | n + 1, k, h => by
    rw [srch_miss n (h k (Nat.le_refl _) (by omega))]
    exact srch_all n (k + 1) (fun i h1 h2 => h i (by omega) (by omega))
theorem fau_all {m : Int} {d : Nat} {F : Nat → Nat → Int} (hN : Norm d F) (hS : Sym d F) (hA : ∀ a b c, a + b + c ≤ d → br m d F a b c = br m d F c b a) : fau m d F = none := by
  have h1 : fauP d F = none := srch_all _ _ (fun i _ hi => by unfold fau0; rw [if_pos (hN.x i (by omega))])
  have h2 : fauS d F = none := srch_all _ _ (fun i _ hi => srch_all _ _ (fun j h1 h2 => by unfold fau1j; rw [if_pos (hS i j (by omega))]))
  have h3 : fauT m d F = none := srch_all _ _ (fun a _ ha => srch_all _ _ (fun b _ hb => srch_all _ _ (fun c _ hc => by unfold fau2c; rw [if_pos (hA a b c (by omega))])))
  unfold fau
  rw [h1, h2, h3]; rfl
theorem beF_cut {d : Nat} {F : Nat → Nat → Int} (h0 : F 0 0 = 0) {a b c : Nat} (h : a + b ≤ d) (k : Nat) : beF F (d + 1 + k) a b c = beF F (d + 1) a b c := by
  unfold beF
  exact psum_cut _ (d + 1) (d + 1 + k) (by omega) (fun i h1 _ => by rw [pw2_lowW h0 i a b (by omega), Int.mul_zero])
end Pl
/-- the table of a typical law is one of a law -/
theorem lawT_fau {p D : Nat} {m : Int} (hp : p = 2 ∨ p = 3 ∨ p = 5 ∨ p = 7) (m1 : 2 ≤ m) (m2 : m ≤ 10000) (d1 : 1 ≤ D) (hD : D ≤ 10) (v : Nat → Int) : Pl.fau m D (Pl.pc (lawT p m D v)) = none := by
  rw [lawT_fam hp m1 d1 hD]
  have hE := Pl.pc_tab_eq m D (Tyc.fam p v)
  have ok := Pl.Ok.of_tab m1 m2 d1 hD (Tyc.fam p v)
  have h00 : Tyc.fam p v 0 0 = 0 := Tyc.fam_side hp v (.inl rfl) (by omega)
  have hw : ∀ i, (if i = 1 then (1 : Int) else 0) % m = Pl.want i := fun i => by
    unfold Pl.want
    by_cases h : i = 1
    · rw [if_pos h]; exact Int.emod_eq_of_lt (by omega) (by omega)
    · rw [if_neg h, Int.zero_emod]
  have hN : Pl.Norm D (Pl.pc (Pl.tab m D (Tyc.fam p v))) := by
    refine ⟨fun i hi => ?_, fun j hj => ?_, fun i j hij => ok.over i j hij⟩
    · rw [Pl.pc_tab (by omega), Tyc.fam_side hp v (.inr rfl) (by omega), ← hw i]
      unfold Pl.xyF
      by_cases h : i = 1
      · subst h; rfl
      · rw [if_neg (by omega), if_neg (by omega), if_neg h]; rfl
    · rw [Pl.pc_tab (by omega), Tyc.fam_side hp v (.inl rfl) (by omega), ← hw j]
      unfold Pl.xyF
      by_cases h : j = 1
      · subst h; rfl
      · rw [if_neg (by omega), if_neg (by omega), if_neg h]; rfl
  refine Pl.fau_all hN (fun i j hij => ?_) (fun a b c h => ?_)
  · rw [Pl.pc_tab hij, Pl.pc_tab (by omega), Tyc.fam_sym hp v (by omega)]
  · have hbe : ∀ a b c, a + b + c ≤ D → Pl.br m D (Pl.pc (Pl.tab m D (Tyc.fam p v))) a b c = Pl.beF (Tyc.fam p v) 11 a b c % m := by
      intro a b c h
      rw [← Pl.beF_br hN h]
      obtain ⟨k, hk⟩ : ∃ k, 11 = D + 1 + k := ⟨10 - D, by omega⟩
      rw [hk, Pl.beF_cut h00 (by omega)]
      refine Ser.psum_congr _ (fun i hi => ?_)
      by_cases hic : i + c ≤ D
      · exact Ser.mul_cong (hE i c hic) (Pl.pw2_congr hE i a b (by omega))
      · by_cases hia : a + b < i
        · rw [Pl.pw2_lowW h00 i a b hia, Pl.pw2_lowW (Pl.norm_00 hN) i a b hia, Int.mul_zero, Int.mul_zero]
        · exact absurd hic (by omega)
    rw [hbe a b c h, hbe c b a (by omega), Tyc.fam_ass hp v (by omega)]
end Go.Proofs.YtfhdgcndiljjcabGreat

/- Plain: the gap of the model's typical laws of which the last needed parameter differs. -/
namespace Go.Proofs.YtfhdgcndiljjcabGreat
open Go.RowKit
theorem pow_pred {p N : Nat} (h : 1 ≤ N) : p ^ (N - 1) * p = p ^ N := by
  rw [← Nat.pow_succ]; congr 1; omega
theorem emod_down {m M x y : Int} (h : x % M = y % M) (hd : m ∣ M) : x % m = y % m := by
  rw [← Int.emod_emod_of_dvd x hd, h, Int.emod_emod_of_dvd y hd]
theorem law_gap {p N : Nat} {m c : Int} {v v' : Nat → Int} (hp : p = 2 ∨ p = 3 ∨ p = 5 ∨ p = 7) (m1 : 2 ≤ m) (m2 : m ≤ 10000) (hN : 1 ≤ N) (hD : p ^ N ≤ 10)
    (hv : ∀ i, i < N - 1 → v i = v' i) (hc : (v' (N - 1) - v (N - 1)) % m = c % m) :
    ∀ i, i ≤ p ^ N → Ser.co (layC m (gapT m (p ^ N) (lawT p m (p ^ N) v) (lawT p m (p ^ N) v')) (p ^ N)) i % m = (-c * layF (p ^ N) i) % m := by
  intro i hi
  have hN3 : N ≤ 3 := pow_lt11 hp (Nat.le_refl 10) hD
  have hD2 : 2 ≤ p ^ N := by
    have : p ^ 1 ≤ p ^ N := Nat.pow_le_pow_right (by omega) hN
    rw [Nat.pow_one] at this; omega
  have hbin := fun h1 h2 => Pl.bin_lay p (in4 hp) N (List.mem_range.2 (by omega)) hN hD i (List.mem_range.2 (by omega)) h1 h2
  have hneed := Pl.need_pow p (in4 hp) N (List.mem_range.2 (by omega)) hN hD
  have hpp := pow_pred (p := p) hN
  have hnd := Nmr.num_diff (p := p) (v := v) (v' := v') (N - 1) hv
  rw [show N - 1 + 1 = N by omega] at hnd
  have hsame : ∀ e, e < N → Nmr.num p v e = Nmr.num p v' e := fun e he => Nmr.num_ext (N - 1) hv e (by omega)
  have htop := fun h1 h2 => Pl.rest_top p N ((p ^ N : Nat) : Int) (tyW p m (p ^ N)) hsame (p ^ N - 2) i (p ^ N - i) (by omega) h1 h2
  have hlow := Pl.lwF_same p N ((p ^ N : Nat) : Int) (tyW p m (p ^ N)) hsame (p ^ N - 2) (by omega)
  have hW : tyW p m (p ^ N) = ((p ^ N : Nat) : Int) * (m * (p : Int)) := by
    unfold tyW; rw [hneed, Int.mul_comm m, Int.mul_assoc]
  have hdW : m ∣ tyW p m (p ^ N) := ⟨((p ^ N : Nat) : Int) * p, by rw [hW, Int.mul_left_comm]⟩
  obtain ⟨D, hDD⟩ : ∃ D, p ^ N = D := ⟨_, rfl⟩
  obtain ⟨W, hWW⟩ : ∃ W, tyW p m D = W := ⟨_, rfl⟩
  rw [hDD] at hi hD hD2 hbin hneed hpp htop hlow hW hdW
  rw [hWW] at htop hlow hW hdW
  unfold layC
  rw [hDD]
  rw [Ser.co_cut hi, Int.emod_emod]
  unfold gapT lawT
  rw [hneed, hDD, hWW]
  rw [Pl.pc_tab (by omega), Int.emod_emod, Pl.pc_tab (by omega), Pl.pc_tab (by omega), ← Int.sub_emod]
  by_cases hmid : 1 ≤ i ∧ i < D
  · have hx := fun (A : Nat → Int) => (show Pl.lwF p N (D : Int) W A (D - 1) i (D - i) = Pl.dueF p N (D : Int) W A (Pl.lwF p N (D : Int) W A (D - 2)) i (D - i) by
      rw [show D - 1 = D - 2 + 1 by omega]
      exact if_pos ⟨by omega, hmid.1, by omega⟩)
    rw [hx, hx]
    unfold Pl.dueF
    rw [← hlow, htop hmid.1 (by omega), hbin hmid.1 hmid.2, hnd]
    obtain ⟨r, hr⟩ : ∃ r, Pl.restF p N (Nmr.num p v) (Pl.lwF p N (D : Int) W (Nmr.num p v) (D - 2)) (N + 1) i (D - i) = r := ⟨_, rfl⟩
    obtain ⟨L, hL⟩ : ∃ L, layF D i = L := ⟨_, rfl⟩
    obtain ⟨z, hz⟩ : ∃ z, v' (N - 1) - v (N - 1) = z := ⟨_, rfl⟩
    rw [hz] at hc
    rw [hr, hL, hz]
    have e1 : r + (Nmr.num p v N + (p : Int) ^ (N - 1) * z - Nmr.num p v N) * ((p : Int) * L) = r + (D : Int) * (z * L) := by
      have h1 : (p : Int) ^ (N - 1) * (p : Int) = (D : Int) := by rw [← hpp, Int.natCast_mul, Int.natCast_pow]
      rw [show Nmr.num p v N + (p : Int) ^ (N - 1) * z - Nmr.num p v N = (p : Int) ^ (N - 1) * z by omega, ← h1]
      grind
    rw [e1]
    have hs := div_shift (W := W) (T := (D : Int)) (M := m * (p : Int)) (r := r) (z := z * L) (by omega) (Int.mul_pos (by omega) (by omega)) hW
    have hs2 := emod_down hs ⟨(p : Int), rfl⟩
    obtain ⟨Q', hQ'⟩ : ∃ Q', (r + (D : Int) * (z * L)) % W / (D : Int) = Q' := ⟨_, rfl⟩
    obtain ⟨Q, hQ⟩ : ∃ Q, r % W / (D : Int) = Q := ⟨_, rfl⟩
    rw [hQ', hQ] at hs2
    rw [hQ', hQ, Int.sub_emod, Int.emod_emod_of_dvd _ hdW, Int.emod_emod_of_dvd _ hdW, ← Int.sub_emod]
    have e2 : (-Q' - -Q) % m = (-(Q + z * L) - -Q) % m := by
      rw [Int.sub_emod, Int.sub_emod (-(Q + z * L))]
      congr 2
      have := Ser.mul_cong (m := m) (x := -1) (y := -1) rfl hs2
      rw [Int.neg_mul, Int.one_mul, Int.neg_mul, Int.one_mul] at this
      exact this
    rw [e2, show -(Q + z * L) - -Q = (-1) * (z * L) by omega]
    have e3 := Ser.mul_cong (m := m) (x := -1) (y := -1) rfl (Ser.mul_cong (m := m) hc (show L % m = L % m from rfl))
    rw [e3, Int.neg_mul, Int.one_mul, Int.neg_mul]
  · have hside : i = 0 ∨ D - i = 0 := by omega
    rw [Pl.lwF_side _ _ _ _ _ _ _ _ hside, Pl.lwF_side _ _ _ _ _ _ _ _ hside, Int.sub_self]
    unfold layF
    rw [if_neg (by omega), Int.mul_zero]
end Go.Proofs.YtfhdgcndiljjcabGreat

/- Plain, for TypicalParameters: the list that the program reads off a law is the law's. -/
namespace Go.Proofs.YtfhdgcndiljjcabGreat
open Go.RowKit
theorem num_same {p : Nat} {v v' : Nat → Int} : ∀ e, (∀ i, i < e → v i = v' i) → Nmr.num p v' e = Nmr.num p v e
  | 0, _ => rfl
  | n + 1, h => by
    rw [Nmr.num_diff n (fun i hi => h i (by omega)), h n (by omega), Int.sub_self, Int.mul_zero, Int.add_zero]
namespace Pl
theorem lwF_all (p N : Nat) (top W : Int) {A A' : Nat → Int} (h : ∀ e, e ≤ N → A e = A' e) : ∀ k, lwF p N top W A k = lwF p N top W A' k
  | 0 => rfl
  | k + 1 => by
    funext i j
    have hr : ∀ F : Nat → Nat → Int, restF p N A F (N + 1) i j = restF p N A' F (N + 1) i j := fun F => by
      unfold restF
      exact Ser.psum_ext _ (fun e he => by rw [h e (by omega)])
    show (if i + j = k + 2 ∧ 1 ≤ i ∧ 1 ≤ j then dueF p N top W A (lwF p N top W A k) i j else lwF p N top W A k i j) = _
    rw [lwF_all p N top W h k]
    unfold dueF
    rw [hr]
    rfl
end Pl
theorem lawT_same {p D : Nat} {m : Int} {v v' : Nat → Int} (h : ∀ i, i < needN p D → v i = v' i) : lawT p m D v = lawT p m D v' := by
  unfold lawT
  rw [Pl.lwF_all p (needN p D) _ _ (fun e he => num_same e (fun i hi => (h i (by omega)).symm))]
theorem lawT_pc {p n D : Nat} {m : Int} (hp : p = 2 ∨ p = 3 ∨ p = 5 ∨ p = 7) (m1 : 2 ≤ m) (n1 : 1 ≤ n) (hn : n ≤ D) (hD : D ≤ 10) (v : Nat → Int) {i j : Nat} (h : i + j ≤ n) : Pl.pc (lawT p m D v) i j = Pl.pc (lawT p m n v) i j := by
  rw [lawT_fam hp m1 (by omega) hD, lawT_fam hp m1 n1 (by omega), Pl.pc_tab (by omega), Pl.pc_tab h]
theorem lawT_ok {p D : Nat} {m : Int} (m1 : 2 ≤ m) (m2 : m ≤ 10000) (d1 : 1 ≤ D) (hD : D ≤ 10) (v : Nat → Int) : Pl.Ok m D (lawT p m D v) := Pl.Ok.of_tab m1 m2 d1 hD _
/-! cutting a law -/
theorem cut_fau {m : Int} {D n : Nat} {t : List (List Int)} (ok : Pl.Ok m D t) (hf : Pl.fau m D (Pl.pc t) = none) (n1 : 1 ≤ n) (hn : n ≤ D) : Pl.fau m n (Pl.pc (Pl.tab m n (Pl.pc t))) = none := by
  have hN := Pl.norm_law hf ok
  have hL := Pl.fau_parts hf
  have hS := Pl.fauS_none hL.2
  have hA : ∀ a b c, a + b + c ≤ D → Pl.br m D (Pl.pc t) a b c = Pl.br m D (Pl.pc t) c b a := by
    refine Pl.fauT_none ?_
    have h := hf
    unfold Pl.fau at h
    rw [hL.1, hL.2, Pl.orE_none, Pl.orE_none] at h
    exact h
  have okc := Pl.Ok.of_tab ok.m1 ok.m2 n1 (show n ≤ 10 by have := ok.d2; omega) (Pl.pc t)
  have hpc : ∀ i j, i + j ≤ n → Pl.pc (Pl.tab m n (Pl.pc t)) i j = Pl.pc t i j := fun i j h => by
    rw [Pl.pc_tab h]
    have := ok.pc i j
    exact Int.emod_eq_of_lt this.1 this.2
  have hNc : Pl.Norm n (Pl.pc (Pl.tab m n (Pl.pc t))) := ⟨fun i hi => by rw [hpc i 0 (by omega)]; exact hN.x i (by omega), fun j hj => by rw [hpc 0 j (by omega)]; exact hN.y j (by omega), fun i j hij => okc.over i j hij⟩
  refine Pl.fau_all hNc (fun i j h => by rw [hpc i j h, hpc j i (by omega)]; exact hS i j (by omega)) (fun a b c h => ?_)
  have hbe : ∀ a b c, a + b + c ≤ n → Pl.br m n (Pl.pc (Pl.tab m n (Pl.pc t))) a b c = Pl.br m D (Pl.pc t) a b c := by
    intro a b c h
    rw [← Pl.beF_br hNc h, ← Pl.beF_br hN (show a + b + c ≤ D by omega)]
    obtain ⟨k, hk⟩ : ∃ k, D + 1 = n + 1 + k := ⟨D - n, by omega⟩
    rw [hk, Pl.beF_cut (Pl.norm_00 hN) (by omega)]
    have hE : Pl.Eq m n (Pl.pc (Pl.tab m n (Pl.pc t))) (Pl.pc t) := Pl.pc_tab_eq m n (Pl.pc t)
    refine Ser.psum_congr _ (fun i hi => ?_)
    by_cases hic : i + c ≤ n
    · exact Ser.mul_cong (hE i c hic) (Pl.pw2_congr hE i a b (by omega))
    · rw [Pl.pw2_lowW (Pl.norm_00 hN) i a b (by omega), Pl.pw2_lowW (Pl.norm_00 hNc) i a b (by omega), Int.mul_zero, Int.mul_zero]
  rw [hbe a b c h, hbe c b a (by omega), hA a b c (by omega)]
theorem agr_reach {E : Nat → Bool} {q : Nat} : ∀ n k, k ≤ q → q ≤ k + n → (∀ j, k < j → j ≤ q → E j = true) → q ≤ agr E n k
  | 0, k, h1, h2, _ => by unfold agr; omega
  | n + 1, k, h1, h2, h => by
    unfold agr
    by_cases hk : k + 1 ≤ q
    · rw [if_pos (h (k + 1) (by omega) hk)]
      exact agr_reach n (k + 1) hk (by omega) (fun j hj1 hj2 => h j (by omega) hj2)
    · split
      · exact Nat.le_trans (by omega) (agr_ge E n (k + 1))
      · omega
/-- two laws that are equal below their degree: what there is between them in it -/
theorem top_fits {m : Int} {n : Nat} {t s : List (List Int)} (ok : Pl.Ok m n t) (ok' : Pl.Ok m n s) (n2 : 2 ≤ n) (hf : Pl.fau m n (Pl.pc t) = none) (hf' : Pl.fau m n (Pl.pc s) = none) (hb : ∀ i j, i + j < n → Pl.pc t i j = Pl.pc s i j) :
    0 ≤ Cyc.facM m (layC m (gapT m n t s) n) n ∧ Cyc.facM m (layC m (gapT m n t s) n) n < m ∧ ∀ i, i ≤ n → (Pl.pc s i (n - i) - Pl.pc t i (n - i)) % m = (Cyc.facM m (layC m (gapT m n t s) n) n * layF n i) % m := by
  have m1 := ok.m1
  have m2 := ok.m2
  have hd2 := ok.d2
  have ha : n - 1 ≤ agr (eqL m t s) n 0 := agr_reach n 0 (by omega) (by omega) (fun j h1 h2 => eqL_yes ok ok' j (fun i hi => hb i (j - i) (by omega)))
  have hS := gap_some ok ok' n2 hf hf' ha
  have okg : Pl.Ok m n (gapT m n t s) := Pl.Ok.of_tab m1 m2 (by omega) hd2 _
  unfold Cyc.facM
  cases hX : Cyc.facO m (layC m (gapT m n t s) n) n with
  | none => rw [hX] at hS; cases hS
  | some X =>
    obtain ⟨b1, b2, hfit, -⟩ := Cyc.facO_some m1 m2 hX
    refine ⟨b1, b2, fun i hi => ?_⟩
    have h := hfit i hi
    rw [layC_co okg n i hi] at h
    unfold gapT at h
    rw [Pl.pc_tab (by omega)] at h
    have h2 := Int.emod_eq_emod_iff_emod_sub_eq_zero.2 h
    rw [Int.emod_emod] at h2
    exact h2.symm
/-- one parameter more, in its degree -/
theorem typ_top {p N : Nat} {m c : Int} {v v' : Nat → Int} (hp : p = 2 ∨ p = 3 ∨ p = 5 ∨ p = 7) (m1 : 2 ≤ m) (m2 : m ≤ 10000) (hN : 1 ≤ N) (hD : p ^ N ≤ 10) (hv : ∀ i, i < N - 1 → v i = v' i) (hc : (v' (N - 1) - v (N - 1)) % m = c % m) {i : Nat} (hi : i ≤ p ^ N) :
    (Pl.pc (lawT p m (p ^ N) v') i (p ^ N - i) - Pl.pc (lawT p m (p ^ N) v) i (p ^ N - i)) % m = (-c * layF (p ^ N) i) % m := by
  have h := law_gap hp m1 m2 hN hD hv hc i hi
  have hpos : 1 ≤ p ^ N := Nat.pow_pos (by omega)
  have okg : Pl.Ok m (p ^ N) (gapT m (p ^ N) (lawT p m (p ^ N) v) (lawT p m (p ^ N) v')) := Pl.Ok.of_tab m1 m2 hpos hD _
  rw [layC_co okg _ i hi] at h
  unfold gapT at h
  rw [Pl.pc_tab (by omega), Int.emod_emod] at h
  exact h
/-! what the program does -/
def exT (m : Int) (p : Nat) (t : List (List Int)) (l : List Int) (n : Nat) : Int := Cyc.facM m (layC m (gapT m n (Pl.tab m n (Pl.pc t)) (lawT p m n (Ser.co l))) n) n
def isPw (p n : Nat) : Bool := n == p || n == p ^ 2 || n == p ^ 3
def tpP (m : Int) (p : Nat) (t : List (List Int)) : Nat → Nat → List Int → Option (List Int)
  | 0, _, l => some l
  | f + 1, n, l => if isPw p n = true then tpP m p t f (n + 1) (l ++ [exT m p t l n]) else if exT m p t l n = 0 then tpP m p t f (n + 1) l else none
theorem need_step : ∀ p ∈ [2, 3, 5, 7], ∀ n ∈ List.range 11, 2 ≤ n → needN p n = needN p (n - 1) + (if isPw p n = true then 1 else 0) ∧ (isPw p n = true → p ^ needN p n = n) := by decide
theorem co_snoc_low (l : List Int) (c : Int) {i : Nat} (h : i < l.length) : Ser.co (l ++ [c]) i = Ser.co l i := by
  unfold Ser.co; rw [List.getElem?_append_left h]
theorem co_snoc_at (l : List Int) (c : Int) : Ser.co (l ++ [c]) l.length = c := by
  unfold Ser.co; rw [List.getElem?_append_right (Nat.le_refl _), Nat.sub_self]; rfl
theorem tp_some {m : Int} {p D : Nat} {t : List (List Int)} (hp : p = 2 ∨ p = 3 ∨ p = 5 ∨ p = 7) (ok : Pl.Ok m D t) (hf : Pl.fau m D (Pl.pc t) = none) : ∀ f n l, 2 ≤ n → n + f = D + 1 → l.length = needN p (n - 1) → (∀ x ∈ l, 0 ≤ x ∧ x < m) →
    (∀ i j, i + j < n → Pl.pc t i j = Pl.pc (lawT p m D (Ser.co l)) i j) → ∀ r, tpP m p t f n l = some r → r.length = needN p D ∧ (∀ x ∈ r, 0 ≤ x ∧ x < m) ∧ ∀ i j, i + j ≤ D → Pl.pc t i j = Pl.pc (lawT p m D (Ser.co r)) i j
  | 0, n, l, n2, hnf, hl, hx, hb, r, h => by
    obtain rfl := Option.some.inj (show some l = some r from h)
    exact ⟨by rw [hl]; congr 1; omega, hx, fun i j hij => hb i j (by omega)⟩
  | f + 1, n, l, n2, hnf, hl, hx, hb, r, h => by
    have m1 := ok.m1
    have m2 := ok.m2
    have hD := ok.d2
    have hn : n ≤ D := by omega
    obtain ⟨hne, hpw⟩ := need_step p (in4 hp) n (List.mem_range.2 (by omega)) n2
    have okt := Pl.Ok.of_tab m1 m2 (show 1 ≤ n by omega) (show n ≤ 10 by omega) (Pl.pc t)
    have oks := lawT_ok (p := p) m1 m2 (show 1 ≤ n by omega) (show n ≤ 10 by omega) (Ser.co l)
    have hpc : ∀ i j, i + j ≤ n → Pl.pc (Pl.tab m n (Pl.pc t)) i j = Pl.pc t i j := fun i j h => by
      rw [Pl.pc_tab h]
      have := ok.pc i j
      exact Int.emod_eq_of_lt this.1 this.2
    have htop := top_fits okt oks n2 (cut_fau ok hf (by omega) hn) (lawT_fau hp m1 m2 (by omega) (by omega) _) (fun i j hij => by
      rw [hpc i j (by omega), hb i j hij, lawT_pc hp m1 (show 1 ≤ n by omega) hn hD _ (by omega)])
    change 0 ≤ exT m p t l n ∧ exT m p t l n < m ∧ _ at htop
    obtain ⟨c1, c2, hc⟩ := htop
    have hred : ∀ (s : List (List Int)) (i j : Nat), Pl.Ok m D s → Pl.pc s i j % m = Pl.pc s i j := fun s i j hs => by
      have := hs.pc i j
      exact Int.emod_eq_of_lt this.1 this.2
    rw [tpP] at h
    by_cases hw : isPw p n = true
    · rw [if_pos hw] at h hne
      have hpN := hpw hw
      obtain ⟨c, hcc⟩ : ∃ c, exT m p t l n = c := ⟨_, rfl⟩
      have hc' : ∀ i, i ≤ n → (Pl.pc (lawT p m n (Ser.co l)) i (n - i) - Pl.pc (Pl.tab m n (Pl.pc t)) i (n - i)) % m = (c * layF n i) % m := by rw [← hcc]; exact hc
      rw [hcc] at h c1 c2
      have hlen : (l ++ [c]).length = needN p (n + 1 - 1) := by rw [List.length_append, hl, Nat.add_sub_cancel, hne]; rfl
      refine tp_some hp ok hf f (n + 1) (l ++ [c]) (by omega) (by omega) hlen (fun x hx' => ?_) (fun i j hij => ?_) r h
      · rcases List.mem_append.1 hx' with h1 | h1
        · exact hx x h1
        · rw [List.mem_singleton.1 h1]; exact ⟨c1, c2⟩
      · have hoks := lawT_ok (p := p) m1 m2 (show 1 ≤ D by omega) hD (Ser.co (l ++ [c]))
        by_cases hlow : i + j < n
        · rw [hb i j hlow, lawT_pc hp m1 (show 1 ≤ n - 1 by omega) (by omega) hD (Ser.co l) (show i + j ≤ n - 1 by omega), lawT_pc hp m1 (show 1 ≤ n - 1 by omega) (by omega) hD (Ser.co (l ++ [c])) (show i + j ≤ n - 1 by omega),
            lawT_same (v := Ser.co l) (v' := Ser.co (l ++ [c])) (fun k hk => (co_snoc_low l c (by omega)).symm)]
        · have hij2 : i + j = n := by omega
          have e1 := hc' i (by omega)
          rw [hpc i (n - i) (by omega)] at e1
          have hN1 : needN p n - 1 = l.length := by omega
          have e2 := typ_top (p := p) (N := needN p n) (m := m) (c := c) (v := Ser.co l) (v' := Ser.co (l ++ [c])) hp m1 m2 (by omega) (by omega) (fun k hk => (co_snoc_low l c (by omega)).symm)
            (by rw [hN1, co_snoc_at, Ser.co_over (Nat.le_refl _), Int.sub_zero]) (i := i) (by omega)
          rw [hpN] at e2
          rw [show n - i = j by omega] at e1 e2
          rw [lawT_pc hp m1 (show 1 ≤ n by omega) hn hD (Ser.co (l ++ [c])) (show i + j ≤ n by omega)]
          have r1 := hred t i j ok
          have hoksn := lawT_ok (p := p) m1 m2 (show 1 ≤ n by omega) (show n ≤ 10 by omega) (Ser.co (l ++ [c]))
          have b2 := hoksn.pc i j
          have r2 : Pl.pc (lawT p m n (Ser.co (l ++ [c]))) i j % m = Pl.pc (lawT p m n (Ser.co (l ++ [c]))) i j := Int.emod_eq_of_lt b2.1 b2.2
          rw [← r1, ← r2]
          have e3 := Ser.add_cong e1 e2
          rw [show c * layF n i + -c * layF n i = 0 by rw [Int.neg_mul]; omega, Int.zero_emod] at e3
          refine (Int.emod_eq_emod_iff_emod_sub_eq_zero.2 ?_).symm
          rw [← e3]
          congr 1
          omega
    · rw [if_neg hw] at h hne
      by_cases h0 : exT m p t l n = 0
      · rw [if_pos h0] at h
        refine tp_some hp ok hf f (n + 1) l (by omega) (by omega) (by rw [hl, Nat.add_sub_cancel, hne]; rfl) hx (fun i j hij => ?_) r h
        by_cases hlow : i + j < n
        · exact hb i j hlow
        · have e1 := hc i (by omega)
          change _ = (exT m p t l n * layF n i) % m at e1
          rw [h0, Int.zero_mul, hpc i (n - i) (by omega), show n - i = j by omega] at e1
          rw [lawT_pc hp m1 (show 1 ≤ n by omega) hn hD (Ser.co l) (show i + j ≤ n by omega)]
          have r1 := hred t i j ok
          have b2 := oks.pc i j
          have r2 : Pl.pc (lawT p m n (Ser.co l)) i j % m = Pl.pc (lawT p m n (Ser.co l)) i j := Int.emod_eq_of_lt b2.1 b2.2
          rw [← r1, ← r2]
          rw [Int.zero_emod] at e1
          exact (Int.emod_eq_emod_iff_emod_sub_eq_zero.2 e1).symm
      · rw [if_neg h0] at h; cases h
end Go.Proofs.YtfhdgcndiljjcabGreat

/- Plain, for TypicalParameters: a typical law gives its list back. -/
namespace Go.Proofs.YtfhdgcndiljjcabGreat
open Go.RowKit
namespace Tyc
theorem pow_cong {m a b : Int} (h : a % m = b % m) : ∀ k : Nat, a ^ k % m = b ^ k % m
  | 0 => by rw [Int.pow_zero, Int.pow_zero]
  | k + 1 => by rw [Int.pow_succ, Int.pow_succ]; exact Ser.mul_cong (pow_cong h k) h
theorem pev_mod {m : Int} {v v' : Nat → Int} (h : ∀ i, v i % m = v' i % m) : ∀ P : Po, pev v P % m = pev v' P % m
  | [] => rfl
  | x :: P => by
    show (mev v x + pev v P) % m = (mev v' x + pev v' P) % m
    refine Ser.add_cong ?_ (pev_mod h P)
    unfold mev
    exact Ser.mul_cong rfl (Ser.mul_cong (pow_cong (h 0) _) (Ser.mul_cong (pow_cong (h 1) _) (pow_cong (h 2) _)))
end Tyc
theorem lawT_mod {p D : Nat} {m : Int} {v v' : Nat → Int} (hp : p = 2 ∨ p = 3 ∨ p = 5 ∨ p = 7) (m1 : 2 ≤ m) (d1 : 1 ≤ D) (hD : D ≤ 10) (h : ∀ i, v i % m = v' i % m) : lawT p m D v = lawT p m D v' := by
  rw [lawT_fam hp m1 d1 hD, lawT_fam hp m1 d1 hD]
  exact Pl.tab_congr (fun i j _ => Tyc.pev_mod h _)
/-- the list as far as it has been read, and what lies behind -/
def vT (l : List Int) (v : Nat → Int) : Nat → Int := fun i => if i < l.length then Ser.co l i else v i
theorem vT_low {l : List Int} (v : Nat → Int) {i : Nat} (h : i < l.length) : vT l v i = Ser.co l i := if_pos h
theorem vT_mod {m : Int} {l : List Int} {v : Nat → Int} (h : ∀ i, i < l.length → Ser.co l i = v i % m) (i : Nat) : v i % m = vT l v i % m := by
  unfold vT
  by_cases hi : i < l.length
  · rw [if_pos hi, h i hi, Int.emod_emod]
  · rw [if_neg hi]
theorem gap_co {m : Int} {n : Nat} {t s : List (List Int)} (m1 : 2 ≤ m) (m2 : m ≤ 10000) (n1 : 1 ≤ n) (hn : n ≤ 10) {i : Nat} (hi : i ≤ n) : Ser.co (layC m (gapT m n t s) n) i % m = (Pl.pc s i (n - i) - Pl.pc t i (n - i)) % m := by
  have okg : Pl.Ok m n (gapT m n t s) := Pl.Ok.of_tab m1 m2 n1 hn _
  rw [layC_co okg n i hi]
  unfold gapT
  rw [Pl.pc_tab (by omega), Int.emod_emod]
theorem pw_units : ∀ p ∈ [2, 3, 5, 7], ∀ n ∈ List.range 11, isPw p n = true → n ≠ 6 ∧ n ≠ 10 := by decide
/-- in the degree of a power the next parameter comes back; elsewhere nothing is left -/
theorem ex_typ {m : Int} {p D n : Nat} {t : List (List Int)} {v : Nat → Int} {l : List Int} (hp : p = 2 ∨ p = 3 ∨ p = 5 ∨ p = 7) (ok : Pl.Ok m D t) (ht : ∀ i j, i + j ≤ D → Pl.pc t i j = Pl.pc (lawT p m D v) i j) (n2 : 2 ≤ n) (hn : n ≤ D)
    (hl : l.length = needN p (n - 1)) (hv : ∀ i, i < l.length → Ser.co l i = v i % m) :
    (isPw p n = true → exT m p t l n = v l.length % m ∧ (Cyc.facO m (layC m (gapT m n (Pl.tab m n (Pl.pc t)) (lawT p m n (Ser.co l))) n) n).isSome = true) ∧ (¬ isPw p n = true → exT m p t l n = 0) := by
  have m1 := ok.m1
  have m2 := ok.m2
  have hD := ok.d2
  obtain ⟨hne, hpw⟩ := need_step p (in4 hp) n (List.mem_range.2 (by omega)) n2
  have hpc : ∀ i j, i + j ≤ n → Pl.pc (Pl.tab m n (Pl.pc t)) i j % m = Pl.pc (lawT p m n (vT l v)) i j % m := fun i j h => by
    rw [Pl.pc_tab h, Int.emod_emod, ht i j (by omega), lawT_pc hp m1 (show 1 ≤ n by omega) hn hD v h, lawT_mod hp m1 (show 1 ≤ n by omega) (by omega) (vT_mod hv)]
  refine ⟨fun hw => ?_, fun hw => ?_⟩
  · rw [if_pos hw] at hne
    have hpN := hpw hw
    obtain ⟨n6, n10⟩ := pw_units p (in4 hp) n (List.mem_range.2 (by omega)) hw
    have hN1 : needN p n - 1 = l.length := by omega
    refine facM_mul m1 m2 n2 (by omega) n6 n10 (fun i hi => ?_)
    rw [gap_co m1 m2 (by omega) (by omega) hi]
    have e := typ_top (p := p) (N := needN p n) (m := m) (c := v l.length) (v := Ser.co l) (v' := vT l v) hp m1 m2 (by omega) (by omega) (fun k hk => (vT_low v (by omega)).symm)
      (by rw [hN1]; unfold vT; rw [if_neg (by omega), Ser.co_over (Nat.le_refl _), Int.sub_zero]) (i := i) (by omega)
    rw [hpN] at e
    have h2 := hpc i (n - i) (by omega)
    have e3 := Ser.add_cong (m := m) h2 (show (-(Pl.pc (lawT p m n (Ser.co l)) i (n - i))) % m = (-(Pl.pc (lawT p m n (Ser.co l)) i (n - i))) % m from rfl)
    have e4 := Ser.mul_cong (m := m) (show (-1 : Int) % m = (-1) % m from rfl) (e3.trans ((congrArg (· % m) (Int.sub_eq_add_neg).symm).trans e))
    rw [show (-1 : Int) * (Pl.pc (Pl.tab m n (Pl.pc t)) i (n - i) + -(Pl.pc (lawT p m n (Ser.co l)) i (n - i))) = Pl.pc (lawT p m n (Ser.co l)) i (n - i) - Pl.pc (Pl.tab m n (Pl.pc t)) i (n - i) by omega,
      show (-1 : Int) * (-v l.length * layF n i) = v l.length * layF n i by rw [show -v l.length * layF n i = -(v l.length * layF n i) from Int.neg_mul _ _]; omega] at e4
    exact e4
  · rw [if_neg hw] at hne
    have hs : lawT p m n (Ser.co l) = lawT p m n (vT l v) := lawT_same (fun i hi => (vT_low v (by omega)).symm)
    refine Cyc.facM_first m1 m2 (Int.le_refl 0) (fun i hi => ?_) (fun c' h1 h2 => absurd h2 (by omega))
    have h0 : Ser.co (layC m (gapT m n (Pl.tab m n (Pl.pc t)) (lawT p m n (Ser.co l))) n) i % m = 0 := by
      rw [gap_co m1 m2 (by omega) (by omega) hi, hs]
      exact Int.emod_eq_emod_iff_emod_sub_eq_zero.1 (hpc i (n - i) (by omega)).symm
    rw [Int.zero_mul, Int.zero_sub]
    have := Int.dvd_of_emod_eq_zero h0
    exact Int.emod_eq_zero_of_dvd ((Int.dvd_neg).2 this)
theorem tp_typ {m : Int} {p D : Nat} {t : List (List Int)} {v : Nat → Int} (hp : p = 2 ∨ p = 3 ∨ p = 5 ∨ p = 7) (ok : Pl.Ok m D t) (ht : ∀ i j, i + j ≤ D → Pl.pc t i j = Pl.pc (lawT p m D v) i j) :
    ∀ f n l, 2 ≤ n → n + f = D + 1 → l.length = needN p (n - 1) → (∀ i, i < l.length → Ser.co l i = v i % m) → ∃ r, tpP m p t f n l = some r ∧ r.length = needN p D ∧ ∀ i, i < r.length → Ser.co r i = v i % m
  | 0, n, l, n2, hnf, hl, hv => ⟨l, rfl, by rw [hl]; congr 1; omega, hv⟩
  | f + 1, n, l, n2, hnf, hl, hv => by
    have hD := ok.d2
    obtain ⟨e1, e2⟩ := ex_typ hp ok ht n2 (show n ≤ D by omega) hl hv
    obtain ⟨hne, -⟩ := need_step p (in4 hp) n (List.mem_range.2 (by omega)) n2
    rw [tpP]
    by_cases hw : isPw p n = true
    · rw [if_pos hw] at hne ⊢
      rw [(e1 hw).1]
      refine tp_typ hp ok ht f (n + 1) _ (by omega) (by omega) (by rw [List.length_append, hl, Nat.add_sub_cancel, hne]; rfl) (fun i hi => ?_)
      rw [List.length_append] at hi
      rcases Nat.lt_or_ge i l.length with h | h
      · rw [co_snoc_low l _ h]; exact hv i h
      · obtain rfl : i = l.length := by simp at hi; omega
        rw [co_snoc_at]
    · rw [if_neg hw] at hne ⊢
      rw [if_pos (e2 hw)]
      exact tp_typ hp ok ht f (n + 1) l (by omega) (by omega) (by rw [hl, Nat.add_sub_cancel, hne]; rfl) hv
end Go.Proofs.YtfhdgcndiljjcabGreat

/- Plain, for TypicalParameters: the lists of the program and of the model are one. -/
namespace Go.Proofs.YtfhdgcndiljjcabGreat
open Go.RowKit
/-- what the model does -/
def mpL (m : Int) (p : Nat) (t : List (List Int)) (out : List Int) (n : Nat) : List Int := layC m (gapT m n (Pl.tab m n (Pl.pc t)) (lawT p m n (Ser.co (out ++ [0])))) n
def mpP (m : Int) (p : Nat) (t : List (List Int)) : Nat → Nat → List Int → Option (List Int)
  | 0, _, out => some out
  | f + 1, k, out => if (Cyc.facO m (mpL m p t out (p ^ k)) (p ^ k)).isSome = true then mpP m p t f (k + 1) (out ++ [Cyc.facM m (mpL m p t out (p ^ k)) (p ^ k)]) else none
def mpR (m : Int) (p D : Nat) (t : List (List Int)) : Option (List Int) :=
  match mpP m p t (needN p D) 1 [] with
  | none => none
  | some out => if lawT p m D (Ser.co out) = t then some out else none
theorem co_zero (l : List Int) : Ser.co (l ++ [0]) = Ser.co l := by
  funext i
  rcases Nat.lt_trichotomy i l.length with h | rfl | h
  · exact co_snoc_low l 0 h
  · rw [co_snoc_at, Ser.co_over (Nat.le_refl _)]
  · rw [Ser.co_over (by rw [List.length_append]; simp; omega), Ser.co_over (by omega)]
theorem need_pred : ∀ p ∈ [2, 3, 5, 7], ∀ D ∈ List.range 11, ∀ k ∈ List.range 5, 1 ≤ k → k ≤ needN p D → needN p (p ^ k - 1) = k - 1 ∧ p ^ k ≤ D ∧ isPw p (p ^ k) = true := by decide
theorem mp_some {m : Int} {p D : Nat} {t : List (List Int)} {r : List Int} (hp : p = 2 ∨ p = 3 ∨ p = 5 ∨ p = 7) (ok : Pl.Ok m D t) (ht : ∀ i j, i + j ≤ D → Pl.pc t i j = Pl.pc (lawT p m D (Ser.co r)) i j) (hl : r.length = needN p D) (hx : ∀ x ∈ r, 0 ≤ x ∧ x < m) :
    ∀ f k, 1 ≤ k → k + f = needN p D + 1 → mpP m p t f k (r.take (k - 1)) = some r
  | 0, k, k1, hkf => by
    show some (r.take (k - 1)) = some r
    rw [List.take_of_length_le (by omega)]
  | f + 1, k, k1, hkf => by
    have hD := ok.d2
    have h3 := needN_le3 p (in4 hp) D (List.mem_range.2 (by omega))
    obtain ⟨h1, h2, hw⟩ := need_pred p (in4 hp) D (List.mem_range.2 (by omega)) k (List.mem_range.2 (by omega)) k1 (by omega)
    have hpk : 2 ≤ p ^ k := by
      have : p ^ 1 ≤ p ^ k := Nat.pow_le_pow_right (by omega) k1
      rw [Nat.pow_one] at this
      omega
    have htl : (r.take (k - 1)).length = k - 1 := by rw [List.length_take]; omega
    have hco : ∀ i, i < k → Ser.co r i % m = Ser.co r i := fun i hi => by
      have := hx r[i] (List.getElem_mem (by omega))
      unfold Ser.co
      rw [List.getElem?_eq_getElem (by omega), Option.getD_some]
      exact Int.emod_eq_of_lt this.1 this.2
    have hv : ∀ i, i < (r.take (k - 1)).length → Ser.co (r.take (k - 1)) i = Ser.co r i % m := fun i hi => by
      rw [htl] at hi
      rw [hco i (by omega)]
      unfold Ser.co
      rw [List.getElem?_take_of_lt hi]
    obtain ⟨e1, e2⟩ := (ex_typ hp ok ht hpk h2 (by rw [htl, h1]) hv).1 hw
    have hL : mpL m p t (r.take (k - 1)) (p ^ k) = layC m (gapT m (p ^ k) (Pl.tab m (p ^ k) (Pl.pc t)) (lawT p m (p ^ k) (Ser.co (r.take (k - 1))))) (p ^ k) := by unfold mpL; rw [co_zero]
    rw [mpP, hL, if_pos e2]
    change mpP m p t f (k + 1) (r.take (k - 1) ++ [exT m p t (r.take (k - 1)) (p ^ k)]) = some r
    rw [e1, htl, hco (k - 1) (by omega)]
    have hT : r.take (k - 1) ++ [Ser.co r (k - 1)] = r.take (k + 1 - 1) := by
      rw [show k + 1 - 1 = (k - 1) + 1 by omega, List.take_add_one]
      congr 1
      unfold Ser.co
      rw [List.getElem?_eq_getElem (by omega)]; rfl
    rw [hT]
    exact mp_some hp ok ht hl hx f (k + 1) (by omega) (by omega)
theorem mp_eq {m : Int} {p D : Nat} {t : List (List Int)} (hp : p = 2 ∨ p = 3 ∨ p = 5 ∨ p = 7) (ok : Pl.Ok m D t) (hf : Pl.fau m D (Pl.pc t) = none) : mpR m p D t = tpP m p t (D - 1) 2 [] := by
  have hd1 := ok.d1
  have hN1 : needN p (2 - 1) = 0 := by rcases hp with rfl | rfl | rfl | rfl <;> rfl
  have hN := Pl.norm_law hf ok
  have hD := ok.d2
  cases h : tpP m p t (D - 1) 2 [] with
  | some r =>
    obtain ⟨hl, hx, ht⟩ := tp_some hp ok hf (D - 1) 2 [] (Nat.le_refl _) (by omega) (by rw [hN1]; rfl) (fun x hx => by cases hx) (fun i j hij => by
      rw [lawT_fam hp ok.m1 hd1 hD, Pl.pc_tab (by omega), Tyc.fam_side hp _ (by omega) (by omega)]
      have hm1 := ok.m1
      have e1 : (1 : Int) % m = 1 := Int.emod_eq_of_lt (by omega) (by omega)
      rcases (show (i = 0 ∧ j = 0) ∨ (i = 1 ∧ j = 0) ∨ (i = 0 ∧ j = 1) by omega) with ⟨rfl, rfl⟩ | ⟨rfl, rfl⟩ | ⟨rfl, rfl⟩
      · rw [hN.x 0 (by omega)]; show (0 : Int) = 0 % m; rw [Int.zero_emod]
      · rw [hN.x 1 (by omega)]; show (1 : Int) = 1 % m; rw [e1]
      · rw [hN.y 1 (by omega)]; show (1 : Int) = 1 % m; rw [e1]) r h
    unfold mpR
    have := mp_some hp ok ht hl hx (needN p D) 1 (Nat.le_refl _) (by omega)
    rw [show r.take (1 - 1) = [] from rfl] at this
    rw [this]
    have hT : lawT p m D (Ser.co r) = t := by
      rw [(lawT_ok (p := p) ok.m1 ok.m2 hd1 hD (Ser.co r)).self, ok.self]
      exact Pl.tab_congr (fun i j hij => by
        rw [ht i j hij])
    show (if lawT p m D (Ser.co r) = t then some r else none) = some r
    rw [if_pos hT]
  | none =>
    unfold mpR
    cases hm : mpP m p t (needN p D) 1 [] with
    | none => rfl
    | some out =>
      show (if lawT p m D (Ser.co out) = t then some out else none) = none
      by_cases hT : lawT p m D (Ser.co out) = t
      · obtain ⟨r, hr, -⟩ := tp_typ (v := Ser.co out) hp ok (fun i j _ => by rw [hT]) (D - 1) 2 [] (Nat.le_refl _) (by omega) (by rw [hN1]; rfl) (fun i hi => absurd hi (by simp))
        rw [h] at hr; cases hr
      · rw [if_neg hT]
end Go.Proofs.YtfhdgcndiljjcabGreat

/- Contracts of CutPlane and ChangePlane, of the program. -/
namespace Go.Proofs.YtfhdgcndiljjcabGreat
open Go.RowKit Go.WideShapes Go.ChangeShapes Go.ChangeAt
set_option maxHeartbeats 1000000 in
theorem withinC_any (i j g : Nat) (m : Int) (d : Nat) (A : Option Addr) (c : Nat) (t : List (List Int)) (W : World) (hb : GBox W g m d A t.length c) (hs : Pl.Ok m d t) (hr : RP W A t) (hij : i + j ≤ d) :
    Calls Tryz.prog 152 #[.int .i64 i, .int .i64 j, .pointer (some ⟨g, 0, none⟩)] W fun e w' => e = .returned (.int .i64 (Pl.pc t i j)) ∧ Below W.heap.size W w' := by
  obtain ⟨b, off, rfl⟩ := hr.some (by rw [hs.len]; omega)
  obtain ⟨p1, p2, p3, L, N, hL, hN, x1, x2, x3⟩ := hb.num hs hr i j hij
  obtain ⟨X, hX⟩ : ∃ X, Pl.pc t i j = X := ⟨_, rfl⟩
  rw [hX] at x3 ⊢
  have j1 : (0 : Int) ≤ (i : Int) := by omega
  have j2 : (i : Int) < (L : Int) := by omega
  have j3 : (0 : Int) ≤ (j : Int) := by omega
  have j4 : (j : Int) < (N : Int) := by omega
  clear hb hr hs hX hL hN
  go_enter Tryz.func152, Tryz.ntmps152
  go_wp2
  go_ret
  exact ⟨rfl, Below.refl _ _⟩
set_option maxHeartbeats 2000000 in
set_option maxRecDepth 100000 in
theorem within_any (m : Int) (d : Nat) (A : Option Addr) (c : Nat) (t : List (List Int)) (k : Int) (e : Nat) (w : World) (hs : Pl.Ok m d t) (hr : RP w A t) (k1 : 1 ≤ k) (k2 : k ≤ 10000) (he : e ≤ d) :
    Calls Tryz.prog 127 #[.agg #[.int .i64 m, .int .i64 d, .slice A t.length c], .agg #[.int .i64 k, .int .i64 e]] w fun e' w' => ∃ v, e' = .returned (.agg #[.int .i64 k, .int .i64 e, v]) ∧ OwnR w' w.heap.size w'.heap.size v (Pl.tab k e (Pl.pc t)) ∧ Below w.heap.size w w' := by
  obtain ⟨W, hW⟩ : ∃ W, ((w.alloc (.cells #[.int .i64 m, .int .i64 d, .slice A t.length c] 55)).alloc (.cells #[.int .i64 k, .int .i64 e] 53)).alloc (.cells #[.int .i64 0, .int .i64 0, .slice none 0 0] 55) = W := ⟨_, rfl⟩
  have hwb : Below w.heap.size w W := by rw [← hW]; exact below_alloc _ (below_alloc _ (below_one _ _))
  have b1 : GBox W w.heap.size m d A t.length c := by rw [← hW]; exact ((GBox.new _ _ _ _ _ _ _).keep (below_one _ _)).keep (below_one _ _)
  have v3 : VarC 55 W (w.heap.size + 1 + 1) #[.int .i64 0, .int .i64 0, .slice none 0 0] := by
    rw [← hW]
    have := VarC.new 55 ((w.alloc (.cells #[.int .i64 m, .int .i64 d, .slice A t.length c] 55)).alloc (.cells #[.int .i64 k, .int .i64 e] 53)) #[.int .i64 0, .int .i64 0, .slice none 0 0]
    simpa using this
  have HS := Lib.hid (filled_any k e 152 #[.pointer (some ⟨w.heap.size, 0, none⟩)] (Pl.pc t) W k1 k2 (by have := hs.d2; omega)
    (fun i j hij => by have := hs.pc i j; have := hs.m2; omega) (enters_fn Tryz.func152 (of_decide_eq_true (by kernel_rfl)) rfl)
    (fun i j W1 hij hb => withinC_any i j _ m d A c t W1 (b1.keep hb) hs ((hr.below hwb).below hb) (by omega)))
  have HB := Lib.hid hwb
  have HW := Lib.hid hW
  have V3 := Lib.hid v3
  obtain ⟨T, hT⟩ : ∃ T, Pl.tab k e (Pl.pc t) = T := ⟨_, rfl⟩
  rw [hT] at HS ⊢
  clear b1 v3 hwb hW hr hs hT
  go_enter Tryz.func127, Tryz.ntmps127
  go_wp2_with fail
  rw [HW.out]
  refine HS.out.mono ?_
  rintro e' w2 ⟨v, rfl, ho, hb⟩
  obtain ⟨A2, c2, rfl, -⟩ := ho.len
  have hv := V3.out.keep hb
  obtain ⟨q0, q1, q2, q3, q4, q5⟩ := hv.tells3
  obtain ⟨f0, f1, f2, f3, f4⟩ := fin_grid (w := w) hv ho (by have := V3.out.lt; omega) (by omega) (Nat.le_refl _) (below_step HB.out hb) (.int .i64 k) (.int .i64 e) (.slice A2 T.length c2)
  have F3 := Lib.hid (f3.low (show w.heap.size ≤ W.heap.size from HB.out.size))
  have F4 := Lib.hid f4
  unfold set3 at f0 f1 f2
  clear f3 f4 ho hv hb
  go_wp2
  exact bodyPost_ret (v := .agg #[.int .i64 k, .int .i64 e, .slice A2 T.length c2]) (by simp [results, Tryz.results127, go_sem, f0, f1, f2]) rfl ⟨_, rfl, F3.out, F4.out⟩
end Go.Proofs.YtfhdgcndiljjcabGreat

/- Dividing by a number as often as possible: the plain function, and contracts of takeOut and of the model's valuation. -/
namespace Go.Proofs.YtfhdgcndiljjcabGreat
open Go.RowKit Go.WideShapes Go.ChangeShapes Go.ChangeAt
/-- dividing n by p as often as possible: how often, and what is left -/
def tk (p n : Int) : Int × Int :=
  if _h : 2 ≤ p ∧ n ≠ 0 ∧ n.tmod p = 0 then ((tk p (n.tdiv p)).1 + 1, (tk p (n.tdiv p)).2) else (0, n)
termination_by n.natAbs
decreasing_by all_goals rw [Int.natAbs_tdiv]; exact Nat.div_lt_self (by omega) (by omega)
theorem tk_yes {p n : Int} (hp : 2 ≤ p) (hn : n ≠ 0) (h : n.tmod p = 0) : tk p n = ((tk p (n.tdiv p)).1 + 1, (tk p (n.tdiv p)).2) := by
  rw [tk, dif_pos ⟨hp, hn, h⟩]
theorem tk_no {p n : Int} (h : ¬ n.tmod p = 0) : tk p n = (0, n) := by rw [tk, dif_neg (fun c => h c.2.2)]
theorem tk_step {p n : Int} (hp : 2 ≤ p) (hn : n ≠ 0) (h : n.tmod p = 0) : n.tdiv p ≠ 0 ∧ (n.tdiv p).natAbs < n.natAbs := by
  refine ⟨fun h0 => ?_, by rw [Int.natAbs_tdiv]; exact Nat.div_lt_self (by omega) (by omega)⟩
  have := Int.tmod_add_mul_tdiv n p
  rw [h, h0] at this
  simp at this
  exact hn this.symm
set_option maxHeartbeats 1000000 in
theorem takeOut_any (p n : Int) (w : World) (hp : 2 ≤ p) (hp2 : p ≤ 1000000000000) (hn : n ≠ 0) (h1 : -1000000000000 ≤ n) (h2 : n ≤ 1000000000000) :
    Calls Tryz.prog 67 #[.int .i64 p, .int .i64 n] w fun e w' => e = .returned (.tuple #[.int .i64 (tk p n).1, .int .i64 (tk p n).2]) ∧ w = w' := by
  have hp0 : ¬ p = 0 := by omega
  go_enter Tryz.func67, Tryz.ntmps67
  go_wp2
  go_loop [6, 1] (fun k x => ∃ (K : Nat) (X : Int), k = .int .i64 K ∧ x = .int .i64 X ∧ X ≠ 0 ∧ K + X.natAbs ≤ 1000000000000 ∧ K + (tk p X).1 = (tk p n).1 ∧ (tk p X).2 = (tk p n).2) (fun _ x => (intOf x).natAbs)
  case atStart => exact ⟨0, n, rfl, rfl, hn, by omega, by omega, rfl⟩
  case round =>
    obtain ⟨K, X, rfl, rfl, hX, hb, e1, e2⟩ := hrel
    have H1 := Lib.hid e1
    have H2 := Lib.hid e2
    clear e1 e2
    by_cases hz : X.tmod p = 0
    · obtain ⟨s1, s2⟩ := tk_step hp hX hz
      have HY := Lib.hid (tk_yes hp hX hz)
      have S1 := Lib.hid s1
      obtain ⟨c1, c2⟩ : -1000000000000 ≤ X.tdiv p ∧ X.tdiv p ≤ 1000000000000 := by omega
      have S2 := Lib.hid s2
      clear s1 s2
      go_wp2
      go_round
      case rel =>
        have h1 := H1.out
        have h2 := H2.out
        rw [HY.out] at h1 h2
        exact ⟨K + 1, X.tdiv p, by go_num, rfl, S1.out, by have := S2.out; omega, by push_cast; omega, h2⟩
      case measure => simp only [intOf]; exact S2.out
    · have HY := Lib.hid (tk_no hz)
      obtain ⟨n1, n2⟩ := ne_facts hz
      go_wp2
      go_ret2
      have h1 := H1.out
      have h2 := H2.out
      rw [HY.out] at h1 h2
      exact ⟨ret_ii (by omega) h2, rfl⟩
end Go.Proofs.YtfhdgcndiljjcabGreat

/- Plain number theory: what trial division tells. No program in sight. -/
namespace Go.Proofs.YtfhdgcndiljjcabGreat
namespace Num
/-- n is a prime number -/
def prB (n : Int) : Bool := decide (1 < n ∧ ∀ d : Nat, d < n.toNat → 2 ≤ d → ¬ (d : Int) ∣ n)
theorem prB_iff (n : Int) : prB n = true ↔ 1 < n ∧ ∀ d : Nat, d < n.toNat → 2 ≤ d → ¬ (d : Int) ∣ n := by unfold prB; exact decide_eq_true_iff
theorem prB_small {n : Int} (h : n < 4) : prB n = decide (1 < n) := by
  rw [Bool.eq_iff_iff, prB_iff, decide_eq_true_iff]
  constructor
  · exact fun h => h.1
  · refine fun h1 => ⟨h1, fun d h2 h3 h4 => ?_⟩
    obtain ⟨rfl, rfl⟩ : d = 2 ∧ n = 3 := by omega
    omega
theorem prB_no {n : Int} (d : Nat) (h1 : 2 ≤ d) (h2 : (d : Int) < n) (h3 : n % (d : Int) = 0) : prB n = false := by
  rw [← Bool.not_eq_true, prB_iff]
  exact fun h => h.2 d (by omega) h1 (Int.dvd_of_emod_eq_zero h3)
/-- no divisor of n from 2 on lies below d -/
def LowI (d : Nat) (n : Int) : Prop := ∀ e : Nat, 2 ≤ e → e < d → ¬ (e : Int) ∣ n
theorem LowI.two (n : Int) : LowI 2 n := fun e h1 h2 => by omega
theorem LowI.succ {d : Nat} {n : Int} (h : LowI d n) (hn : ¬ n % (d : Int) = 0) : LowI (d + 1) n := by
  intro e h1 h2
  rcases (show e < d ∨ e = d by omega) with c | rfl
  · exact h e h1 c
  · exact fun h3 => hn (Int.emod_eq_zero_of_dvd h3)
theorem LowI.prime {d : Nat} {n : Int} (h : LowI d n) (hn : 1 < n) (hd : n < (d : Int) * d) : prB n = true := by
  refine (prB_iff n).2 ⟨hn, fun e h1 h2 h3 => ?_⟩
  obtain ⟨N, rfl⟩ := Int.eq_ofNat_of_zero_le (show 0 ≤ n by omega)
  have h3' : e ∣ N := Int.natCast_dvd_natCast.1 h3
  obtain ⟨f, hf⟩ := h3'
  have hd' : N < d * d := by rw [← Int.natCast_mul] at hd; omega
  have hde : d ≤ e := by
    apply Nat.le_of_not_lt
    intro hlt
    exact h e h2 hlt h3
  have hf2 : 2 ≤ f := by
    apply Nat.le_of_not_lt
    intro hlt
    have : f = 0 ∨ f = 1 := by omega
    rcases this with rfl | rfl <;> simp at hf <;> omega
  have hdf : d ≤ f := by
    apply Nat.le_of_not_lt
    intro hlt
    exact h f hf2 hlt (Int.natCast_dvd_natCast.2 ⟨e, by rw [hf, Nat.mul_comm]⟩)
  have := Nat.mul_le_mul hde hdf
  omega
theorem LowI.start {n : Int} (h2 : ¬ n % 2 = 0) (h3 : ¬ n % 3 = 0) : LowI 5 n := by
  intro e h1 h4 h5
  have := Int.emod_eq_zero_of_dvd h5
  rcases (show e = 2 ∨ e = 3 ∨ e = 4 by omega) with rfl | rfl | rfl <;> omega
theorem LowI.six {m : Nat} {n : Int} (h : LowI (m - 1) n) (hm : 6 ≤ m) (h6 : m % 6 = 0) (ha : ¬ n % ((m : Int) - 1) = 0) (hb : ¬ n % ((m : Int) + 1) = 0) : LowI (m + 5) n := by
  intro e h1 h2 h3
  have hz := Int.emod_eq_zero_of_dvd h3
  rcases (show e < m - 1 ∨ e = m - 1 ∨ e = m + 1 ∨ e % 2 = 0 ∨ e % 3 = 0 by omega) with c | rfl | rfl | c | c
  · exact h e h1 c h3
  · apply ha
    rw [← hz]; congr 1; omega
  · apply hb
    rw [← hz]; congr 1
  · refine h 2 (by omega) (by omega) (Int.dvd_trans ?_ h3)
    exact Int.natCast_dvd_natCast.2 (Nat.dvd_of_mod_eq_zero c)
  · refine h 3 (by omega) (by omega) (Int.dvd_trans ?_ h3)
    exact Int.natCast_dvd_natCast.2 (Nat.dvd_of_mod_eq_zero c)
theorem sq_le {d c : Int} (h0 : 0 ≤ d) (h : d ≤ c) : 0 ≤ d * d ∧ d * d ≤ c * c :=
  ⟨Int.mul_nonneg h0 h0, Int.mul_le_mul h h h0 (by omega)⟩
theorem lin_sq {d k : Int} (h0 : 0 ≤ d) (h : k ≤ d) : k * d ≤ d * d := Int.mul_le_mul_of_nonneg_right h h0
end Num
end Go.Proofs.YtfhdgcndiljjcabGreat

