/- Texts of contracts, joined. -/
import Derived.Test.YtfhdgcndiljjcabGreatMgaf
import Derived.Test.YtfhdgcndiljjcabGreatMgah
import Derived.Test.YtfhdgcndiljjcabGreatMgai
import Derived.Test.YtfhdgcndiljjcabGreatMgac
import Derived.Test.YtfhdgcndiljjcabGreatMgab
import Derived.Test.YtfhdgcndiljjcabGreatMgae
import Derived.Test.YtfhdgcndiljjcabGreatMgaa
import Derived.OrdersHeld
import Derived.Deep.RegionHeld3
import Derived.Deep.DrawnRows
/- Contracts of ComposeSeries, of the model. -/
namespace Go.Proofs.YtfhdgcndiljjcabGreat
open Go.RowKit Go.WideShapes Go.ChangeShapes Go.ChangeAt
end Go.Proofs.YtfhdgcndiljjcabGreat

/- Contracts of InverseOfSeries, of the model. -/
namespace Go.Proofs.YtfhdgcndiljjcabGreat
open Go.RowKit Go.WideShapes Go.ChangeShapes Go.ChangeAt
end Go.Proofs.YtfhdgcndiljjcabGreat

/- Contracts of ReverseSeries, of the program and of the model. -/
namespace Go.Proofs.YtfhdgcndiljjcabGreat
open Go.RowKit Go.WideShapes Go.ChangeShapes Go.ChangeAt
end Go.Proofs.YtfhdgcndiljjcabGreat

/- Contracts of IntegrateSeries, of the program. -/
namespace Go.Proofs.YtfhdgcndiljjcabGreat
open Go.RowKit Go.WideShapes Go.ChangeShapes Go.ChangeAt
/-- a block of one slice -/
def Cls (w : World) (g : Nat) (x : Value) : Prop := w.cell? ⟨g, 0, none⟩ = some x ∧ g < w.heap.size
theorem Cls.new (w : World) (x : Value) (t : TypeId) : Cls (w.alloc (.cells #[x] t)) w.heap.size x := by
  refine ⟨?_, by simp⟩
  rw [World.cell?_alloc_at _ _ _ _ rfl]; rfl
theorem Cls.keep {w w' : World} {g : Nat} {x : Value} (h : Cls w g x) (hb : Below w.heap.size w w') : Cls w' g x :=
  ⟨(hb.cell (p := ⟨g, 0, none⟩) h.2).trans h.1, Nat.lt_of_lt_of_le h.2 hb.size⟩
end Go.Proofs.YtfhdgcndiljjcabGreat

/- Contracts of the model's AddSeries. -/
namespace Go.Proofs.YtfhdgcndiljjcabGreat
open Go.RowKit Go.WideShapes Go.ChangeShapes Go.ChangeAt
end Go.Proofs.YtfhdgcndiljjcabGreat

/- Contracts of IntegrateSeries, of the model. -/
namespace Go.Proofs.YtfhdgcndiljjcabGreat
open Go.RowKit Go.WideShapes Go.ChangeShapes Go.ChangeAt
end Go.Proofs.YtfhdgcndiljjcabGreat

/- Differentials and logarithms of laws: plain facts. -/
namespace Go.Proofs.YtfhdgcndiljjcabGreat
open Go.RowKit Go.WideShapes Go.ChangeShapes Go.ChangeAt
end Go.Proofs.YtfhdgcndiljjcabGreat

/- What the walks of regions that draw their order keep: cells below a block. -/
namespace Go.Proofs.YtfhdgcndiljjcabGreat
open Go.RowKit Go.WideShapes Go.ChangeShapes Go.ChangeAt
/-- F holds of every world in which what lies below block B is as in W -/
theorem keepS {B : Nat} {W w w' : World} {F : World → Prop} (HF : ∀ w', Below B W w' → F w') (hB : B ≤ W.heap.size) (h : F w ∧ Below B W w) (hb : Below w.heap.size w w') : F w' ∧ Below B W w' := by
  have h2 : Below B W w' := h.2.trans (hb.mono (Nat.le_trans hB h.2.size))
  exact ⟨HF _ h2, h2⟩
theorem keepW {B : Nat} {W w' : World} {F : World → Prop} (HF : ∀ w', Below B W w' → F w') (hb : Below B W w') : F w' ∧ Below B W w' := ⟨HF _ hb, hb⟩
end Go.Proofs.YtfhdgcndiljjcabGreat

/- Contracts of the model's tables of a law: a list shorter than its degree put upon a plane; columns; the code of a law. -/
namespace Go.Proofs.YtfhdgcndiljjcabGreat
open Go.RowKit Go.WideShapes Go.ChangeShapes Go.ChangeAt
set_option maxHeartbeats 8000000 in
set_option maxRecDepth 100000 in
theorem l03AfterQ_any (m : Int) (d : Nat) (A : Option Addr) (c : Nat) (l : List Int) (A' : Option Addr) (c' : Nat) (t : List (List Int)) (w : World) (hn : l.length ≤ d + 1) (hred : Ser.Red m l) (hs' : Pl.Ok m d t) (hr : RI w A l) (hr' : RP w A' t) :
    Calls Tryz.prog 100 #[.int .i64 m, .slice A l.length c, .slice A' t.length c'] w fun e w' => ∃ v, e = .returned v ∧ OwnR w' w.heap.size w'.heap.size v (Pl.horq m d l (Pl.pc t) l.length) ∧ Below w.heap.size w w' := by
  have HR := Lib.hid hr
  have HR' := Lib.hid hr'
  have HRED := Lib.hid hred
  have HS' := Lib.hid hs'
  have hd2 := hs'.d2
  have m1 := hs'.m1
  have m2 := hs'.m2
  have hm0 : ¬ m = 0 := by omega
  have HZ := Lib.hid (l03Zero_any m d w (by omega))
  have HT := Lib.hid (fun (k : Nat) (A1 : Option Addr) (c1 : Nat) (W0 : World) (h : RP W0 A1 (Pl.horq m d l (Pl.pc t) k)) (h' : RP W0 A' t) => by
    have := l03Times_any m d A1 c1 (Pl.horq m d l (Pl.pc t) k) A' c' t W0 (Pl.horq_ok m1 m2 hs'.d1 hd2 l _ k) hs' h h'
    rw [Pl.horq_length] at this
    exact this)
  have hst0 := fun k => Pl.horq_step (m := m) (d := d) l (Pl.pc t) k
  obtain ⟨L, hL⟩ : ∃ L, l.length = L := ⟨_, rfl⟩
  rw [hL] at hst0 hn
  have HST0 := Lib.hid hst0
  obtain ⟨L', hL'⟩ : ∃ L, t.length = L := ⟨_, rfl⟩
  have hLd' : (L' : Int) - 1 = (d : Int) := by have := hs'.len; omega
  have hLb : L ≤ 11 := by omega
  rw [hL'] at HT
  rw [hL, hL']
  have HL := Lib.hid hL
  clear hr hr' hs' hL hL' hred hst0
  go_enter Tryz.func100, Tryz.ntmps100
  go_wp2_with fail
  refine HZ.out.mono ?_
  rintro e w1 ⟨v, rfl, ho, hb⟩
  obtain ⟨A0, c0, rfl, -⟩ := ho.len
  rw [Pl.tab_length] at ho ⊢
  have HO1 := Lib.hid (show OwnR w1 w.heap.size w1.heap.size (.slice A0 (d + 1) c0) (Pl.horq m d l (Pl.pc t) 0) from ho)
  have HB1 := Lib.hid hb
  clear ho hb
  go_wp2
  go_loopw [7, 8] (fun s7 s8 wr => ∃ (k t0 : Nat) (I : Int) (A1 : Option Addr) (c1 : Nat), k + t0 = L ∧ I = (t0 : Int) - 1 ∧ s8 = .int .i64 I ∧ s7 = .slice A1 (d + 1) c1 ∧ OwnR wr w.heap.size wr.heap.size (.slice A1 (d + 1) c1) (Pl.horq m d l (Pl.pc t) k) ∧ Below w.heap.size w wr) (fun _ s8 _ => (intOf s8 + 1).toNat)
  case atStart => exact ⟨0, L, _, A0, c0, by omega, rfl, by first | rfl | go_num, rfl, HO1.out, HB1.out⟩
  case round =>
    clear HO1 HB1
    obtain ⟨k, t0, I, A1, c1, hkt, hI, rfl, rfl, hown, hbel⟩ := hrel
    have HB := Lib.hid hbel
    have HO := Lib.hid hown
    clear hown hbel
    rcases t0 with _ | i
    · obtain rfl : k = L := by omega
      obtain rfl : I = -1 := by omega
      clear hI hkt
      go_wp2
      go_ret
      exact ⟨_, rfl, HO.out, HB.out⟩
    · obtain rfl : I = (i : Int) := by omega
      have hik : L - 1 - k = i := by omega
      have hiL : i < L := by omega
      have HTK := Lib.hid (HT.out k A1 c1 wr (by obtain ⟨_, _, e, h⟩ := HO.out.len; injection e with e1 e2 e3; subst e1; exact h) (HR'.out.below HB.out))
      have hst := HST0.out k
      rw [hik] at hst
      obtain ⟨F, hF⟩ : ∃ F, Pl.mul2 (Pl.pc (Pl.horq m d l (Pl.pc t) k)) (Pl.pc t) = F := ⟨_, rfl⟩
      rw [hF] at HTK hst
      have HST := Lib.hid hst
      have HKT := Lib.hid hkt
      clear hI hst hF hik hkt
      go_wp2_with fail
      refine HTK.out.mono ?_
      rintro e w3 ⟨v3, rfl, ho3, hb3⟩
      obtain ⟨g, cv, rfl⟩ := ho3.openv (by rw [Pl.tab_length]; omega)
      rw [Pl.tab_length] at ho3 ⊢
      obtain ⟨b4, c4, h1, h2, h3, h4, hcel⟩ := ho3.numB 0 0 (d + 1) (by rw [Pl.tab_length]; omega) (by rw [Pl.tab_row m d _ 0 (by omega), Ser.cut_length]; omega) (by omega)
      obtain ⟨a4, -, -, -⟩ := hcel w3 (Below.refl _ _)
      obtain ⟨k4, k5, k6, k7⟩ := hcel w3.drew (below_drew0 w3)
      obtain ⟨b', off', rfl, hbb', hci⟩ := HR.out.at i (by have := HL.out; omega)
      have hc := ((below_step HB.out hb3).cell (p := ⟨b', off' + i, none⟩) hbb').trans hci
      have hst := HST.out
      obtain ⟨Z, hZ⟩ : ∃ Z, Ser.co l i = Z := ⟨_, rfl⟩
      have hzb := HRED.out i
      have hyb := (HS'.out.tab F).pc 0 0
      obtain ⟨Y, hY⟩ : ∃ Y, Pl.pc (Pl.tab m d F) 0 0 = Y := ⟨_, rfl⟩
      rw [hZ] at hc hst hzb
      rw [hY] at hst hyb k5
      have h8 := k7 ((Y + Z) % m)
      rw [hst] at h8
      have hwr := HB.out.size
      have HO2 := Lib.hid ((h8.low hwr).more (show w3.heap.size ≤ (w3.drew.setCell ⟨b4, 0, none⟩ (.int .i64 ((Y + Z) % m))).heap.size by show w3.heap.size ≤ (w3.heap.modify _ _).size; simp))
      have HB2 := Lib.hid ((below_step HB.out hb3).drew.setCell (p := ⟨b4, 0, none⟩) (Nat.le_trans hwr h2) (.int .i64 ((Y + Z) % m)))
      have p2 : IntKind.i64.wrap (Y + Z) = Y + Z := by rw [IntKind.wrap_i64]; omega
      have p3 : 0 ≤ Y + Z := by omega
      have p4 : (0 : Int) < (d : Int) + 1 := by omega
      have p5 : (0 : Int) ≤ (i : Int) := by omega
      have p6 : (i : Int) < (L : Int) := by omega
      clear hiL
      clear hcel k4 k7 h8 hst hzb hyb hZ hY hbb' hci ho3 hb3 h1 h2 h3 h4 hwr
      go_wp2
      go_still_tail 12, (by kernel_rfl)
      change wpList _ _ _ _ _ w3.drew
      go_wp2
      go_roundw
      case rel => exact ⟨k + 1, i, _, _, cv, by have := HKT.out; omega, rfl, by first | rfl | go_num, rfl, HO2.out, HB2.out⟩
      case measure => simp only [intOf]; omega
end Go.Proofs.YtfhdgcndiljjcabGreat

/- Contracts of the model's look for faults, of IsLaw and LawFault. -/
namespace Go.Proofs.YtfhdgcndiljjcabGreat
open Go.RowKit Go.WideShapes Go.ChangeShapes Go.ChangeAt
theorem OwnI.lit0 (w : World) : OwnI (w.alloc (.cells #[] 2)) w.heap.size (.slice (some ⟨w.heap.size, 0, none⟩) 0 0) [] :=
  ⟨rfl, .inr ⟨w.heap.size, 0, #[], rfl, Nat.le_refl _, heap_alloc_new w _, Nat.le_refl _, Nat.zero_le _, rfl, rfl⟩⟩
theorem OwnT.lit0 (w : World) (pre : List Value) (e : TypeId) : OwnT pre e (w.alloc (.cells #[] e)) w.heap.size (.slice (some ⟨w.heap.size, 0, none⟩) 0 0) [] :=
  ⟨[], rfl, ⟨by simp, .inr ⟨w.heap.size, 0, #[], rfl, Nat.le_refl _, heap_alloc_new w _, Nat.le_refl _, Nat.zero_le _, by simp, by simp⟩⟩, fun i t ht => by simp at ht⟩
/-- the first n coefficients of a column -/
def colL (t : List (List Int)) (n j : Nat) : List Int := (List.range n).map fun i => Pl.pc t i j
theorem colL_length (t : List (List Int)) (n j : Nat) : (colL t n j).length = n := by simp [colL]
theorem colL_succ (t : List (List Int)) (n j : Nat) : colL t (n + 1) j = colL t n j ++ [Pl.pc t n j] := by simp [colL, List.range_succ]
theorem colL_co (t : List (List Int)) (n j i : Nat) (h : i < n) : Ser.co (colL t n j) i = Pl.pc t i j := by
  unfold Ser.co colL
  rw [List.getElem?_map, List.getElem?_range h]; rfl
theorem colL_red {m : Int} {d : Nat} {t : List (List Int)} (hs : Pl.Ok m d t) (n j : Nat) : Ser.Red m (colL t n j) := by
  intro i
  by_cases h : i < n
  · rw [colL_co _ _ _ _ h]; exact hs.pc i j
  · have : Ser.co (colL t n j) i = 0 := by
      unfold Ser.co
      rw [List.getElem?_eq_none (by rw [colL_length]; omega)]; rfl
    rw [this]
    have := hs.m1
    omega
set_option maxHeartbeats 4000000 in
set_option maxRecDepth 100000 in
theorem l04Column_any (m : Int) (d : Nat) (A : Option Addr) (c : Nat) (t : List (List Int)) (j : Nat) (w : World) (hs : Pl.Ok m d t) (hr : RP w A t) (hj : j ≤ d) :
    Calls Tryz.prog 120 #[.slice A t.length c, .int .i64 j] w fun e w' => ∃ v, e = .returned v ∧ OwnI w' w.heap.size v (colL t (d + 1 - j) j) ∧ Below w.heap.size w w' := by
  have HS := Lib.hid hs
  have HR := Lib.hid hr
  have hd2 := hs.d2
  obtain ⟨n, hn⟩ : ∃ n, d + 1 - j = n := ⟨_, rfl⟩
  rw [hn]
  have HN := Lib.hid hn
  have HNJ := Lib.hid (show n + j = d + 1 by omega)
  have hn1 : n ≤ 11 := by omega
  have hj1 : j ≤ 10 := by omega
  obtain ⟨L, hL⟩ : ∃ L, t.length = L := ⟨_, rfl⟩
  have HL := Lib.hid hL
  have HLn := Lib.hid (show L = n + j by have := hs.len; omega)
  rw [hL]
  have hb0 := below_one w (.cells #[] 2)
  have HO0 := Lib.hid (OwnI.lit0 w)
  have HB0 := Lib.hid hb0
  clear hs hr hn hL hb0
  go_enter Tryz.func120, Tryz.ntmps120
  go_wp2
  go_loopw [5, 6] (fun s5 s6 wr => ∃ k : Nat, k ≤ n ∧ s6 = .int .i64 k ∧ OwnI wr w.heap.size s5 (colL t k j) ∧ Below w.heap.size w wr) (fun _ s6 _ => n - (intOf s6).toNat)
  case atStart => exact ⟨0, Nat.zero_le _, rfl, HO0.out, HB0.out⟩
  case round =>
    clear HO0 HB0
    obtain ⟨k, hk, rfl, hown, hbel⟩ := hrel
    have HB := Lib.hid hbel
    have HO := Lib.hid hown
    have hsz := hbel.size
    by_cases hlt : k < n
    · obtain ⟨b, off, b', off', c', rfl, hb, h1, hb', h2⟩ := HR.out.num k j (by rw [HL.out, HLn.out]; omega) (by rw [HS.out.row k (by have := HNJ.out; omega)]; have := HNJ.out; omega)
      have h1 := (hbel.cell (p := ⟨b, off + k, none⟩) hb).trans h1
      have h2 := (hbel.cell (p := ⟨b', off' + j, none⟩) hb').trans h2
      rw [HS.out.row k (by have := HNJ.out; omega)] at h1
      have hst := colL_succ t k j
      have HLE := Lib.hid (show (colL t k j).length ≤ 1000000000000 by rw [colL_length]; omega)
      obtain ⟨X, hX⟩ : ∃ X, Pl.pc t k j = X := ⟨_, rfl⟩
      rw [hX] at h2 hst
      have HST := Lib.hid hst
      obtain ⟨M, hM⟩ : ∃ M, d - k + 1 = M := ⟨_, rfl⟩
      have j2 : (j : Int) < (M : Int) := by have := HNJ.out; omega
      rw [hM] at h1
      have j0 : (0 : Int) ≤ (k : Int) := by omega
      have j1 : (k : Int) < (L : Int) := by have := HLn.out; omega
      have j3 : (0 : Int) ≤ (j : Int) := by omega
      have j4 : (k : Int) + (j : Int) < (L : Int) := by have := HLn.out; omega
      have hL9 : L ≤ 30 := by have := HLn.out; omega
      clear hown hbel hX hst hM
      go_wp2_with (at_builtin; refine wp_push _ _ _ (by rfl) (by rfl) Tryz.underlying26 w.heap.size _ _ (by rfl) HO.out X (by rfl) HLE.out hsz ?_; intro v' w1 ho1 hpb)
      have HP := Lib.hid hpb
      have HQ := Lib.hid ho1
      clear hpb ho1
      go_wp2
      go_roundw
      case rel => exact ⟨k + 1, by omega, by go_num, by rw [HST.out]; exact HQ.out, HB.out.trans HP.out⟩
      case measure => simp only [intOf]; omega
    · obtain rfl : k = n := by omega
      have j4 : ¬ (k : Int) + (j : Int) < (L : Int) := by have := HLn.out; omega
      have hL9 : L ≤ 30 := by have := HLn.out; omega
      clear hown hbel
      go_wp2
      go_ret
      exact ⟨_, rfl, HO.out, HB.out⟩
/-! the lists of tables -/
def leftT (m : Int) (d : Nat) (t : List (List Int)) (z : Nat) : List (List Int) := Pl.horq m d (colL t (d + 1 - z) z) (Pl.pc t) (d + 1 - z)
def rightT (m : Int) (d : Nat) (t : List (List Int)) (z : Nat) : List (List Int) := Pl.horq m d (Pl.rw' t z) (Pl.pc t) (d + 1 - z)
def mapT (f : Nat → List (List Int)) (n : Nat) : List (List (List Int)) := (List.range n).map f
theorem mapT_length (f : Nat → List (List Int)) (n : Nat) : (mapT f n).length = n := by simp [mapT]
theorem mapT_succ (f : Nat → List (List Int)) (n : Nat) : mapT f (n + 1) = mapT f n ++ [f n] := by simp [mapT, List.range_succ]
theorem mapT_get (f : Nat → List (List Int)) (n i : Nat) (h : i < n) : (mapT f n)[i]?.getD [] = f i := by
  unfold mapT
  rw [List.getElem?_map, List.getElem?_range h]; rfl
theorem left_br {m : Int} {d : Nat} (t : List (List Int)) (a b z : Nat) (hab : a + b ≤ d) : Pl.pc (leftT m d t z) a b = Pl.br m d (Pl.pc t) a b z := by
  have h := Pl.horq_br (m := m) (d := d) (colL t (d + 1 - z) z) (Pl.pc t) z (by rw [colL_length]) (fun i hi => colL_co _ _ _ _ (by rw [colL_length] at hi; exact hi)) a b hab
  rw [colL_length] at h
  exact h
theorem right_br {m : Int} {d : Nat} {t : List (List Int)} (hs : Pl.Ok m d t) (hy : Pl.Sym d (Pl.pc t)) (a b z : Nat) (hz : z ≤ d) (hab : a + b ≤ d) : Pl.pc (rightT m d t z) b a = Pl.br m d (Pl.pc t) a b z := by
  have hl : (Pl.rw' t z).length = d + 1 - z := by rw [hs.row z hz]; omega
  have h := Pl.horq_br' (m := m) (d := d) (Pl.rw' t z) hy z hl (fun i _ => rfl) a b hab
  rw [hl] at h
  exact h
theorem leftT_ok {m : Int} {d : Nat} {t : List (List Int)} (hs : Pl.Ok m d t) (z : Nat) : Pl.Ok m d (leftT m d t z) := Pl.horq_ok hs.m1 hs.m2 hs.d1 hs.d2 _ _ _
theorem rightT_ok {m : Int} {d : Nat} {t : List (List Int)} (hs : Pl.Ok m d t) (z : Nat) : Pl.Ok m d (rightT m d t z) := Pl.horq_ok hs.m1 hs.m2 hs.d1 hs.d2 _ _ _
theorem infoTab : (Tryz.prog.info? 22).map (fun i => (i.zero, i.size, i.bytes)) = some (some (.slice none 0 0), 1, 24) := by kernel_rfl
theorem tb_ne1 : (22 : TypeId) ≠ 2 := by decide
theorem tb_ne2 : (22 : TypeId) ≠ 26 := by decide
theorem OwnT.tabl {w : World} {lo : Nat} {v : Value} {ts : List (List (List Int))} (h : OwnT [] 22 w lo v ts) (i : Nat) (hi : i < ts.length) :
    ∃ g c A' c', v = .slice (some ⟨g, 0, none⟩) ts.length c ∧ g < w.heap.size ∧ w.cell? ⟨g, i, none⟩ = some (.slice A' (ts[i]?.getD []).length c') ∧ RP w A' (ts[i]?.getD []) := by
  obtain ⟨g, c, A', c', h1, h2, h3, h4, h5, h6⟩ := h.at i hi
  have e : i * (([] : List Value).length + 1) + ([] : List Value).length = i := by simp
  rw [e] at h4
  exact ⟨g, c, A', c', h1, h2, h4, h5⟩
theorem bx_in {W w' : World} {g : Nat} {m : Int} {A : Option Addr} {n c : Nat} (h : Box W g m A n c) (hb : Below W.heap.size W w') :
    (w'.cell? ⟨g, 0, none⟩ = some (.int .i64 m) ∧ w'.cell? ⟨g, 1, none⟩ = some (.slice A n c) ∧ g < w'.heap.size) ∧ Below W.heap.size W w' := ⟨h.keep hb, hb⟩
theorem bxc_in {W w' : World} {g b o : Nat} {m : Int} {A : Option Addr} {n c : Nat} {x : Value} (h : Box W g m A n c) (hc : W.cell? ⟨b, o, none⟩ = some x) (hlt : b < W.heap.size) (hb : Below W.heap.size W w') :
    (w'.cell? ⟨g, 0, none⟩ = some (.int .i64 m) ∧ w'.cell? ⟨g, 1, none⟩ = some (.slice A n c) ∧ g < w'.heap.size) ∧ w'.cell? ⟨b, o, none⟩ = some x ∧ Below W.heap.size W w' := ⟨h.keep hb, (hb.cell (p := ⟨b, o, none⟩) hlt).trans hc, hb⟩
theorem tri_num {w : World} {lo : Nat} {m : Int} {d : Nat} {t : List (List Int)} {A9 A10 : Option Addr} {n c9 c10 : Nat} (hs : Pl.Ok m d t) (hy : Pl.Sym d (Pl.pc t)) (h1 : OwnT [] 22 w lo (.slice A9 n c9) (mapT (leftT m d t) n)) (h2 : OwnT [] 22 w lo (.slice A10 n c10) (mapT (rightT m d t) n)) (hn : n = d + 1)
    (a b e : Nat) (W0 : World) (hab : a + b + e ≤ d) (h : Below w.heap.size w W0) :
    (∃ g A' c' b4 o4 b5 o5 c5, A9 = some ⟨g, 0, none⟩ ∧ W0.cell? ⟨g, e, none⟩ = some (.slice A' (d + 1) c') ∧ A' = some ⟨b4, o4, none⟩ ∧ W0.cell? ⟨b4, o4 + a, none⟩ = some (.slice (some ⟨b5, o5, none⟩) (d - a + 1) c5) ∧ W0.cell? ⟨b5, o5 + b, none⟩ = some (.int .i64 (Pl.br m d (Pl.pc t) a b e))) ∧
    (∃ g A' c' b4 o4 b5 o5 c5, A10 = some ⟨g, 0, none⟩ ∧ W0.cell? ⟨g, a, none⟩ = some (.slice A' (d + 1) c') ∧ A' = some ⟨b4, o4, none⟩ ∧ W0.cell? ⟨b4, o4 + b, none⟩ = some (.slice (some ⟨b5, o5, none⟩) (d - b + 1) c5) ∧ W0.cell? ⟨b5, o5 + e, none⟩ = some (.int .i64 (Pl.br m d (Pl.pc t) e b a))) := by
  refine ⟨?_, ?_⟩
  · obtain ⟨g, c, A', c', e0, k0, k1, k2⟩ := (h1.keep h).tabl e (by rw [mapT_length]; omega)
    rw [mapT_get _ _ _ (by omega)] at k1 k2
    have ok := leftT_ok hs e
    obtain ⟨b4, o4, b5, o5, c5, e4, -, k5, -, k6⟩ := k2.num a b (by rw [ok.len]; omega) (by rw [ok.row a (by omega)]; omega)
    rw [ok.len] at k1
    rw [ok.row a (by omega)] at k5
    rw [left_br t a b e (by omega)] at k6
    injection e0 with e0
    exact ⟨g, A', c', b4, o4, b5, o5, c5, e0, k1, e4, k5, k6⟩
  · obtain ⟨g, c, A', c', e0, k0, k1, k2⟩ := (h2.keep h).tabl a (by rw [mapT_length]; omega)
    rw [mapT_get _ _ _ (by omega)] at k1 k2
    have ok := rightT_ok hs a
    obtain ⟨b4, o4, b5, o5, c5, e4, -, k5, -, k6⟩ := k2.num b e (by rw [ok.len]; omega) (by rw [ok.row b (by omega)]; omega)
    rw [ok.len] at k1
    rw [ok.row b (by omega)] at k5
    rw [right_br hs hy e b a (by omega) (by omega)] at k6
    injection e0 with e0
    exact ⟨g, A', c', b4, o4, b5, o5, c5, e0, k1, e4, k5, k6⟩
theorem ne_turn {a b : Option Nat} (h : a = none ∨ a ≠ b) : b = none ∨ b ≠ a := by
  rcases h with h | h
  · subst h
    cases b with
    | none => exact .inl rfl
    | some x => exact .inr (fun e => by cases e)
  · exact .inr (Ne.symm h)
theorem no_pre : ∀ y, y ∈ ([] : List Value) → y.oneCell' = true := fun y hy => by simp at hy
theorem bxs_call {W w w' : World} {g : Nat} {x y : Value} (hb : Below w.heap.size w w') (h : (w.cell? ⟨g, 0, none⟩ = some x ∧ w.cell? ⟨g, 1, none⟩ = some y ∧ g < w.heap.size) ∧ Below W.heap.size W w) :
    (w'.cell? ⟨g, 0, none⟩ = some x ∧ w'.cell? ⟨g, 1, none⟩ = some y ∧ g < w'.heap.size) ∧ Below W.heap.size W w' :=
  ⟨⟨(hb.cell (p := ⟨g, 0, none⟩) h.1.2.2).trans h.1.1, (hb.cell (p := ⟨g, 1, none⟩) h.1.2.2).trans h.1.2.1, Nat.lt_of_lt_of_le h.1.2.2 hb.size⟩, below_step h.2 hb⟩
theorem bxs_push {W w w' : World} {g : Nat} {x y : Value} (hg : g < W.heap.size) (hb : Below W.heap.size w w') (h : (w.cell? ⟨g, 0, none⟩ = some x ∧ w.cell? ⟨g, 1, none⟩ = some y ∧ g < w.heap.size) ∧ Below W.heap.size W w) :
    (w'.cell? ⟨g, 0, none⟩ = some x ∧ w'.cell? ⟨g, 1, none⟩ = some y ∧ g < w'.heap.size) ∧ Below W.heap.size W w' :=
  ⟨⟨(hb.cell (p := ⟨g, 0, none⟩) hg).trans h.1.1, (hb.cell (p := ⟨g, 1, none⟩) hg).trans h.1.2.1, Nat.lt_of_lt_of_le h.1.2.2 hb.size⟩, h.2.trans hb⟩
theorem thr3 {p q r : Prop} (h : p ∧ q ∧ r) : r := h.2.2
theorem rp_num_in {W : World} {b off : Nat} {m : Int} {d : Nat} {t : List (List Int)} (hr : RP W (some ⟨b, off, none⟩) t) (hs : Pl.Ok m d t) (i j : Nat) (W0 : World) (hij : i + j ≤ d) (h : Below W.heap.size W W0) :
    ∃ b' off' c' N, N = d - i + 1 ∧ W0.cell? ⟨b, off + i, none⟩ = some (.slice (some ⟨b', off', none⟩) N c') ∧ W0.cell? ⟨b', off' + j, none⟩ = some (.int .i64 (Pl.pc t i j)) := by
  obtain ⟨b0, off0, b', off', c', e, hb, k1, hb', k2⟩ := hr.num i j (by rw [hs.len]; omega) (by rw [hs.row i (by omega)]; omega)
  injection e with e
  injection e with e1 e2
  subst e1 e2
  exact ⟨b', off', c', _, hs.row i (by omega), (h.cell (p := ⟨b, off + i, none⟩) hb).trans k1, (h.cell (p := ⟨b', off' + j, none⟩) hb').trans k2⟩
set_option maxHeartbeats 16000000 in
set_option maxRecDepth 100000 in
theorem l04Fault_any (m : Int) (d : Nat) (A : Option Addr) (c : Nat) (t : List (List Int)) (w : World) (hs : Pl.Ok m d t) (hr : RP w A t) :
    Calls Tryz.prog 80 #[.agg #[.int .i64 m, .slice A t.length c]] w fun e w' => ∃ v, e = .returned v ∧ OwnI w' w.heap.size v ((Pl.fau m d (Pl.pc t)).getD []) ∧ Below w.heap.size w w' := by
  obtain ⟨b, off, rfl⟩ := hr.some (by rw [hs.len]; omega)
  obtain ⟨W, hW, b1, hwb⟩ := start1 29 w m (some ⟨b, off, none⟩) t.length c
  have B1 := Lib.hid b1
  have HB := Lib.hid hwb
  have HW := Lib.hid hW
  have HS := Lib.hid hs
  have hd2 := hs.d2
  have hrW := hr.below hwb
  have HR := Lib.hid hrW
  have hnum := rp_num_in hrW hs
  have HNUM := Lib.hid hnum
  have hc := fun (j : Nat) (W0 : World) (hj : j ≤ d) (h : Below W.heap.size W W0) => l04Column_any m d (some ⟨b, off, none⟩) c t j W0 hs (hrW.below h) hj
  have ha := fun (A0 : Option Addr) (c0 : Nat) (l : List Int) (W0 : World) (hn : l.length ≤ d + 1) (hred : Ser.Red m l) (h : RI W0 A0 l) (h' : Below W.heap.size W W0) => l03AfterQ_any m d A0 c0 l (some ⟨b, off, none⟩) c t W0 hn hred hs h (hrW.below h')
  have hrows := fun (k : Nat) (hk : k ≤ d) => hrW.at k (by rw [hs.len]; omega)
  obtain ⟨o, ho⟩ : ∃ o, Pl.fau m d (Pl.pc t) = o := ⟨_, rfl⟩
  rw [ho]
  obtain ⟨oP, hoP⟩ : ∃ o, Pl.fauP d (Pl.pc t) = o := ⟨_, rfl⟩
  obtain ⟨oS, hoS⟩ : ∃ o, Pl.fauS d (Pl.pc t) = o := ⟨_, rfl⟩
  obtain ⟨oT, hoT⟩ : ∃ o, Pl.fauT m d (Pl.pc t) = o := ⟨_, rfl⟩
  have HO : Hid (o = Pl.orE oP (Pl.orE oS oT)) := Lib.hid (by rw [← ho, ← hoP, ← hoS, ← hoT]; rfl)
  have HOP := Lib.hid (show Pl.srch (Pl.fau0 (Pl.pc t)) (d + 1 - 0) 0 = oP from hoP)
  have HOS := Lib.hid (show Pl.srch (Pl.fau1 d (Pl.pc t)) (d + 1 - 0) 0 = oS from hoS)
  have HOT := Lib.hid (show Pl.srch (Pl.fau2 m d (Pl.pc t)) (d + 1 - 0) 0 = oT from hoT)
  have HSY := Lib.hid (fun (h : oS = none) => Pl.fauS_none (hoS.trans h))
  obtain ⟨L, hL⟩ : ∃ L, t.length = L := ⟨_, rfl⟩
  rw [hL] at ha hc B1 HW ⊢
  have HC := Lib.hid hc
  have HA := Lib.hid ha
  have HROWS := Lib.hid hrows
  have HLd := Lib.hid (hL.symm.trans hs.len)
  have hLb : L ≤ 11 := by have := HLd.out; omega
  obtain ⟨x1, x2, x3⟩ := B1.out
  clear b1 hwb hW hr hs hrW hnum hc ha hrows ho hoP hoS hoT hL
  go_enter Tryz.func80, Tryz.ntmps80
  go_wp2
  rw [HW.out]
  go_quiet (fail)
  go_wp2
  clear x1 x2 x3
  go_loopw [5, 6] (fun s5 _ wr => ∃ k : Nat, k ≤ L ∧ s5 = .int .i64 k ∧ Pl.srch (Pl.fau0 (Pl.pc t)) (d + 1 - k) k = oP ∧ Below W.heap.size W wr) (fun s5 _ _ => L - (intOf s5).toNat)
  case atStart => exact ⟨0, Nat.zero_le _, rfl, HOP.out, below_drewN (Below.refl _ _) _⟩
  case round =>
    clear HOP
    obtain ⟨k, hk, rfl, hso, hbel⟩ := hrel
    have HBE := Lib.hid hbel
    have hLd := HLd.out
    by_cases hlt : k < L
    · obtain ⟨b', off', c', N, hN, h1, h2⟩ := HNUM.out k 0 wr (by omega) hbel
      rw [Nat.add_zero] at h2
      have hgo := fun h => Pl.fau0_go (F := Pl.pc t) (d := d) (k := k) (by omega) hso h
      have hno := fun h => Pl.fau0_no (F := Pl.pc t) (d := d) (k := k) (by omega) hso h
      obtain ⟨X, hX⟩ : ∃ X, Pl.pc t k 0 = X := ⟨_, rfl⟩
      rw [hX] at h2 hgo hno
      have j0 : (0 : Int) ≤ (k : Int) := by omega
      have j1 : (k : Int) < (L : Int) := by omega
      have j2 : (0 : Int) < (N : Int) := by omega
      have j3 : (0 : Nat) < N := by omega
      clear hbel hso hX hN hLd
      by_cases hk1 : k = 1
      · have e1 : ((k : Int) == 1) = true := by simp [hk1]
        rw [show Pl.want k = 1 by rw [hk1]; rfl] at hgo hno
        clear hk1
        by_cases hx1 : X = 1
        · have HNX := Lib.hid (hgo hx1)
          clear hgo hno
          subst hx1
          go_wp2
          go_roundw
          case rel => exact ⟨k + 1, by omega, by go_num, HNX.out, HBE.out⟩
          case measure => simp only [intOf]; omega
        · have HNX := Lib.hid (hno hx1)
          obtain ⟨n3, n4⟩ : (X == 1) = false ∧ (X != 1) = true := ⟨by simpa using hx1, by simpa using hx1⟩
          clear hgo hno
          go_wp2
          go_ret
          exact ⟨_, rfl, by rw [HO.out, HNX.out]; exact (OwnI.lit2 wr 0 (k : Int)).more (below_step HB.out HBE.out).size, below_step HB.out (below_alloc _ HBE.out)⟩
      · have hk9 : ¬ (k : Int) = 1 := by omega
        obtain ⟨e1, e2⟩ : ((k : Int) == 1) = false ∧ ((k : Int) != 1) = true := ⟨by simpa using hk9, by simpa using hk9⟩
        rw [show Pl.want k = 0 by unfold Pl.want; rw [if_neg hk1]] at hgo hno
        by_cases hx1 : X = 0
        · have HNX := Lib.hid (hgo hx1)
          clear hgo hno
          subst hx1
          go_wp2
          go_roundw
          case rel => exact ⟨k + 1, by omega, by go_num, HNX.out, HBE.out⟩
          case measure => simp only [intOf]; omega
        · have HNX := Lib.hid (hno hx1)
          obtain ⟨n3, n4⟩ : (X == 0) = false ∧ (X != 0) = true := ⟨by simpa using hx1, by simpa using hx1⟩
          clear hgo hno
          go_wp2
          go_ret
          exact ⟨_, rfl, by rw [HO.out, HNX.out]; exact (OwnI.lit2 wr 0 (k : Int)).more (below_step HB.out HBE.out).size, below_step HB.out (below_alloc _ HBE.out)⟩
    · obtain rfl : k = L := by omega
      rw [hLd, Nat.sub_self] at hso
      have HP0 := Lib.hid (show oP = none from hso.symm)
      clear hbel hso hLd
      go_wp2
      go_loopw [7, 8] (fun s7 _ wr => ∃ i : Nat, i ≤ d + 1 ∧ s7 = .int .i64 i ∧ Pl.srch (Pl.fau1 d (Pl.pc t)) (d + 1 - i) i = oS ∧ Below W.heap.size W wr) (fun s7 _ _ => d + 1 - (intOf s7).toNat)
      case atStart => exact ⟨0, Nat.zero_le _, rfl, HOS.out, HBE.out⟩
      case round =>
        clear HOS HBE
        obtain ⟨i, hi, rfl, hso, hbel⟩ := hrel
        have HBE := Lib.hid hbel
        have hLd := HLd.out
        by_cases hlt : i < d + 1
        · have HIN := Lib.hid (Pl.fau1_in hlt hso)
          have j1 : (i : Int) < (k : Int) := by omega
          have j0 : (0 : Int) ≤ (i : Int) := by omega
          have hi10 : i ≤ 10 := by omega
          obtain ⟨r, hr⟩ : ∃ r, Pl.srch (Pl.fau1 d (Pl.pc t)) (d + 1 - (i + 1)) (i + 1) = r := ⟨_, rfl⟩
          rw [hr] at HIN
          have HRR := Lib.hid hr
          clear hso hr hbel hLd
          go_wp2
          go_loopw [8] (fun s8 wr => ∃ j : Nat, j ≤ d + 2 ∧ s8 = .int .i64 j ∧ Pl.orE (Pl.srch (Pl.fau1j (Pl.pc t) i) (d + 1 - i - j) j) r = oS ∧ Below W.heap.size W wr) (fun s8 _ => d + 3 - (intOf s8).toNat)
          case atStart => exact ⟨i + 1, by omega, by first | rfl | go_num, HIN.out, HBE.out⟩
          case round =>
            clear HIN HBE
            obtain ⟨j, hj, rfl, hso, hbel⟩ := hrel
            have HBE := Lib.hid hbel
            have hLd := HLd.out
            by_cases hjN : i + j < d + 1
            · obtain ⟨b', off', c', N, hN, h1, h2⟩ := HNUM.out i j wr (by omega) hbel
              obtain ⟨b2, off2, c2, N2, hN2, h3, h4⟩ := HNUM.out j i wr (by omega) hbel
              have hgo := Pl.fau1_go (F := Pl.pc t) (d := d) (i := i) (j := j) (by omega) hso
              have hno := Pl.fau1_no (F := Pl.pc t) (d := d) (i := i) (j := j) (by omega) hso
              obtain ⟨X, hX⟩ : ∃ X, Pl.pc t i j = X := ⟨_, rfl⟩
              obtain ⟨Y, hY⟩ : ∃ Y, Pl.pc t j i = Y := ⟨_, rfl⟩
              rw [hX, hY] at hgo hno
              rw [hX] at h2
              rw [hY] at h4
              have j2 : (0 : Int) ≤ (j : Int) := by omega
              have j3 : (j : Int) < (N : Int) := by omega
              have j4 : (j : Int) < (k : Int) := by omega
              have j5 : (i : Int) < (N2 : Int) := by omega
              have j6 : (i : Int) + (j : Int) < (k : Int) := by omega
              clear hso hX hY hN hN2 hLd hbel
              by_cases hxy : X = Y
              · have HNX := Lib.hid (hgo hxy)
                subst hxy
                clear hgo hno
                go_wp2
                go_quiet (fail)
                go_wp2
                go_roundw
                case rel => exact ⟨j + 1, by omega, by go_num, HNX.out, below_drewN HBE.out _⟩
                case measure => simp only [intOf]; omega
              · have HNX := Lib.hid (hno hxy)
                obtain ⟨n1, n2⟩ : (X == Y) = false ∧ (X != Y) = true := ⟨by simpa using hxy, by simpa using hxy⟩
                clear hgo hno
                go_wp2
                go_quiet (fail)
                go_wp2
                go_ret
                exact ⟨_, rfl, by rw [HO.out, HP0.out, HNX.out]; exact (OwnI.lit3 _ 1 (i : Int) (j : Int)).more (by first | exact (below_step HB.out HBE.out).size | exact (below_drewN (below_step HB.out HBE.out) _).size), below_step HB.out (below_alloc _ (by first | exact HBE.out | exact below_drewN HBE.out _))⟩
            · have HNX := Lib.hid (HRR.out.trans (Pl.fau1_out hjN hso))
              have j6 : ¬ (i : Int) + (j : Int) < (k : Int) := by omega
              clear hso hbel hLd
              go_wp2
              go_roundw
              case rel => exact ⟨i + 1, by omega, by go_num, HNX.out, HBE.out⟩
              case measure => simp only [intOf]; omega
        · obtain rfl : i = d + 1 := by omega
          rw [Nat.sub_self] at hso
          have HS0 := Lib.hid (show oS = none from hso.symm)
          have HSYM := Lib.hid (HSY.out hso.symm)
          have j1 : ¬ (((d + 1 : Nat) : Int)) < (k : Int) := by omega
          clear hso hbel hLd HNUM HSY
          go_wp2
          have HL0 := Lib.hid (OwnT.lit0 wr [] 22)
          have HL1 := Lib.hid (OwnT.lit0 (wr.alloc (.cells #[] 22)) [] 22)
          have HZ := Lib.hid (HBE.out.size)
          go_loopw [9, 10, 11] (fun s9 s10 s11 wx => ∃ z : Nat, z ≤ k ∧ s11 = .int .i64 z ∧ OwnT [] 22 wx W.heap.size s9 (mapT (leftT m d t) z) ∧ OwnT [] 22 wx W.heap.size s10 (mapT (rightT m d t) z) ∧ (s10.ownBlock = none ∨ s10.ownBlock ≠ s9.ownBlock) ∧ Below W.heap.size W wx) (fun _ _ s11 _ => k - (intOf s11).toNat)
          case atStart => exact ⟨0, Nat.zero_le _, rfl, (HL0.out.keep (below_one _ _)).more HZ.out, by have := HL1.out.more (Nat.le_trans HZ.out (below_one wr (.cells #[] 22)).size); simpa [mapT] using this, .inr (by simp [Value.ownBlock]), below_alloc _ (below_alloc _ HBE.out)⟩
          case round =>
            clear HL0 HL1 HZ HBE
            obtain ⟨z, hz, rfl, ho1, ho2, hne, hbel⟩ := hrel
            obtain ⟨A9, c9, rfl⟩ := ho1.form
            obtain ⟨A10, c10, rfl⟩ := ho2.form
            have HNE := Lib.hid hne
            clear hne
            have HBE := Lib.hid hbel
            have HO1 := Lib.hid ho1
            have HO2 := Lib.hid ho2
            have hLd := HLd.out
            by_cases hlt : z < k
            · have HWL := Lib.hid (show w.heap.size < W.heap.size from B1.out.2.2)
              have X0 := Lib.hid (bx_in B1.out (hbel.trans ((below_drew0 wr).mono hbel.size)))
              have HCZ := Lib.hid (fun W0 (h : Below W.heap.size W W0) => HC.out z W0 (by omega) h)
              have HAZ : Hid (∀ (A0 : Option Addr) (c0 : Nat) (W0 : World), RI W0 A0 (colL t (d + 1 - z) z) → Below W.heap.size W W0 → Calls Tryz.prog 100 #[.int .i64 m, .slice A0 (d + 1 - z) c0, .slice (some ⟨b, off, none⟩) k c] W0 fun e w' => ∃ v, e = .returned v ∧ OwnR w' W0.heap.size w'.heap.size v (leftT m d t z) ∧ Below W0.heap.size W0 w') := Lib.hid (fun A0 c0 W0 h h' => by
                have := HA.out A0 c0 (colL t (d + 1 - z) z) W0 (by rw [colL_length]; omega) (colL_red HS.out _ _) h h'
                rw [colL_length] at this
                exact this)
              obtain ⟨b0, off0, Az, cz, e0, hb0, hr1, -, hr3⟩ := HROWS.out z (by omega)
              have HAR : Hid (∀ (W0 : World), Below W.heap.size W W0 → Calls Tryz.prog 100 #[.int .i64 m, .slice Az (d + 1 - z) cz, .slice (some ⟨b, off, none⟩) k c] W0 fun e w' => ∃ v, e = .returned v ∧ OwnR w' W0.heap.size w'.heap.size v (rightT m d t z) ∧ Below W0.heap.size W0 w') := Lib.hid (fun W0 h' => by
                have hl : (Pl.rw' t z).length = d + 1 - z := by rw [HS.out.row z (by omega)]; omega
                have := HA.out Az cz (Pl.rw' t z) W0 (by rw [hl]; omega) (HS.out.red z) (hr3.below h') h'
                rw [hl] at this
                exact this)
              rw [HS.out.row z (by omega), show d - z + 1 = d + 1 - z by omega] at hr1
              injection e0 with e0
              injection e0 with e1 e2
              subst e1 e2
              have hcl := colL_length t (d + 1 - z) z
              have hs1 := mapT_succ (leftT m d t) z
              have hs2 := mapT_succ (rightT m d t) z
              have HLE1 := Lib.hid (show (mapT (leftT m d t) z).length ≤ 1000000 by rw [mapT_length]; omega)
              have HLE2 := Lib.hid (show (mapT (rightT m d t) z).length ≤ 1000000 by rw [mapT_length]; omega)
              obtain ⟨C, hC⟩ : ∃ C, colL t (d + 1 - z) z = C := ⟨_, rfl⟩
              rw [hC] at HCZ HAZ hcl
              have HCL := Lib.hid hcl
              obtain ⟨RL, hRL⟩ : ∃ R, leftT m d t z = R := ⟨_, rfl⟩
              obtain ⟨RR, hRR⟩ : ∃ R, rightT m d t z = R := ⟨_, rfl⟩
              have HRL : Hid (RL.length = d + 1) := Lib.hid (by rw [← hRL]; exact (leftT_ok HS.out z).len)
              have HRR : Hid (RR.length = d + 1) := Lib.hid (by rw [← hRR]; exact (rightT_ok HS.out z).len)
              rw [hRL] at HAZ hs1
              rw [hRR] at HAR hs2
              obtain ⟨n, hn⟩ : ∃ n, d + 1 - z = n := ⟨_, rfl⟩
              rw [hn] at HAZ HAR HCL hr1
              have HS1 := Lib.hid hs1
              have HS2 := Lib.hid hs2
              have j2 : (z : Int) < (k : Int) := by omega
              have j3 : (0 : Int) ≤ (z : Int) := by omega
              have HZ := Lib.hid hbel.size
              obtain ⟨P1, hP1⟩ : ∃ P, mapT (leftT m d t) z = P := ⟨_, rfl⟩
              obtain ⟨P2, hP2⟩ : ∃ P, mapT (rightT m d t) z = P := ⟨_, rfl⟩
              rw [hP1] at HO1 HS1 HLE1 HNE ⊢
              rw [hP2] at HO2 HS2 HLE2 HNE ⊢
              have HB0 := Lib.hid hb0
              have HR1 := Lib.hid hr1
              clear ho1 ho2 hbel hC hRL hRR hs1 hs2 hcl hn hP1 hP2 hr1 hr3 hb0 hLd
              go_wp2
              go_region_held3 (fun w' => (w'.cell? ⟨w.heap.size, 0, none⟩ = some (.int .i64 m) ∧ w'.cell? ⟨w.heap.size, 1, none⟩ = some (.slice (some ⟨b, off, none⟩) k c) ∧ w.heap.size < w'.heap.size) ∧ Below W.heap.size W w') (first | exact X0.out | exact bxs_push HWL.out hpb (by assumption) | exact bxs_call hb3 (by assumption) | exact bxs_call hb2 (by assumption) | exact bxs_call (below_one _ _) (by assumption)) (first
                | (go_at_call 120; with_reducible refine Calls.mono (HCZ.out _ (snd2 (by assumption))) ?_; rintro e w2 ⟨v2, rfl, oc, hb2⟩; obtain ⟨Ac, cc, rfl, -⟩ := oc.form; have rc := oc.ri; rw [HCL.out])
                | (go_at_call 100; with_reducible refine Calls.mono (HAZ.out _ _ _ rc (snd2 (by assumption))) ?_; rintro e w3 ⟨v3, rfl, oa, hb3⟩; obtain ⟨A3, c3, rfl, -⟩ := oa.len; rw [HRL.out] at oa ⊢)
                | (refine step_pushD (pre := []) (e := 22) _ _ _ (by rfl) (by rfl) Tryz.underlying114 tb_ne1 tb_ne2 (.slice none 0 0) 24 infoTab rfl (by decide) no_pre W.heap.size w3.heap.size _ P1 (by rfl) ((HO1.out.keep (below_step (below_step (below_drew0 wr) hb2) hb3)).keep (below_one _ _)) (.slice A3 (d + 1) c3) RL ((oa.low (Nat.le_trans HZ.out (below_step (below_drew0 wr) hb2).size)).keep (below_one _ _)) (by simp) w3.heap.size (by rfl) (laid w3 [.slice A3 (d + 1) c3] _) HLE1.out (Nat.le_trans HZ.out (below_step (below_step (below_step (below_drew0 wr) hb2) hb3) (below_one _ _)).size) ?_; intro v' w4 ho4 hpb hoth))
              all_goals
                have hq := hoth _ _ ((HO2.out.keep (below_step (below_step (below_drew0 wr) hb2) hb3)).keep (below_one _ _)) HNE.out
                have HB4 := Lib.hid (show Below W.heap.size W w4 from snd2 (by assumption))
                have HO4 := Lib.hid ho4
                have HQ2 := Lib.hid hq.1
                have HNE2 := Lib.hid hq.2
                have Y0 := Lib.hid (bxc_in B1.out HR1.out HB0.out (HB4.out.trans ((below_drew0 w4).mono HB4.out.size)))
                have HZ4 := Lib.hid HB4.out.size
                clear hq hoth ho4 hpb oa oc rc hb2 hb3
                go_wp2
                go_region_held3 (fun w' => (w'.cell? ⟨w.heap.size, 0, none⟩ = some (.int .i64 m) ∧ w'.cell? ⟨w.heap.size, 1, none⟩ = some (.slice (some ⟨b, off, none⟩) k c) ∧ w.heap.size < w'.heap.size) ∧ w'.cell? ⟨b, off + z, none⟩ = some (.slice Az n cz) ∧ Below W.heap.size W w') (first | exact Y0.out | exact bxc_in B1.out HR1.out HB0.out (Below.trans (show Below W.heap.size W _ from thr3 (by assumption)) hpb5) | exact bxc_in B1.out HR1.out HB0.out (below_step (thr3 (by assumption)) hb5) | exact bxc_in B1.out HR1.out HB0.out (below_step (thr3 (by assumption)) (below_one _ _))) (first
                  | (go_at_call 100; with_reducible refine Calls.mono (HAR.out _ (thr3 (by assumption))) ?_; rintro e w5 ⟨v5, rfl, oa5, hb5⟩; obtain ⟨A5, c5, rfl, -⟩ := oa5.len; rw [HRR.out] at oa5 ⊢)
                  | (refine step_pushD (pre := []) (e := 22) _ _ _ (by rfl) (by rfl) Tryz.underlying114 tb_ne1 tb_ne2 (.slice none 0 0) 24 infoTab rfl (by decide) no_pre W.heap.size w5.heap.size _ P2 (by rfl) ((HQ2.out.keep (below_step (below_drew0 w4) hb5)).keep (below_one _ _)) (.slice A5 (d + 1) c5) RR ((oa5.low (Nat.le_trans HZ4.out (below_drew0 w4).size)).keep (below_one _ _)) (by simp) w5.heap.size (by rfl) (laid w5 [.slice A5 (d + 1) c5] _) HLE2.out (Nat.le_trans HZ4.out (below_step (below_step (below_drew0 w4) hb5) (below_one _ _)).size) ?_; intro v6 w6 ho6 hpb5 hoth5))
                all_goals
                  have hq := hoth5 _ _ ((HO4.out.keep (below_step (below_drew0 w4) hb5)).keep (below_one _ _)) (ne_turn HNE2.out)
                  have HB6 := Lib.hid (show Below W.heap.size W w6 from thr3 (by assumption))
                  have HO6 := Lib.hid ho6
                  have HQ3 := Lib.hid hq.1
                  have HNE3 := Lib.hid hq.2
                  clear hq hoth5 ho6 hpb5 oa5 hb5
                  go_wp2
                  go_roundw
                  case rel => exact ⟨z + 1, by omega, by go_num, by rw [HS1.out]; exact HQ3.out, by rw [HS2.out]; exact HO6.out, ne_turn HNE3.out, HB6.out⟩
                  case measure => simp only [intOf]; omega
            · obtain rfl : z = k := by omega
              have j4 : ¬ (z : Int) < (z : Int) := by omega
              clear ho1 ho2 hbel HNE
              rw [mapT_length] at HO1 HO2
              rw [mapT_length, mapT_length]
              obtain ⟨w0, hw0⟩ : ∃ w9, w9 = wr := ⟨_, rfl⟩
              subst hw0
              have HNM := Lib.hid (fun (a b e : Nat) (W0 : World) (hab : a + b + e ≤ d) (h : Below w0.heap.size w0 W0) => tri_num HS.out HSYM.out HO1.out HO2.out (by omega) a b e W0 hab h)
              clear HO1 HO2
              obtain ⟨n, hn⟩ : ∃ n, z = n := ⟨_, rfl⟩
              rw [hn] at hLd hLb ⊢
              have HND := Lib.hid hLd
              clear hn hz hLd
              go_wp2
              go_loopw [12, 13, 14] (fun s12 _ _ wx => ∃ a : Nat, a ≤ d + 1 ∧ s12 = .int .i64 a ∧ Pl.srch (Pl.fau2 m d (Pl.pc t)) (d + 1 - a) a = oT ∧ Below w0.heap.size w0 wx) (fun s12 _ _ _ => d + 1 - (intOf s12).toNat)
              case atStart => exact ⟨0, Nat.zero_le _, rfl, HOT.out, Below.refl _ _⟩
              case round =>
                clear HOT
                obtain ⟨a, ha, rfl, hso, hbel⟩ := hrel
                have HX := Lib.hid hbel
                have hLd := HND.out
                by_cases hlt : a < d + 1
                · have HIN := Lib.hid (Pl.fau2_in hlt hso)
                  have j1 : (a : Int) < (n : Int) := by omega
                  have j0 : (0 : Int) ≤ (a : Int) := by omega
                  have ha10 : a ≤ 10 := by omega
                  obtain ⟨r, hr⟩ : ∃ r, Pl.srch (Pl.fau2 m d (Pl.pc t)) (d + 1 - (a + 1)) (a + 1) = r := ⟨_, rfl⟩
                  rw [hr] at HIN
                  have HRR := Lib.hid hr
                  clear hso hr hbel hLd
                  go_wp2
                  go_loopw [13, 14] (fun s13 _ wx => ∃ b : Nat, a + b ≤ d + 1 ∧ s13 = .int .i64 b ∧ Pl.orE (Pl.srch (Pl.fau2b m d (Pl.pc t) a) (d + 1 - a - b) b) r = oT ∧ Below w0.heap.size w0 wx) (fun s13 _ _ => d + 1 - (intOf s13).toNat)
                  case atStart => exact ⟨0, by omega, rfl, HIN.out, HX.out⟩
                  case round =>
                    clear HIN HX
                    obtain ⟨b2, hb, rfl, hso, hbel⟩ := hrel
                    have HX := Lib.hid hbel
                    have hLd := HND.out
                    by_cases hltb : a + b2 < d + 1
                    · have HIN := Lib.hid (Pl.fau2b_in hltb hso)
                      have j2 : (a : Int) + (b2 : Int) < (n : Int) := by omega
                      have j3 : (0 : Int) ≤ (b2 : Int) := by omega
                      obtain ⟨r2, hr2⟩ : ∃ r2, Pl.orE (Pl.srch (Pl.fau2b m d (Pl.pc t) a) (d + 1 - a - (b2 + 1)) (b2 + 1)) r = r2 := ⟨_, rfl⟩
                      rw [hr2] at HIN
                      have HRR2 := Lib.hid hr2
                      clear hso hr2 hbel hLd
                      go_wp2
                      go_loopw [14] (fun s14 wx => ∃ e : Nat, a + b2 + e ≤ d + 1 ∧ s14 = .int .i64 e ∧ Pl.orE (Pl.srch (Pl.fau2c m d (Pl.pc t) a b2) (d + 1 - (a + b2) - e) e) r2 = oT ∧ Below w0.heap.size w0 wx) (fun s14 _ => d + 1 - (intOf s14).toNat)
                      case atStart => exact ⟨0, by omega, rfl, HIN.out, HX.out⟩
                      case round =>
                        clear HIN HX
                        obtain ⟨e, he, rfl, hso, hbel⟩ := hrel
                        have HX := Lib.hid hbel
                        have hLd := HND.out
                        by_cases hlte : a + b2 + e < d + 1
                        · have hgo := Pl.fau2c_go hlte hso
                          have hno := Pl.fau2c_no hlte hso
                          obtain ⟨⟨g1, A1, q1, b4, o4, b5, o5, q5, e9, f1, e4, f2, f3⟩, ⟨g2, A2, q2, b6, o6, b7, o7, q7, e10, f4, e6, f5, f6⟩⟩ := HNM.out a b2 e wr (by omega) hbel
                          subst e9 e4 e10 e6
                          obtain ⟨X, hX⟩ : ∃ X, Pl.br m d (Pl.pc t) a b2 e = X := ⟨_, rfl⟩
                          obtain ⟨Y, hY⟩ : ∃ Y, Pl.br m d (Pl.pc t) e b2 a = Y := ⟨_, rfl⟩
                          rw [hX, hY] at hgo hno
                          rw [hX] at f3
                          rw [hY] at f6
                          obtain ⟨D, hD⟩ : ∃ D, d + 1 = D := ⟨_, rfl⟩
                          obtain ⟨M1, hM1⟩ : ∃ M, d - a + 1 = M := ⟨_, rfl⟩
                          obtain ⟨M2, hM2⟩ : ∃ M, d - b2 + 1 = M := ⟨_, rfl⟩
                          have j4 : (a : Int) + (b2 : Int) + (e : Int) < (n : Int) := by omega
                          have j5 : (0 : Int) ≤ (e : Int) := by omega
                          have j6 : (e : Int) < (n : Int) := by omega
                          have j7 : (a : Int) < (D : Int) := by omega
                          have j8 : (b2 : Int) < (M1 : Int) := by omega
                          have j9 : (b2 : Int) < (D : Int) := by omega
                          have j10 : (e : Int) < (M2 : Int) := by omega
                          have he10 : e ≤ 10 := by omega
                          rw [hD] at f1 f4
                          rw [hM1] at f2
                          rw [hM2] at f5
                          clear hso hbel hLd hX hY hD hM1 hM2 he
                          by_cases hxy : X = Y
                          · have HNX := Lib.hid (hgo hxy)
                            subst hxy
                            clear hgo hno
                            go_wp2
                            go_quiet (fail)
                            go_wp2
                            go_roundw
                            case rel => exact ⟨e + 1, by omega, by go_num, HNX.out, below_drewN HX.out _⟩
                            case measure => simp only [intOf]; omega
                          · have HNX := Lib.hid (hno hxy)
                            obtain ⟨n1, n2⟩ : (X == Y) = false ∧ (X != Y) = true := ⟨by simpa using hxy, by simpa using hxy⟩
                            clear hgo hno
                            go_wp2
                            go_quiet (fail)
                            go_wp2
                            go_ret
                            exact ⟨_, rfl, by rw [HO.out, HP0.out, HS0.out, HNX.out]; exact (OwnI.lit4 _ 2 (a : Int) (b2 : Int) (e : Int)).more (by first | exact (below_step HB.out (below_step HBE.out HX.out)).size | exact (below_drewN (below_step HB.out (below_step HBE.out HX.out)) _).size), below_step HB.out (below_alloc _ (by first | exact below_step HBE.out HX.out | exact below_drewN (below_step HBE.out HX.out) _))⟩
                        · have HNX := Lib.hid (HRR2.out.trans (Pl.fau2c_out hlte hso))
                          have j4 : ¬ (a : Int) + (b2 : Int) + (e : Int) < (n : Int) := by omega
                          have he10 : e ≤ 11 := by omega
                          clear hso hbel hLd
                          go_wp2
                          go_roundw
                          case rel => exact ⟨b2 + 1, by omega, by go_num, HNX.out, HX.out⟩
                          case measure => simp only [intOf]; omega
                    · have HNX := Lib.hid (HRR.out.trans (Pl.fau2b_out hltb hso))
                      have j4 : ¬ (a : Int) + (b2 : Int) < (n : Int) := by omega
                      clear hso hbel hLd
                      go_wp2
                      go_roundw
                      case rel => exact ⟨a + 1, by omega, by go_num, HNX.out, HX.out⟩
                      case measure => simp only [intOf]; omega
                · obtain rfl : a = d + 1 := by omega
                  rw [Nat.sub_self] at hso
                  have HT0 := Lib.hid (show oT = none from hso.symm)
                  have j4 : ¬ (((d + 1 : Nat) : Int)) < (n : Int) := by omega
                  clear hso hbel hLd
                  go_wp2
                  go_ret
                  exact ⟨_, rfl, by rw [HO.out, HP0.out, HS0.out, HT0.out]; exact OwnI.nil _ _, below_step HB.out (below_step HBE.out HX.out)⟩
/-! the model's answers -/
theorem fau_isNone {m : Int} {d : Nat} {F : Nat → Nat → Int} : (decide ((((Pl.fau m d F).getD []).length : Int) = 0)) = (Pl.fau m d F).isNone := by
  cases h : Pl.fau m d F with
  | none => rfl
  | some x =>
    have := (fau_len h).1
    simp
    intro e
    subst e
    simp at this
set_option maxHeartbeats 4000000 in
set_option maxRecDepth 100000 in
theorem l04Is_any (m : Int) (A : Option Addr) (c : Nat) (t : List (List Int)) (w : World) (hz : szT t ≤ 1048576) (hr : RP w A t) :
    Calls Tryz.prog 46 #[.agg #[.int .i64 m, .slice A t.length c]] w fun e w' => e = .returned (.bool (isL m t)) ∧ Below w.heap.size w w' := by
  obtain ⟨W, hW, b1, hwb⟩ := start1 29 w m A t.length c
  have B1 := Lib.hid b1
  have HB := Lib.hid hwb
  have HW := Lib.hid hW
  have HI := Lib.hid (fun W0 (h : Below W.heap.size W W0) => l03Is_z m A c t W0 hz ((hr.below hwb).below h))
  by_cases h0 : isP m t = true
  · obtain ⟨d, e1, ok⟩ := plOk_of h0
    have HF := Lib.hid (fun W0 (h : Below W.heap.size W W0) => l04Fault_any m d A c t W0 ok ((hr.below hwb).below h))
    have HE : Hid (decide ((((Pl.fau m d (Pl.pc t)).getD []).length : Int) = 0) = isL m t) := Lib.hid (by rw [isL_fau h0 e1]; exact fau_isNone)
    have HLE : Hid (((Pl.fau m d (Pl.pc t)).getD []).length ≤ 4) := Lib.hid (by
      cases h : Pl.fau m d (Pl.pc t) with
      | none => simp
      | some x => exact (fau_len h).2)
    rw [h0] at HI
    obtain ⟨o, ho⟩ : ∃ o, (Pl.fau m d (Pl.pc t)).getD [] = o := ⟨_, rfl⟩
    rw [ho] at HF HE HLE
    obtain ⟨R, hR⟩ : ∃ R, isL m t = R := ⟨_, rfl⟩
    rw [hR] at HE ⊢
    obtain ⟨L, hL⟩ : ∃ L, t.length = L := ⟨_, rfl⟩
    rw [hL] at HF HI HW B1 ⊢
    obtain ⟨n, hn⟩ : ∃ n, o.length = n := ⟨_, rfl⟩
    rw [hn] at HE HLE
    have HN := Lib.hid hn
    clear b1 hwb hW hr h0 ok e1 hz hL ho hR hn
    go_enter Tryz.func46, Tryz.ntmps46
    go_wp2_with fail
    rw [HW.out]
    refine (HI.out _ (Below.refl _ _)).mono ?_
    rintro e w1 ⟨rfl, hb1⟩
    obtain ⟨x1, x2, x3⟩ := B1.out.keep hb1
    go_wp2_with fail
    refine (HF.out _ hb1).mono ?_
    rintro e w3 ⟨v, rfl, hf, hb3⟩
    have HB3 := Lib.hid (below_step HB.out (below_step hb1 hb3))
    obtain ⟨A3, c3, rfl, -⟩ := hf.form
    rw [HN.out]
    clear hb1 hb3 x1 x2 x3 hf
    by_cases hn0 : n = 0
    · subst hn0
      have HR : Hid (R = true) := Lib.hid (by rw [← HE.out]; rfl)
      go_wp2
      go_ret
      exact ⟨ret_bool HR.out.symm, HB3.out⟩
    · have hn1 : ¬ (n : Int) = 0 := by omega
      have HR : Hid (R = false) := Lib.hid (by rw [← HE.out]; exact decide_eq_false hn1)
      obtain ⟨n1, n2⟩ := ne_facts hn1
      go_wp2
      go_ret
      exact ⟨ret_bool HR.out.symm, HB3.out⟩
  · have h0' : isP m t = false := by simpa using h0
    rw [isL_no h0']
    rw [h0'] at HI
    obtain ⟨L, hL⟩ : ∃ L, t.length = L := ⟨_, rfl⟩
    rw [hL] at HI HW B1 ⊢
    clear b1 hwb hW hr h0 h0' hz hL
    go_enter Tryz.func46, Tryz.ntmps46
    go_wp2_with fail
    rw [HW.out]
    refine (HI.out _ (Below.refl _ _)).mono ?_
    rintro e w1 ⟨rfl, hb1⟩
    go_wp2
    go_ret
    exact ⟨rfl, below_step HB.out hb1⟩
end Go.Proofs.YtfhdgcndiljjcabGreat

/- Contracts of RowOfPlane, of the program and of the model. -/
namespace Go.Proofs.YtfhdgcndiljjcabGreat
open Go.RowKit Go.WideShapes Go.ChangeShapes Go.ChangeAt
end Go.Proofs.YtfhdgcndiljjcabGreat

/- Contracts of DifferentialOf, of the program and of the model. -/
namespace Go.Proofs.YtfhdgcndiljjcabGreat
open Go.RowKit Go.WideShapes Go.ChangeShapes Go.ChangeAt
end Go.Proofs.YtfhdgcndiljjcabGreat

/- Contracts of the logarithm of a law and its passages, of the program. -/
namespace Go.Proofs.YtfhdgcndiljjcabGreat
open Go.RowKit Go.WideShapes Go.ChangeShapes Go.ChangeAt
theorem pro_serQ (T1 T2 : TypeId) (w : World) (m : Int) (A : Option Addr) (n c : Nat) : ∃ W, (w.alloc (.cells #[.int .i64 m, .slice A n c] T1)).alloc (.cells #[.int .i64 0, .slice none 0 0] T2) = W ∧
    Box W w.heap.size m A n c ∧ VarC T2 W (w.heap.size + 1) #[.int .i64 0, .slice none 0 0] ∧ Below w.heap.size w W := by
  refine ⟨_, rfl, (Box.newT _ _ _ _ _ _).keep (below_one _ _), ?_, below_alloc _ (below_one _ _)⟩
  have := VarC.new T2 (w.alloc (.cells #[.int .i64 m, .slice A n c] T1)) #[.int .i64 0, .slice none 0 0]
  simpa using this
theorem lcurve_any (m : Int) (A : Option Addr) (n c : Nat) (w : World) :
    Calls Tryz.prog 190 #[.agg #[.int .i64 m, .slice A n c]] w fun e w' => e = .returned (.agg #[.int .i64 m, .slice A n c]) ∧ Below w.heap.size w w' := by
  go_enter Tryz.func190, Tryz.ntmps190
  go_wp2
  exact bodyPost_ret (v := .agg #[.int .i64 m, .slice A n c]) (by simp [results, Tryz.results190, go_sem]) rfl ⟨rfl, below_alloc _ (below_one _ _)⟩
theorem ecurve_any (m : Int) (A : Option Addr) (n c : Nat) (w : World) :
    Calls Tryz.prog 191 #[.agg #[.int .i64 m, .slice A n c]] w fun e w' => e = .returned (.agg #[.int .i64 m, .slice A n c]) ∧ Below w.heap.size w w' := by
  go_enter Tryz.func191, Tryz.ntmps191
  go_wp2
  exact bodyPost_ret (v := .agg #[.int .i64 m, .slice A n c]) (by simp [results, Tryz.results191, go_sem]) rfl ⟨rfl, below_alloc _ (below_one _ _)⟩
end Go.Proofs.YtfhdgcndiljjcabGreat

/- A region that draws its order, and whose last operation stores into what the others load: a condition on the world that holds till then. -/
namespace Go.Proofs.YtfhdgcndiljjcabGreat
open Go
section
variable {P : Program} {ops : Array Oper} {Q : Exit → Act → World → Prop} {md : Region.Mode} {S : World → Prop} {n : Nat}
/-- in whatever order; S holds behind every operation but number n -/
def wpTill (P : Program) (md : Region.Mode) (ops : Array Oper) (Q : Exit → Act → World → Prop) (S : World → Prop) (n : Nat) : Nat → Array Bool → Act → World → Prop
  | 0, listed, a, w => Region.ready md ops listed = [] ∧ Q .normal a w
  | fuel + 1, listed, a, w => (Region.ready md ops listed = [] → Q .normal a w) ∧
    ∀ i ∈ Region.ready md ops listed, wpOp P ops Q i (fun a' w' => (i ≠ n → S w') ∧ wpTill P md ops Q S n fuel (listed.setIfInBounds i true) a' w') a w
theorem any_of_till : ∀ (fuel : Nat) (listed : Array Bool) (a : Act) (w : World), wpTill P md ops Q S n fuel listed a w → wpAny P md ops Q fuel listed a w
  | 0, _, _, _, h => h
  | fuel + 1, _, _, _, h => ⟨h.1, fun i hi => wpOp_mono (fun a' w' k => any_of_till fuel _ a' w' k.2) (h.2 i hi)⟩
/-- what is listed cannot be waited for by what may come up -/
theorem no_wait {i : Nat} {listed : Array Bool} {oj : Oper} (hr : i ∈ Region.ready md ops listed) (hall : ∀ e ∈ oj.after, Region.binds md e = true → listed.getD e.on false = true) :
    ∀ e ∈ oj.after, Region.binds md e = true → e.on ≠ i := by
  intro e he hb heq
  have h1 := hall e he hb
  have h0 := (mem_ready.1 hr).1
  rw [heq] at h1
  by_cases h : i < listed.size
  · simp [h] at h0 h1
    rw [h0] at h1
    exact absurd h1 (by decide)
  · simp [Array.getElem?_eq_none (Nat.le_of_not_lt h)] at h1
/-- an operation that yields v in every world of S may be taken first, if number n waits for it -/
theorem till_first {i : Nat} {oi : Oper} {v : Value} (hi : ops[i]? = some oi) (hsel : ∀ (j : Nat) (o : Oper) cs b, ops[j]? = some o → o.op ≠ .select cs b)
    (hQ : ∀ c a w, Q (.panic c) (a.put oi.dst v) w → Q (.panic c) a w) (hn : ∀ on, ops[n]? = some on → ∃ e ∈ on.after, Region.binds md e = true ∧ e.on = i) :
    ∀ (fuel : Nat) (listed : Array Bool) (a : Act) (w : World),
      (∀ j oj, ops[j]? = some oj → j ≠ i → listed.getD j true = false → (∀ e ∈ oj.after, Region.binds md e = true → e.on ≠ i) → oi.apart ops oj = true) →
      i ∈ Region.ready md ops listed → YieldsIf P ops S oi v a → S w →
      wpTill P md ops Q S n fuel (listed.setIfInBounds i true) (a.put oi.dst v) w → wpTill P md ops Q S n (fuel + 1) listed a w := by
  intro fuel
  induction fuel with
  | zero =>
    intro listed a w _ hr hy hS H
    refine ⟨fun e => (by rw [e] at hr; cases hr), fun j hj => ?_⟩
    by_cases hji : j = i
    · subst hji
      exact hy.wpOp hi hS ⟨fun _ => hS, H⟩
    · have hk := ready_mono hj hji
      rw [H.1] at hk
      cases hk
  | succ fuel ih =>
    intro listed a w hfree hr hy hS H
    refine ⟨fun e => (by rw [e] at hr; cases hr), fun j hj => ?_⟩
    by_cases hji : j = i
    · subst hji
      exact hy.wpOp hi hS ⟨fun _ => hS, H⟩
    · obtain ⟨hun, oj, hoj, hall⟩ := mem_ready.1 hj
      have hnot := no_wait hr hall
      have hjn : j ≠ n := by
        rintro rfl
        obtain ⟨e, he, hb, heq⟩ := hn oj hoj
        exact hnot e he hb heq
      have k2 := wpOp_putIf hoj (hfree j oj hoj hji hun hnot) (fun cs b => hsel i oi cs b hi) (fun cs b => hsel j oj cs b hoj) hQ hy (H.2 j (ready_mono hj hji))
      have hfree' : ∀ k ok, ops[k]? = some ok → k ≠ i → (listed.setIfInBounds j true).getD k true = false →
          (∀ e ∈ ok.after, Region.binds md e = true → e.on ≠ i) → oi.apart ops ok = true := by
        intro k ok hk hki hu hno
        refine hfree k ok hk hki ?_ hno
        by_cases hjk : j = k
        · subst hjk; exact hun
        · rw [getD_set_ne true hjk] at hu; exact hu
      refine wpOp_mono (fun a' w' k3 => ⟨fun _ => k3.2.1 hjn, ih (listed.setIfInBounds j true) a' w' hfree' (ready_mono hr (Ne.symm hji)) k3.1 (k3.2.1 hjn) ?_⟩) k2
      rw [Array.setIfInBounds_comm _ _ hji]
      exact k3.2.2
/-- number n waits for number i -/
def waitB (md : Region.Mode) (ops : Array Oper) (n i : Nat) : Bool := ((ops[n]?).map fun o => o.after.any fun e => Region.binds md e && e.on == i).getD true
theorem till_take {i : Nat} {oi : Oper} {dst : Option Tmp} (v : Value) {fuel : Nat} {listed : Array Bool} {a : Act} {w : World} (hi : ops[i]? = some oi) (hd : oi.dst = dst) (hs : Region.noSelect ops = true) (hf : Region.free md ops listed i = true)
    (hr : (Region.ready md ops listed).contains i = true) (hw : waitB md ops n i = true) (hQ : ∀ c a w, Q (.panic c) (a.put dst v) w → Q (.panic c) a w) (hy : YieldsIf P ops S oi v a) (hS : S w)
    (h : wpTill P md ops Q S n fuel (listed.setIfInBounds i true) (a.put dst v) w) : wpTill P md ops Q S n (fuel + 1) listed a w := by
  subst hd
  refine till_first hi (Region.noSelect_spec hs) hQ (fun on ho => ?_) fuel listed a w (Region.free_spec hi hf) (by simpa using hr) hy hS h
  unfold waitB at hw
  rw [ho] at hw
  obtain ⟨e, he, k⟩ := Array.any_eq_true'.1 (show (on.after.any fun e => Region.binds md e && e.on == i) = true from hw)
  rw [Bool.and_eq_true] at k
  exact ⟨e, he, k.1, by simpa using k.2⟩
/-- one operation alone may come up -/
theorem till_one {i : Nat} {o : Oper} {fuel : Nat} {listed : Array Bool} {a : Act} {w : World} (hr : Region.ready md ops listed = [i]) (ho : ops[i]? = some o)
    (h : ∀ K : Act → World → Prop, Shut (∀ a w, (i ≠ n → S w) → wpTill P md ops Q S n fuel (listed.setIfInBounds i true) a w → K a w) → if Region.wanted o (yielded ops a.tmps) = true then Oper.wp P o a w K Q else K (a.put o.dst undef) w) :
    wpTill P md ops Q S n (fuel + 1) listed a w := by
  refine ⟨fun e => (by rw [e] at hr; cases hr), fun j hj => ?_⟩
  rw [hr] at hj
  obtain rfl : j = i := by simpa using hj
  exact wpOp_step ho (fun K hK => h K (fun a w hS hW => hK a w ⟨hS, hW⟩))
theorem till_done {fuel : Nat} {listed : Array Bool} {a : Act} {w : World} (hr : Region.ready md ops listed = []) (h : Q .normal a w) : wpTill P md ops Q S n fuel listed a w := by
  cases fuel with
  | zero => exact ⟨hr, h⟩
  | succ f => exact ⟨fun _ => h, by rw [hr]; simp⟩
theorem region_till {id : Nat} {a : Act} {w : World} (S : World → Prop) (n : Nat) (hm : P.follows .mixedOrders = true) (h : wpTill P .any ops Q S n ops.size (Array.replicate ops.size false) a w.drew) : (Code.region id ops true).wp P Q a w :=
  wp_region_any hm (any_of_till _ _ _ _ h)
end
end Go.Proofs.YtfhdgcndiljjcabGreat

