/- Texts of contracts, joined. -/
import Derived.Test.YtfhdgcndiljjcaaGreatDoorMgac
import Derived.Test.YtfhdgcndiljjcaaGreatDoorMgaf
import Derived.Test.YtfhdgcndiljjcaaGreatDoorMgaa
import Derived.Laws.CopyOwn
import Derived.Test.YtfhdgcndiljjcaaGreatDoorMgab
import Derived.Test.YtfhdgcndiljjcaaGreatDoorMgae
import Derived.Test.YtfhdgcndiljjcaaGreatDoorMgad
import Derived.Lib.QuietBelow
import Derived.BigQuiet
/- Contracts of the model's look for faults, of IsLaw and LawFault. -/
namespace Go.Proofs.YtfhdgcndiljjcaaGreatDoor
open Go.RowKit Go.WideShapes Go.ChangeShapes Go.ChangeAt

theorem OwnI.lit0 (w : World) : OwnI (w.alloc (.cells #[] 2)) w.heap.size (.slice (some ⟨w.heap.size, 0, none⟩) 0 0) [] :=
  ⟨rfl, .inr ⟨w.heap.size, 0, #[], rfl, Nat.le_refl _, heap_alloc_new w _, Nat.le_refl _, Nat.zero_le _, rfl, rfl⟩⟩
theorem OwnT.lit0 (w : World) (pre : List Value) (e : TypeId) : OwnT pre e (w.alloc (.cells #[] e)) w.heap.size (.slice (some ⟨w.heap.size, 0, none⟩) 0 0) [] :=
  ⟨[], rfl, ⟨by simp, .inr ⟨w.heap.size, 0, #[], rfl, Nat.le_refl _, heap_alloc_new w _, Nat.le_refl _, Nat.zero_le _, by simp, by simp⟩⟩, fun i t ht => by simp at ht⟩
/-- the first n coefficients of a column -/
def colL (t : List (List Int)) (n j : Nat) : List Int := (List.range n).map fun i => Pl.pc t i j
theorem colL_length (t : List (List Int)) (n j : Nat) : (colL t n j).length = n := by simp [colL]
theorem colL_succ (t : List (List Int)) (n j : Nat) : colL t (n + 1) j = colL t n j ++ [Pl.pc t n j] := by simp [colL, List.range_succ]
theorem colL_co (t : List (List Int)) (n j i : Nat) (h : i < n) : Ser.co (colL t n j) i = Pl.pc t i j := by
  unfold Ser.co colL
  rw [List.getElem?_map, List.getElem?_range h]; rfl
theorem colL_red {m : Int} {d : Nat} {t : List (List Int)} (hs : Pl.Ok m d t) (n j : Nat) : Ser.Red m (colL t n j) := by
  intro i
  by_cases h : i < n
  · rw [colL_co _ _ _ _ h]; exact hs.pc i j
  · have : Ser.co (colL t n j) i = 0 := by
      unfold Ser.co
      rw [List.getElem?_eq_none (by rw [colL_length]; omega)]; rfl
    rw [this]
    have := hs.m1
    omega
set_option maxHeartbeats 4000000 in
set_option maxRecDepth 100000 in
theorem l04Column_any (m : Int) (d : Nat) (A : Option Addr) (c : Nat) (t : List (List Int)) (j : Nat) (w : World) (hs : Pl.Ok m d t) (hr : RP w A t) (hj : j ≤ d) :
    Calls Tryz.prog 79 #[.slice A t.length c, .int .i64 j] w fun e w' => ∃ v, e = .returned v ∧ OwnI w' w.heap.size v (colL t (d + 1 - j) j) ∧ Below w.heap.size w w' := by
  have HS := Lib.hid hs
  have HR := Lib.hid hr
  have hd2 := hs.d2
  obtain ⟨n, hn⟩ : ∃ n, d + 1 - j = n := ⟨_, rfl⟩
  rw [hn]
  have HN := Lib.hid hn
  have HNJ := Lib.hid (show n + j = d + 1 by omega)
  have hn1 : n ≤ 11 := by omega
  have hj1 : j ≤ 10 := by omega
  obtain ⟨L, hL⟩ : ∃ L, t.length = L := ⟨_, rfl⟩
  have HL := Lib.hid hL
  have HLn := Lib.hid (show L = n + j by have := hs.len; omega)
  rw [hL]
  have hb0 := below_one w (.cells #[] 2)
  have HO0 := Lib.hid (OwnI.lit0 w)
  have HB0 := Lib.hid hb0
  clear hs hr hn hL hb0
  go_enter Tryz.func79, Tryz.ntmps79
  go_wp2
  go_loopw [5, 6] (fun s5 s6 wr => ∃ k : Nat, k ≤ n ∧ s6 = .int .i64 k ∧ OwnI wr w.heap.size s5 (colL t k j) ∧ Below w.heap.size w wr) (fun _ s6 _ => n - (intOf s6).toNat)
  case atStart => exact ⟨0, Nat.zero_le _, rfl, HO0.out, HB0.out⟩
  case round =>
    clear HO0 HB0
    obtain ⟨k, hk, rfl, hown, hbel⟩ := hrel
    have HB := Lib.hid hbel
    have HO := Lib.hid hown
    have hsz := hbel.size
    by_cases hlt : k < n
    · obtain ⟨b, off, b', off', c', rfl, hb, h1, hb', h2⟩ := HR.out.num k j (by rw [HL.out, HLn.out]; omega) (by rw [HS.out.row k (by have := HNJ.out; omega)]; have := HNJ.out; omega)
      have h1 := (hbel.cell (p := ⟨b, off + k, none⟩) hb).trans h1
      have h2 := (hbel.cell (p := ⟨b', off' + j, none⟩) hb').trans h2
      rw [HS.out.row k (by have := HNJ.out; omega)] at h1
      have hst := colL_succ t k j
      have HLE := Lib.hid (show (colL t k j).length ≤ 1000000000000 by rw [colL_length]; omega)
      obtain ⟨X, hX⟩ : ∃ X, Pl.pc t k j = X := ⟨_, rfl⟩
      rw [hX] at h2 hst
      have HST := Lib.hid hst
      obtain ⟨M, hM⟩ : ∃ M, d - k + 1 = M := ⟨_, rfl⟩
      have j2 : (j : Int) < (M : Int) := by have := HNJ.out; omega
      rw [hM] at h1
      have j0 : (0 : Int) ≤ (k : Int) := by omega
      have j1 : (k : Int) < (L : Int) := by have := HLn.out; omega
      have j3 : (0 : Int) ≤ (j : Int) := by omega
      have j4 : (k : Int) + (j : Int) < (L : Int) := by have := HLn.out; omega
      have hL9 : L ≤ 30 := by have := HLn.out; omega
      clear hown hbel hX hst hM
      go_wp2_with (at_builtin; refine wp_push _ _ _ (by rfl) (by rfl) Tryz.underlying32 w.heap.size _ _ (by rfl) HO.out X (by rfl) HLE.out hsz ?_; intro v' w1 ho1 hpb)
      have HP := Lib.hid hpb
      have HQ := Lib.hid ho1
      clear hpb ho1
      go_wp2
      go_roundw
      case rel => exact ⟨k + 1, by omega, by go_num, by rw [HST.out]; exact HQ.out, HB.out.trans HP.out⟩
      case measure => simp only [intOf]; omega
    · obtain rfl : k = n := by omega
      have j4 : ¬ (k : Int) + (j : Int) < (L : Int) := by have := HLn.out; omega
      have hL9 : L ≤ 30 := by have := HLn.out; omega
      clear hown hbel
      go_wp2
      go_ret
      exact ⟨_, rfl, HO.out, HB.out⟩

/-! the lists of tables -/
def leftT (m : Int) (d : Nat) (t : List (List Int)) (z : Nat) : List (List Int) := Pl.horq m d (colL t (d + 1 - z) z) (Pl.pc t) (d + 1 - z)
def rightT (m : Int) (d : Nat) (t : List (List Int)) (z : Nat) : List (List Int) := Pl.horq m d (Pl.rw' t z) (Pl.pc t) (d + 1 - z)
def mapT (f : Nat → List (List Int)) (n : Nat) : List (List (List Int)) := (List.range n).map f
theorem mapT_length (f : Nat → List (List Int)) (n : Nat) : (mapT f n).length = n := by simp [mapT]
theorem mapT_succ (f : Nat → List (List Int)) (n : Nat) : mapT f (n + 1) = mapT f n ++ [f n] := by simp [mapT, List.range_succ]
theorem mapT_get (f : Nat → List (List Int)) (n i : Nat) (h : i < n) : (mapT f n)[i]?.getD [] = f i := by
  unfold mapT
  rw [List.getElem?_map, List.getElem?_range h]; rfl
theorem left_br {m : Int} {d : Nat} (t : List (List Int)) (a b z : Nat) (hab : a + b ≤ d) : Pl.pc (leftT m d t z) a b = Pl.br m d (Pl.pc t) a b z := by
  have h := Pl.horq_br (m := m) (d := d) (colL t (d + 1 - z) z) (Pl.pc t) z (by rw [colL_length]) (fun i hi => colL_co _ _ _ _ (by rw [colL_length] at hi; exact hi)) a b hab
  rw [colL_length] at h
  exact h
theorem right_br {m : Int} {d : Nat} {t : List (List Int)} (hs : Pl.Ok m d t) (hy : Pl.Sym d (Pl.pc t)) (a b z : Nat) (hz : z ≤ d) (hab : a + b ≤ d) : Pl.pc (rightT m d t z) b a = Pl.br m d (Pl.pc t) a b z := by
  have hl : (Pl.rw' t z).length = d + 1 - z := by rw [hs.row z hz]; omega
  have h := Pl.horq_br' (m := m) (d := d) (Pl.rw' t z) hy z hl (fun i _ => rfl) a b hab
  rw [hl] at h
  exact h
theorem leftT_ok {m : Int} {d : Nat} {t : List (List Int)} (hs : Pl.Ok m d t) (z : Nat) : Pl.Ok m d (leftT m d t z) := Pl.horq_ok hs.m1 hs.m2 hs.d1 hs.d2 _ _ _
theorem rightT_ok {m : Int} {d : Nat} {t : List (List Int)} (hs : Pl.Ok m d t) (z : Nat) : Pl.Ok m d (rightT m d t z) := Pl.horq_ok hs.m1 hs.m2 hs.d1 hs.d2 _ _ _
theorem infoTab : (Tryz.prog.info? 22).map (fun i => (i.zero, i.size, i.bytes)) = some (some (.slice none 0 0), 1, 24) := by kernel_rfl
theorem tb_ne1 : (22 : TypeId) ≠ 2 := by decide
theorem tb_ne2 : (22 : TypeId) ≠ 32 := by decide
theorem OwnT.tabl {w : World} {lo : Nat} {v : Value} {ts : List (List (List Int))} (h : OwnT [] 22 w lo v ts) (i : Nat) (hi : i < ts.length) :
    ∃ g c A' c', v = .slice (some ⟨g, 0, none⟩) ts.length c ∧ g < w.heap.size ∧ w.cell? ⟨g, i, none⟩ = some (.slice A' (ts[i]?.getD []).length c') ∧ RP w A' (ts[i]?.getD []) := by
  obtain ⟨g, c, A', c', h1, h2, h3, h4, h5, h6⟩ := h.at i hi
  have e : i * (([] : List Value).length + 1) + ([] : List Value).length = i := by simp
  rw [e] at h4
  exact ⟨g, c, A', c', h1, h2, h4, h5⟩
theorem bx_in {W w' : World} {g : Nat} {m : Int} {A : Option Addr} {n c : Nat} (h : Box W g m A n c) (hb : Below W.heap.size W w') :
    (w'.cell? ⟨g, 0, none⟩ = some (.int .i64 m) ∧ w'.cell? ⟨g, 1, none⟩ = some (.slice A n c) ∧ g < w'.heap.size) ∧ Below W.heap.size W w' := ⟨h.keep hb, hb⟩
theorem bxc_in {W w' : World} {g b o : Nat} {m : Int} {A : Option Addr} {n c : Nat} {x : Value} (h : Box W g m A n c) (hc : W.cell? ⟨b, o, none⟩ = some x) (hlt : b < W.heap.size) (hb : Below W.heap.size W w') :
    (w'.cell? ⟨g, 0, none⟩ = some (.int .i64 m) ∧ w'.cell? ⟨g, 1, none⟩ = some (.slice A n c) ∧ g < w'.heap.size) ∧ w'.cell? ⟨b, o, none⟩ = some x ∧ Below W.heap.size W w' := ⟨h.keep hb, (hb.cell (p := ⟨b, o, none⟩) hlt).trans hc, hb⟩
theorem tri_num {w : World} {lo : Nat} {m : Int} {d : Nat} {t : List (List Int)} {A9 A10 : Option Addr} {n c9 c10 : Nat} (hs : Pl.Ok m d t) (hy : Pl.Sym d (Pl.pc t)) (h1 : OwnT [] 22 w lo (.slice A9 n c9) (mapT (leftT m d t) n)) (h2 : OwnT [] 22 w lo (.slice A10 n c10) (mapT (rightT m d t) n)) (hn : n = d + 1)
    (a b e : Nat) (W0 : World) (hab : a + b + e ≤ d) (h : Below w.heap.size w W0) :
    (∃ g A' c' b4 o4 b5 o5 c5, A9 = some ⟨g, 0, none⟩ ∧ W0.cell? ⟨g, e, none⟩ = some (.slice A' (d + 1) c') ∧ A' = some ⟨b4, o4, none⟩ ∧ W0.cell? ⟨b4, o4 + a, none⟩ = some (.slice (some ⟨b5, o5, none⟩) (d - a + 1) c5) ∧ W0.cell? ⟨b5, o5 + b, none⟩ = some (.int .i64 (Pl.br m d (Pl.pc t) a b e))) ∧
    (∃ g A' c' b4 o4 b5 o5 c5, A10 = some ⟨g, 0, none⟩ ∧ W0.cell? ⟨g, a, none⟩ = some (.slice A' (d + 1) c') ∧ A' = some ⟨b4, o4, none⟩ ∧ W0.cell? ⟨b4, o4 + b, none⟩ = some (.slice (some ⟨b5, o5, none⟩) (d - b + 1) c5) ∧ W0.cell? ⟨b5, o5 + e, none⟩ = some (.int .i64 (Pl.br m d (Pl.pc t) e b a))) := by
  refine ⟨?_, ?_⟩
  · obtain ⟨g, c, A', c', e0, k0, k1, k2⟩ := (h1.keep h).tabl e (by rw [mapT_length]; omega)
    rw [mapT_get _ _ _ (by omega)] at k1 k2
    have ok := leftT_ok hs e
    obtain ⟨b4, o4, b5, o5, c5, e4, -, k5, -, k6⟩ := k2.num a b (by rw [ok.len]; omega) (by rw [ok.row a (by omega)]; omega)
    rw [ok.len] at k1
    rw [ok.row a (by omega)] at k5
    rw [left_br t a b e (by omega)] at k6
    injection e0 with e0
    exact ⟨g, A', c', b4, o4, b5, o5, c5, e0, k1, e4, k5, k6⟩
  · obtain ⟨g, c, A', c', e0, k0, k1, k2⟩ := (h2.keep h).tabl a (by rw [mapT_length]; omega)
    rw [mapT_get _ _ _ (by omega)] at k1 k2
    have ok := rightT_ok hs a
    obtain ⟨b4, o4, b5, o5, c5, e4, -, k5, -, k6⟩ := k2.num b e (by rw [ok.len]; omega) (by rw [ok.row b (by omega)]; omega)
    rw [ok.len] at k1
    rw [ok.row b (by omega)] at k5
    rw [right_br hs hy e b a (by omega) (by omega)] at k6
    injection e0 with e0
    exact ⟨g, A', c', b4, o4, b5, o5, c5, e0, k1, e4, k5, k6⟩
theorem ne_turn {a b : Option Nat} (h : a = none ∨ a ≠ b) : b = none ∨ b ≠ a := by
  rcases h with h | h
  · subst h
    cases b with
    | none => exact .inl rfl
    | some x => exact .inr (fun e => by cases e)
  · exact .inr (Ne.symm h)
theorem no_pre : ∀ y, y ∈ ([] : List Value) → y.oneCell' = true := fun y hy => by simp at hy
theorem bxs_call {W w w' : World} {g : Nat} {x y : Value} (hb : Below w.heap.size w w') (h : (w.cell? ⟨g, 0, none⟩ = some x ∧ w.cell? ⟨g, 1, none⟩ = some y ∧ g < w.heap.size) ∧ Below W.heap.size W w) :
    (w'.cell? ⟨g, 0, none⟩ = some x ∧ w'.cell? ⟨g, 1, none⟩ = some y ∧ g < w'.heap.size) ∧ Below W.heap.size W w' :=
  ⟨⟨(hb.cell (p := ⟨g, 0, none⟩) h.1.2.2).trans h.1.1, (hb.cell (p := ⟨g, 1, none⟩) h.1.2.2).trans h.1.2.1, Nat.lt_of_lt_of_le h.1.2.2 hb.size⟩, below_step h.2 hb⟩
theorem bxs_push {W w w' : World} {g : Nat} {x y : Value} (hg : g < W.heap.size) (hb : Below W.heap.size w w') (h : (w.cell? ⟨g, 0, none⟩ = some x ∧ w.cell? ⟨g, 1, none⟩ = some y ∧ g < w.heap.size) ∧ Below W.heap.size W w) :
    (w'.cell? ⟨g, 0, none⟩ = some x ∧ w'.cell? ⟨g, 1, none⟩ = some y ∧ g < w'.heap.size) ∧ Below W.heap.size W w' :=
  ⟨⟨(hb.cell (p := ⟨g, 0, none⟩) hg).trans h.1.1, (hb.cell (p := ⟨g, 1, none⟩) hg).trans h.1.2.1, Nat.lt_of_lt_of_le h.1.2.2 hb.size⟩, h.2.trans hb⟩
theorem thr3 {p q r : Prop} (h : p ∧ q ∧ r) : r := h.2.2
theorem rp_num_in {W : World} {b off : Nat} {m : Int} {d : Nat} {t : List (List Int)} (hr : RP W (some ⟨b, off, none⟩) t) (hs : Pl.Ok m d t) (i j : Nat) (W0 : World) (hij : i + j ≤ d) (h : Below W.heap.size W W0) :
    ∃ b' off' c' N, N = d - i + 1 ∧ W0.cell? ⟨b, off + i, none⟩ = some (.slice (some ⟨b', off', none⟩) N c') ∧ W0.cell? ⟨b', off' + j, none⟩ = some (.int .i64 (Pl.pc t i j)) := by
  obtain ⟨b0, off0, b', off', c', e, hb, k1, hb', k2⟩ := hr.num i j (by rw [hs.len]; omega) (by rw [hs.row i (by omega)]; omega)
  injection e with e
  injection e with e1 e2
  subst e1 e2
  exact ⟨b', off', c', _, hs.row i (by omega), (h.cell (p := ⟨b, off + i, none⟩) hb).trans k1, (h.cell (p := ⟨b', off' + j, none⟩) hb').trans k2⟩
set_option maxHeartbeats 16000000 in
set_option maxRecDepth 100000 in
theorem l04Fault_any (m : Int) (d : Nat) (A : Option Addr) (c : Nat) (t : List (List Int)) (w : World) (hs : Pl.Ok m d t) (hr : RP w A t) :
    Calls Tryz.prog 61 #[.agg #[.int .i64 m, .slice A t.length c]] w fun e w' => ∃ v, e = .returned v ∧ OwnI w' w.heap.size v ((Pl.fau m d (Pl.pc t)).getD []) ∧ Below w.heap.size w w' := by
  obtain ⟨b, off, rfl⟩ := hr.some (by rw [hs.len]; omega)
  obtain ⟨W, hW, b1, hwb⟩ := start1 28 w m (some ⟨b, off, none⟩) t.length c
  have B1 := Lib.hid b1
  have HB := Lib.hid hwb
  have HW := Lib.hid hW
  have HS := Lib.hid hs
  have hd2 := hs.d2
  have hrW := hr.below hwb
  have HR := Lib.hid hrW
  have hnum := rp_num_in hrW hs
  have HNUM := Lib.hid hnum
  have hc := fun (j : Nat) (W0 : World) (hj : j ≤ d) (h : Below W.heap.size W W0) => l04Column_any m d (some ⟨b, off, none⟩) c t j W0 hs (hrW.below h) hj
  have ha := fun (A0 : Option Addr) (c0 : Nat) (l : List Int) (W0 : World) (hn : l.length ≤ d + 1) (hred : Ser.Red m l) (h : RI W0 A0 l) (h' : Below W.heap.size W W0) => l03AfterQ_any m d A0 c0 l (some ⟨b, off, none⟩) c t W0 hn hred hs h (hrW.below h')
  have hrows := fun (k : Nat) (hk : k ≤ d) => hrW.at k (by rw [hs.len]; omega)
  obtain ⟨o, ho⟩ : ∃ o, Pl.fau m d (Pl.pc t) = o := ⟨_, rfl⟩
  rw [ho]
  obtain ⟨oP, hoP⟩ : ∃ o, Pl.fauP d (Pl.pc t) = o := ⟨_, rfl⟩
  obtain ⟨oS, hoS⟩ : ∃ o, Pl.fauS d (Pl.pc t) = o := ⟨_, rfl⟩
  obtain ⟨oT, hoT⟩ : ∃ o, Pl.fauT m d (Pl.pc t) = o := ⟨_, rfl⟩
  have HO : Hid (o = Pl.orE oP (Pl.orE oS oT)) := Lib.hid (by rw [← ho, ← hoP, ← hoS, ← hoT]; rfl)
  have HOP := Lib.hid (show Pl.srch (Pl.fau0 (Pl.pc t)) (d + 1 - 0) 0 = oP from hoP)
  have HOS := Lib.hid (show Pl.srch (Pl.fau1 d (Pl.pc t)) (d + 1 - 0) 0 = oS from hoS)
  have HOT := Lib.hid (show Pl.srch (Pl.fau2 m d (Pl.pc t)) (d + 1 - 0) 0 = oT from hoT)
  have HSY := Lib.hid (fun (h : oS = none) => Pl.fauS_none (hoS.trans h))
  obtain ⟨L, hL⟩ : ∃ L, t.length = L := ⟨_, rfl⟩
  rw [hL] at ha hc B1 HW ⊢
  have HC := Lib.hid hc
  have HA := Lib.hid ha
  have HROWS := Lib.hid hrows
  have HLd := Lib.hid (hL.symm.trans hs.len)
  have hLb : L ≤ 11 := by have := HLd.out; omega
  obtain ⟨x1, x2, x3⟩ := B1.out
  clear b1 hwb hW hr hs hrW hnum hc ha hrows ho hoP hoS hoT hL
  go_enter Tryz.func61, Tryz.ntmps61
  go_wp2
  rw [HW.out]
  go_quiet (fail)
  go_wp2
  clear x1 x2 x3
  go_loopw [5, 6] (fun s5 _ wr => ∃ k : Nat, k ≤ L ∧ s5 = .int .i64 k ∧ Pl.srch (Pl.fau0 (Pl.pc t)) (d + 1 - k) k = oP ∧ Below W.heap.size W wr) (fun s5 _ _ => L - (intOf s5).toNat)
  case atStart => exact ⟨0, Nat.zero_le _, rfl, HOP.out, below_drewN (Below.refl _ _) _⟩
  case round =>
    clear HOP
    obtain ⟨k, hk, rfl, hso, hbel⟩ := hrel
    have HBE := Lib.hid hbel
    have hLd := HLd.out
    by_cases hlt : k < L
    · obtain ⟨b', off', c', N, hN, h1, h2⟩ := HNUM.out k 0 wr (by omega) hbel
      rw [Nat.add_zero] at h2
      have hgo := fun h => Pl.fau0_go (F := Pl.pc t) (d := d) (k := k) (by omega) hso h
      have hno := fun h => Pl.fau0_no (F := Pl.pc t) (d := d) (k := k) (by omega) hso h
      obtain ⟨X, hX⟩ : ∃ X, Pl.pc t k 0 = X := ⟨_, rfl⟩
      rw [hX] at h2 hgo hno
      have j0 : (0 : Int) ≤ (k : Int) := by omega
      have j1 : (k : Int) < (L : Int) := by omega
      have j2 : (0 : Int) < (N : Int) := by omega
      have j3 : (0 : Nat) < N := by omega
      clear hbel hso hX hN hLd
      by_cases hk1 : k = 1
      · have e1 : ((k : Int) == 1) = true := by simp [hk1]
        rw [show Pl.want k = 1 by rw [hk1]; rfl] at hgo hno
        clear hk1
        by_cases hx1 : X = 1
        · have HNX := Lib.hid (hgo hx1)
          clear hgo hno
          subst hx1
          go_wp2
          go_roundw
          case rel => exact ⟨k + 1, by omega, by go_num, HNX.out, HBE.out⟩
          case measure => simp only [intOf]; omega
        · have HNX := Lib.hid (hno hx1)
          obtain ⟨n3, n4⟩ : (X == 1) = false ∧ (X != 1) = true := ⟨by simpa using hx1, by simpa using hx1⟩
          clear hgo hno
          go_wp2
          go_ret
          exact ⟨_, rfl, by rw [HO.out, HNX.out]; exact (OwnI.lit2 wr 0 (k : Int)).more (below_step HB.out HBE.out).size, below_step HB.out (below_alloc _ HBE.out)⟩
      · have hk9 : ¬ (k : Int) = 1 := by omega
        obtain ⟨e1, e2⟩ : ((k : Int) == 1) = false ∧ ((k : Int) != 1) = true := ⟨by simpa using hk9, by simpa using hk9⟩
        rw [show Pl.want k = 0 by unfold Pl.want; rw [if_neg hk1]] at hgo hno
        by_cases hx1 : X = 0
        · have HNX := Lib.hid (hgo hx1)
          clear hgo hno
          subst hx1
          go_wp2
          go_roundw
          case rel => exact ⟨k + 1, by omega, by go_num, HNX.out, HBE.out⟩
          case measure => simp only [intOf]; omega
        · have HNX := Lib.hid (hno hx1)
          obtain ⟨n3, n4⟩ : (X == 0) = false ∧ (X != 0) = true := ⟨by simpa using hx1, by simpa using hx1⟩
          clear hgo hno
          go_wp2
          go_ret
          exact ⟨_, rfl, by rw [HO.out, HNX.out]; exact (OwnI.lit2 wr 0 (k : Int)).more (below_step HB.out HBE.out).size, below_step HB.out (below_alloc _ HBE.out)⟩
    · obtain rfl : k = L := by omega
      rw [hLd, Nat.sub_self] at hso
      have HP0 := Lib.hid (show oP = none from hso.symm)
      clear hbel hso hLd
      go_wp2
      go_loopw [7, 8] (fun s7 _ wr => ∃ i : Nat, i ≤ d + 1 ∧ s7 = .int .i64 i ∧ Pl.srch (Pl.fau1 d (Pl.pc t)) (d + 1 - i) i = oS ∧ Below W.heap.size W wr) (fun s7 _ _ => d + 1 - (intOf s7).toNat)
      case atStart => exact ⟨0, Nat.zero_le _, rfl, HOS.out, HBE.out⟩
      case round =>
        clear HOS HBE
        obtain ⟨i, hi, rfl, hso, hbel⟩ := hrel
        have HBE := Lib.hid hbel
        have hLd := HLd.out
        by_cases hlt : i < d + 1
        · have HIN := Lib.hid (Pl.fau1_in hlt hso)
          have j1 : (i : Int) < (k : Int) := by omega
          have j0 : (0 : Int) ≤ (i : Int) := by omega
          have hi10 : i ≤ 10 := by omega
          obtain ⟨r, hr⟩ : ∃ r, Pl.srch (Pl.fau1 d (Pl.pc t)) (d + 1 - (i + 1)) (i + 1) = r := ⟨_, rfl⟩
          rw [hr] at HIN
          have HRR := Lib.hid hr
          clear hso hr hbel hLd
          go_wp2
          go_loopw [8] (fun s8 wr => ∃ j : Nat, j ≤ d + 2 ∧ s8 = .int .i64 j ∧ Pl.orE (Pl.srch (Pl.fau1j (Pl.pc t) i) (d + 1 - i - j) j) r = oS ∧ Below W.heap.size W wr) (fun s8 _ => d + 3 - (intOf s8).toNat)
          case atStart => exact ⟨i + 1, by omega, by first | rfl | go_num, HIN.out, HBE.out⟩
          case round =>
            clear HIN HBE
            obtain ⟨j, hj, rfl, hso, hbel⟩ := hrel
            have HBE := Lib.hid hbel
            have hLd := HLd.out
            by_cases hjN : i + j < d + 1
            · obtain ⟨b', off', c', N, hN, h1, h2⟩ := HNUM.out i j wr (by omega) hbel
              obtain ⟨b2, off2, c2, N2, hN2, h3, h4⟩ := HNUM.out j i wr (by omega) hbel
              have hgo := Pl.fau1_go (F := Pl.pc t) (d := d) (i := i) (j := j) (by omega) hso
              have hno := Pl.fau1_no (F := Pl.pc t) (d := d) (i := i) (j := j) (by omega) hso
              obtain ⟨X, hX⟩ : ∃ X, Pl.pc t i j = X := ⟨_, rfl⟩
              obtain ⟨Y, hY⟩ : ∃ Y, Pl.pc t j i = Y := ⟨_, rfl⟩
              rw [hX, hY] at hgo hno
              rw [hX] at h2
              rw [hY] at h4
              have j2 : (0 : Int) ≤ (j : Int) := by omega
              have j3 : (j : Int) < (N : Int) := by omega
              have j4 : (j : Int) < (k : Int) := by omega
              have j5 : (i : Int) < (N2 : Int) := by omega
              have j6 : (i : Int) + (j : Int) < (k : Int) := by omega
              clear hso hX hY hN hN2 hLd hbel
              by_cases hxy : X = Y
              · have HNX := Lib.hid (hgo hxy)
                subst hxy
                clear hgo hno
                go_wp2
                go_quiet (fail)
                go_wp2
                go_roundw
                case rel => exact ⟨j + 1, by omega, by go_num, HNX.out, below_drewN HBE.out _⟩
                case measure => simp only [intOf]; omega
              · have HNX := Lib.hid (hno hxy)
                obtain ⟨n1, n2⟩ : (X == Y) = false ∧ (X != Y) = true := ⟨by simpa using hxy, by simpa using hxy⟩
                clear hgo hno
                go_wp2
                go_quiet (fail)
                go_wp2
                go_ret
                exact ⟨_, rfl, by rw [HO.out, HP0.out, HNX.out]; exact (OwnI.lit3 _ 1 (i : Int) (j : Int)).more (by first | exact (below_step HB.out HBE.out).size | exact (below_drewN (below_step HB.out HBE.out) _).size), below_step HB.out (below_alloc _ (by first | exact HBE.out | exact below_drewN HBE.out _))⟩
            · have HNX := Lib.hid (HRR.out.trans (Pl.fau1_out hjN hso))
              have j6 : ¬ (i : Int) + (j : Int) < (k : Int) := by omega
              clear hso hbel hLd
              go_wp2
              go_roundw
              case rel => exact ⟨i + 1, by omega, by go_num, HNX.out, HBE.out⟩
              case measure => simp only [intOf]; omega
        · obtain rfl : i = d + 1 := by omega
          rw [Nat.sub_self] at hso
          have HS0 := Lib.hid (show oS = none from hso.symm)
          have HSYM := Lib.hid (HSY.out hso.symm)
          have j1 : ¬ (((d + 1 : Nat) : Int)) < (k : Int) := by omega
          clear hso hbel hLd HNUM HSY
          go_wp2
          have HL0 := Lib.hid (OwnT.lit0 wr [] 22)
          have HL1 := Lib.hid (OwnT.lit0 (wr.alloc (.cells #[] 22)) [] 22)
          have HZ := Lib.hid (HBE.out.size)
          go_loopw [9, 10, 11] (fun s9 s10 s11 wx => ∃ z : Nat, z ≤ k ∧ s11 = .int .i64 z ∧ OwnT [] 22 wx W.heap.size s9 (mapT (leftT m d t) z) ∧ OwnT [] 22 wx W.heap.size s10 (mapT (rightT m d t) z) ∧ (s10.ownBlock = none ∨ s10.ownBlock ≠ s9.ownBlock) ∧ Below W.heap.size W wx) (fun _ _ s11 _ => k - (intOf s11).toNat)
          case atStart => exact ⟨0, Nat.zero_le _, rfl, (HL0.out.keep (below_one _ _)).more HZ.out, by have := HL1.out.more (Nat.le_trans HZ.out (below_one wr (.cells #[] 22)).size); simpa [mapT] using this, .inr (by simp [Value.ownBlock]), below_alloc _ (below_alloc _ HBE.out)⟩
          case round =>
            clear HL0 HL1 HZ HBE
            obtain ⟨z, hz, rfl, ho1, ho2, hne, hbel⟩ := hrel
            obtain ⟨A9, c9, rfl⟩ := ho1.form
            obtain ⟨A10, c10, rfl⟩ := ho2.form
            have HNE := Lib.hid hne
            clear hne
            have HBE := Lib.hid hbel
            have HO1 := Lib.hid ho1
            have HO2 := Lib.hid ho2
            have hLd := HLd.out
            by_cases hlt : z < k
            · have HWL := Lib.hid (show w.heap.size < W.heap.size from B1.out.2.2)
              have X0 := Lib.hid (bx_in B1.out (hbel.trans ((below_drew0 wr).mono hbel.size)))
              have HCZ := Lib.hid (fun W0 (h : Below W.heap.size W W0) => HC.out z W0 (by omega) h)
              have HAZ : Hid (∀ (A0 : Option Addr) (c0 : Nat) (W0 : World), RI W0 A0 (colL t (d + 1 - z) z) → Below W.heap.size W W0 → Calls Tryz.prog 78 #[.int .i64 m, .slice A0 (d + 1 - z) c0, .slice (some ⟨b, off, none⟩) k c] W0 fun e w' => ∃ v, e = .returned v ∧ OwnR w' W0.heap.size w'.heap.size v (leftT m d t z) ∧ Below W0.heap.size W0 w') := Lib.hid (fun A0 c0 W0 h h' => by
                have := HA.out A0 c0 (colL t (d + 1 - z) z) W0 (by rw [colL_length]; omega) (colL_red HS.out _ _) h h'
                rw [colL_length] at this
                exact this)
              obtain ⟨b0, off0, Az, cz, e0, hb0, hr1, -, hr3⟩ := HROWS.out z (by omega)
              have HAR : Hid (∀ (W0 : World), Below W.heap.size W W0 → Calls Tryz.prog 78 #[.int .i64 m, .slice Az (d + 1 - z) cz, .slice (some ⟨b, off, none⟩) k c] W0 fun e w' => ∃ v, e = .returned v ∧ OwnR w' W0.heap.size w'.heap.size v (rightT m d t z) ∧ Below W0.heap.size W0 w') := Lib.hid (fun W0 h' => by
                have hl : (Pl.rw' t z).length = d + 1 - z := by rw [HS.out.row z (by omega)]; omega
                have := HA.out Az cz (Pl.rw' t z) W0 (by rw [hl]; omega) (HS.out.red z) (hr3.below h') h'
                rw [hl] at this
                exact this)
              rw [HS.out.row z (by omega), show d - z + 1 = d + 1 - z by omega] at hr1
              injection e0 with e0
              injection e0 with e1 e2
              subst e1 e2
              have hcl := colL_length t (d + 1 - z) z
              have hs1 := mapT_succ (leftT m d t) z
              have hs2 := mapT_succ (rightT m d t) z
              have HLE1 := Lib.hid (show (mapT (leftT m d t) z).length ≤ 1000000 by rw [mapT_length]; omega)
              have HLE2 := Lib.hid (show (mapT (rightT m d t) z).length ≤ 1000000 by rw [mapT_length]; omega)
              obtain ⟨C, hC⟩ : ∃ C, colL t (d + 1 - z) z = C := ⟨_, rfl⟩
              rw [hC] at HCZ HAZ hcl
              have HCL := Lib.hid hcl
              obtain ⟨RL, hRL⟩ : ∃ R, leftT m d t z = R := ⟨_, rfl⟩
              obtain ⟨RR, hRR⟩ : ∃ R, rightT m d t z = R := ⟨_, rfl⟩
              have HRL : Hid (RL.length = d + 1) := Lib.hid (by rw [← hRL]; exact (leftT_ok HS.out z).len)
              have HRR : Hid (RR.length = d + 1) := Lib.hid (by rw [← hRR]; exact (rightT_ok HS.out z).len)
              rw [hRL] at HAZ hs1
              rw [hRR] at HAR hs2
              obtain ⟨n, hn⟩ : ∃ n, d + 1 - z = n := ⟨_, rfl⟩
              rw [hn] at HAZ HAR HCL hr1
              have HS1 := Lib.hid hs1
              have HS2 := Lib.hid hs2
              have j2 : (z : Int) < (k : Int) := by omega
              have j3 : (0 : Int) ≤ (z : Int) := by omega
              have HZ := Lib.hid hbel.size
              obtain ⟨P1, hP1⟩ : ∃ P, mapT (leftT m d t) z = P := ⟨_, rfl⟩
              obtain ⟨P2, hP2⟩ : ∃ P, mapT (rightT m d t) z = P := ⟨_, rfl⟩
              rw [hP1] at HO1 HS1 HLE1 HNE ⊢
              rw [hP2] at HO2 HS2 HLE2 HNE ⊢
              have HB0 := Lib.hid hb0
              have HR1 := Lib.hid hr1
              clear ho1 ho2 hbel hC hRL hRR hs1 hs2 hcl hn hP1 hP2 hr1 hr3 hb0 hLd
              go_wp2
              go_region_held3 (fun w' => (w'.cell? ⟨w.heap.size, 0, none⟩ = some (.int .i64 m) ∧ w'.cell? ⟨w.heap.size, 1, none⟩ = some (.slice (some ⟨b, off, none⟩) k c) ∧ w.heap.size < w'.heap.size) ∧ Below W.heap.size W w') (first | exact X0.out | exact bxs_push HWL.out hpb (by assumption) | exact bxs_call hb3 (by assumption) | exact bxs_call hb2 (by assumption) | exact bxs_call (below_one _ _) (by assumption)) (first
                | (go_at_call 79; with_reducible refine Calls.mono (HCZ.out _ (snd2 (by assumption))) ?_; rintro e w2 ⟨v2, rfl, oc, hb2⟩; obtain ⟨Ac, cc, rfl, -⟩ := oc.form; have rc := oc.ri; rw [HCL.out])
                | (go_at_call 78; with_reducible refine Calls.mono (HAZ.out _ _ _ rc (snd2 (by assumption))) ?_; rintro e w3 ⟨v3, rfl, oa, hb3⟩; obtain ⟨A3, c3, rfl, -⟩ := oa.len; rw [HRL.out] at oa ⊢)
                | (refine step_pushD (pre := []) (e := 22) _ _ _ (by rfl) (by rfl) Tryz.underlying112 tb_ne1 tb_ne2 (.slice none 0 0) 24 infoTab rfl (by decide) no_pre W.heap.size w3.heap.size _ P1 (by rfl) ((HO1.out.keep (below_step (below_step (below_drew0 wr) hb2) hb3)).keep (below_one _ _)) (.slice A3 (d + 1) c3) RL ((oa.low (Nat.le_trans HZ.out (below_step (below_drew0 wr) hb2).size)).keep (below_one _ _)) (by simp) w3.heap.size (by rfl) (laid w3 [.slice A3 (d + 1) c3] _) HLE1.out (Nat.le_trans HZ.out (below_step (below_step (below_step (below_drew0 wr) hb2) hb3) (below_one _ _)).size) ?_; intro v' w4 ho4 hpb hoth))
              all_goals
                have hq := hoth _ _ ((HO2.out.keep (below_step (below_step (below_drew0 wr) hb2) hb3)).keep (below_one _ _)) HNE.out
                have HB4 := Lib.hid (show Below W.heap.size W w4 from snd2 (by assumption))
                have HO4 := Lib.hid ho4
                have HQ2 := Lib.hid hq.1
                have HNE2 := Lib.hid hq.2
                have Y0 := Lib.hid (bxc_in B1.out HR1.out HB0.out (HB4.out.trans ((below_drew0 w4).mono HB4.out.size)))
                have HZ4 := Lib.hid HB4.out.size
                clear hq hoth ho4 hpb oa oc rc hb2 hb3
                go_wp2
                go_region_held3 (fun w' => (w'.cell? ⟨w.heap.size, 0, none⟩ = some (.int .i64 m) ∧ w'.cell? ⟨w.heap.size, 1, none⟩ = some (.slice (some ⟨b, off, none⟩) k c) ∧ w.heap.size < w'.heap.size) ∧ w'.cell? ⟨b, off + z, none⟩ = some (.slice Az n cz) ∧ Below W.heap.size W w') (first | exact Y0.out | exact bxc_in B1.out HR1.out HB0.out (Below.trans (show Below W.heap.size W _ from thr3 (by assumption)) hpb5) | exact bxc_in B1.out HR1.out HB0.out (below_step (thr3 (by assumption)) hb5) | exact bxc_in B1.out HR1.out HB0.out (below_step (thr3 (by assumption)) (below_one _ _))) (first
                  | (go_at_call 78; with_reducible refine Calls.mono (HAR.out _ (thr3 (by assumption))) ?_; rintro e w5 ⟨v5, rfl, oa5, hb5⟩; obtain ⟨A5, c5, rfl, -⟩ := oa5.len; rw [HRR.out] at oa5 ⊢)
                  | (refine step_pushD (pre := []) (e := 22) _ _ _ (by rfl) (by rfl) Tryz.underlying112 tb_ne1 tb_ne2 (.slice none 0 0) 24 infoTab rfl (by decide) no_pre W.heap.size w5.heap.size _ P2 (by rfl) ((HQ2.out.keep (below_step (below_drew0 w4) hb5)).keep (below_one _ _)) (.slice A5 (d + 1) c5) RR ((oa5.low (Nat.le_trans HZ4.out (below_drew0 w4).size)).keep (below_one _ _)) (by simp) w5.heap.size (by rfl) (laid w5 [.slice A5 (d + 1) c5] _) HLE2.out (Nat.le_trans HZ4.out (below_step (below_step (below_drew0 w4) hb5) (below_one _ _)).size) ?_; intro v6 w6 ho6 hpb5 hoth5))
                all_goals
                  have hq := hoth5 _ _ ((HO4.out.keep (below_step (below_drew0 w4) hb5)).keep (below_one _ _)) (ne_turn HNE2.out)
                  have HB6 := Lib.hid (show Below W.heap.size W w6 from thr3 (by assumption))
                  have HO6 := Lib.hid ho6
                  have HQ3 := Lib.hid hq.1
                  have HNE3 := Lib.hid hq.2
                  clear hq hoth5 ho6 hpb5 oa5 hb5
                  go_wp2
                  go_roundw
                  case rel => exact ⟨z + 1, by omega, by go_num, by rw [HS1.out]; exact HQ3.out, by rw [HS2.out]; exact HO6.out, ne_turn HNE3.out, HB6.out⟩
                  case measure => simp only [intOf]; omega
            · obtain rfl : z = k := by omega
              have j4 : ¬ (z : Int) < (z : Int) := by omega
              clear ho1 ho2 hbel HNE
              rw [mapT_length] at HO1 HO2
              rw [mapT_length, mapT_length]
              obtain ⟨w0, hw0⟩ : ∃ w9, w9 = wr := ⟨_, rfl⟩
              subst hw0
              have HNM := Lib.hid (fun (a b e : Nat) (W0 : World) (hab : a + b + e ≤ d) (h : Below w0.heap.size w0 W0) => tri_num HS.out HSYM.out HO1.out HO2.out (by omega) a b e W0 hab h)
              clear HO1 HO2
              obtain ⟨n, hn⟩ : ∃ n, z = n := ⟨_, rfl⟩
              rw [hn] at hLd hLb ⊢
              have HND := Lib.hid hLd
              clear hn hz hLd
              go_wp2
              go_loopw [12, 13, 14] (fun s12 _ _ wx => ∃ a : Nat, a ≤ d + 1 ∧ s12 = .int .i64 a ∧ Pl.srch (Pl.fau2 m d (Pl.pc t)) (d + 1 - a) a = oT ∧ Below w0.heap.size w0 wx) (fun s12 _ _ _ => d + 1 - (intOf s12).toNat)
              case atStart => exact ⟨0, Nat.zero_le _, rfl, HOT.out, Below.refl _ _⟩
              case round =>
                clear HOT
                obtain ⟨a, ha, rfl, hso, hbel⟩ := hrel
                have HX := Lib.hid hbel
                have hLd := HND.out
                by_cases hlt : a < d + 1
                · have HIN := Lib.hid (Pl.fau2_in hlt hso)
                  have j1 : (a : Int) < (n : Int) := by omega
                  have j0 : (0 : Int) ≤ (a : Int) := by omega
                  have ha10 : a ≤ 10 := by omega
                  obtain ⟨r, hr⟩ : ∃ r, Pl.srch (Pl.fau2 m d (Pl.pc t)) (d + 1 - (a + 1)) (a + 1) = r := ⟨_, rfl⟩
                  rw [hr] at HIN
                  have HRR := Lib.hid hr
                  clear hso hr hbel hLd
                  go_wp2
                  go_loopw [13, 14] (fun s13 _ wx => ∃ b : Nat, a + b ≤ d + 1 ∧ s13 = .int .i64 b ∧ Pl.orE (Pl.srch (Pl.fau2b m d (Pl.pc t) a) (d + 1 - a - b) b) r = oT ∧ Below w0.heap.size w0 wx) (fun s13 _ _ => d + 1 - (intOf s13).toNat)
                  case atStart => exact ⟨0, by omega, rfl, HIN.out, HX.out⟩
                  case round =>
                    clear HIN HX
                    obtain ⟨b2, hb, rfl, hso, hbel⟩ := hrel
                    have HX := Lib.hid hbel
                    have hLd := HND.out
                    by_cases hltb : a + b2 < d + 1
                    · have HIN := Lib.hid (Pl.fau2b_in hltb hso)
                      have j2 : (a : Int) + (b2 : Int) < (n : Int) := by omega
                      have j3 : (0 : Int) ≤ (b2 : Int) := by omega
                      obtain ⟨r2, hr2⟩ : ∃ r2, Pl.orE (Pl.srch (Pl.fau2b m d (Pl.pc t) a) (d + 1 - a - (b2 + 1)) (b2 + 1)) r = r2 := ⟨_, rfl⟩
                      rw [hr2] at HIN
                      have HRR2 := Lib.hid hr2
                      clear hso hr2 hbel hLd
                      go_wp2
                      go_loopw [14] (fun s14 wx => ∃ e : Nat, a + b2 + e ≤ d + 1 ∧ s14 = .int .i64 e ∧ Pl.orE (Pl.srch (Pl.fau2c m d (Pl.pc t) a b2) (d + 1 - (a + b2) - e) e) r2 = oT ∧ Below w0.heap.size w0 wx) (fun s14 _ => d + 1 - (intOf s14).toNat)
                      case atStart => exact ⟨0, by omega, rfl, HIN.out, HX.out⟩
                      case round =>
                        clear HIN HX
                        obtain ⟨e, he, rfl, hso, hbel⟩ := hrel
                        have HX := Lib.hid hbel
                        have hLd := HND.out
                        by_cases hlte : a + b2 + e < d + 1
                        · have hgo := Pl.fau2c_go hlte hso
                          have hno := Pl.fau2c_no hlte hso
                          obtain ⟨⟨g1, A1, q1, b4, o4, b5, o5, q5, e9, f1, e4, f2, f3⟩, ⟨g2, A2, q2, b6, o6, b7, o7, q7, e10, f4, e6, f5, f6⟩⟩ := HNM.out a b2 e wr (by omega) hbel
                          subst e9 e4 e10 e6
                          obtain ⟨X, hX⟩ : ∃ X, Pl.br m d (Pl.pc t) a b2 e = X := ⟨_, rfl⟩
                          obtain ⟨Y, hY⟩ : ∃ Y, Pl.br m d (Pl.pc t) e b2 a = Y := ⟨_, rfl⟩
                          rw [hX, hY] at hgo hno
                          rw [hX] at f3
                          rw [hY] at f6
                          obtain ⟨D, hD⟩ : ∃ D, d + 1 = D := ⟨_, rfl⟩
                          obtain ⟨M1, hM1⟩ : ∃ M, d - a + 1 = M := ⟨_, rfl⟩
                          obtain ⟨M2, hM2⟩ : ∃ M, d - b2 + 1 = M := ⟨_, rfl⟩
                          have j4 : (a : Int) + (b2 : Int) + (e : Int) < (n : Int) := by omega
                          have j5 : (0 : Int) ≤ (e : Int) := by omega
                          have j6 : (e : Int) < (n : Int) := by omega
                          have j7 : (a : Int) < (D : Int) := by omega
                          have j8 : (b2 : Int) < (M1 : Int) := by omega
                          have j9 : (b2 : Int) < (D : Int) := by omega
                          have j10 : (e : Int) < (M2 : Int) := by omega
                          have he10 : e ≤ 10 := by omega
                          rw [hD] at f1 f4
                          rw [hM1] at f2
                          rw [hM2] at f5
                          clear hso hbel hLd hX hY hD hM1 hM2 he
                          by_cases hxy : X = Y
                          · have HNX := Lib.hid (hgo hxy)
                            subst hxy
                            clear hgo hno
                            go_wp2
                            go_quiet (fail)
                            go_wp2
                            go_roundw
                            case rel => exact ⟨e + 1, by omega, by go_num, HNX.out, below_drewN HX.out _⟩
                            case measure => simp only [intOf]; omega
                          · have HNX := Lib.hid (hno hxy)
                            obtain ⟨n1, n2⟩ : (X == Y) = false ∧ (X != Y) = true := ⟨by simpa using hxy, by simpa using hxy⟩
                            clear hgo hno
                            go_wp2
                            go_quiet (fail)
                            go_wp2
                            go_ret
                            exact ⟨_, rfl, by rw [HO.out, HP0.out, HS0.out, HNX.out]; exact (OwnI.lit4 _ 2 (a : Int) (b2 : Int) (e : Int)).more (by first | exact (below_step HB.out (below_step HBE.out HX.out)).size | exact (below_drewN (below_step HB.out (below_step HBE.out HX.out)) _).size), below_step HB.out (below_alloc _ (by first | exact below_step HBE.out HX.out | exact below_drewN (below_step HBE.out HX.out) _))⟩
                        · have HNX := Lib.hid (HRR2.out.trans (Pl.fau2c_out hlte hso))
                          have j4 : ¬ (a : Int) + (b2 : Int) + (e : Int) < (n : Int) := by omega
                          have he10 : e ≤ 11 := by omega
                          clear hso hbel hLd
                          go_wp2
                          go_roundw
                          case rel => exact ⟨b2 + 1, by omega, by go_num, HNX.out, HX.out⟩
                          case measure => simp only [intOf]; omega
                    · have HNX := Lib.hid (HRR.out.trans (Pl.fau2b_out hltb hso))
                      have j4 : ¬ (a : Int) + (b2 : Int) < (n : Int) := by omega
                      clear hso hbel hLd
                      go_wp2
                      go_roundw
                      case rel => exact ⟨a + 1, by omega, by go_num, HNX.out, HX.out⟩
                      case measure => simp only [intOf]; omega
                · obtain rfl : a = d + 1 := by omega
                  rw [Nat.sub_self] at hso
                  have HT0 := Lib.hid (show oT = none from hso.symm)
                  have j4 : ¬ (((d + 1 : Nat) : Int)) < (n : Int) := by omega
                  clear hso hbel hLd
                  go_wp2
                  go_ret
                  exact ⟨_, rfl, by rw [HO.out, HP0.out, HS0.out, HT0.out]; exact OwnI.nil _ _, below_step HB.out (below_step HBE.out HX.out)⟩
/-! the model's answers -/
theorem fau_isNone {m : Int} {d : Nat} {F : Nat → Nat → Int} : (decide ((((Pl.fau m d F).getD []).length : Int) = 0)) = (Pl.fau m d F).isNone := by
  cases h : Pl.fau m d F with
  | none => rfl
  | some x =>
    have := (fau_len h).1
    simp
    intro e
    subst e
    simp at this
set_option maxHeartbeats 4000000 in
set_option maxRecDepth 100000 in
theorem l04Is_any (m : Int) (A : Option Addr) (c : Nat) (t : List (List Int)) (w : World) (hz : szT t ≤ 1048576) (hr : RP w A t) :
    Calls Tryz.prog 45 #[.agg #[.int .i64 m, .slice A t.length c]] w fun e w' => e = .returned (.bool (isL m t)) ∧ Below w.heap.size w w' := by
  obtain ⟨W, hW, b1, hwb⟩ := start1 28 w m A t.length c
  have B1 := Lib.hid b1
  have HB := Lib.hid hwb
  have HW := Lib.hid hW
  have HI := Lib.hid (fun W0 (h : Below W.heap.size W W0) => l03Is_z m A c t W0 hz ((hr.below hwb).below h))
  by_cases h0 : isP m t = true
  · obtain ⟨d, e1, ok⟩ := plOk_of h0
    have HF := Lib.hid (fun W0 (h : Below W.heap.size W W0) => l04Fault_any m d A c t W0 ok ((hr.below hwb).below h))
    have HE : Hid (decide ((((Pl.fau m d (Pl.pc t)).getD []).length : Int) = 0) = isL m t) := Lib.hid (by rw [isL_fau h0 e1]; exact fau_isNone)
    have HLE : Hid (((Pl.fau m d (Pl.pc t)).getD []).length ≤ 4) := Lib.hid (by
      cases h : Pl.fau m d (Pl.pc t) with
      | none => simp
      | some x => exact (fau_len h).2)
    rw [h0] at HI
    obtain ⟨o, ho⟩ : ∃ o, (Pl.fau m d (Pl.pc t)).getD [] = o := ⟨_, rfl⟩
    rw [ho] at HF HE HLE
    obtain ⟨R, hR⟩ : ∃ R, isL m t = R := ⟨_, rfl⟩
    rw [hR] at HE ⊢
    obtain ⟨L, hL⟩ : ∃ L, t.length = L := ⟨_, rfl⟩
    rw [hL] at HF HI HW B1 ⊢
    obtain ⟨n, hn⟩ : ∃ n, o.length = n := ⟨_, rfl⟩
    rw [hn] at HE HLE
    have HN := Lib.hid hn
    clear b1 hwb hW hr h0 ok e1 hz hL ho hR hn
    go_enter Tryz.func45, Tryz.ntmps45
    go_wp2_with fail
    rw [HW.out]
    refine (HI.out _ (Below.refl _ _)).mono ?_
    rintro e w1 ⟨rfl, hb1⟩
    obtain ⟨x1, x2, x3⟩ := B1.out.keep hb1
    go_wp2_with fail
    refine (HF.out _ hb1).mono ?_
    rintro e w3 ⟨v, rfl, hf, hb3⟩
    have HB3 := Lib.hid (below_step HB.out (below_step hb1 hb3))
    obtain ⟨A3, c3, rfl, -⟩ := hf.form
    rw [HN.out]
    clear hb1 hb3 x1 x2 x3 hf
    by_cases hn0 : n = 0
    · subst hn0
      have HR : Hid (R = true) := Lib.hid (by rw [← HE.out]; rfl)
      go_wp2
      go_ret
      exact ⟨ret_bool HR.out.symm, HB3.out⟩
    · have hn1 : ¬ (n : Int) = 0 := by omega
      have HR : Hid (R = false) := Lib.hid (by rw [← HE.out]; exact decide_eq_false hn1)
      obtain ⟨n1, n2⟩ := ne_facts hn1
      go_wp2
      go_ret
      exact ⟨ret_bool HR.out.symm, HB3.out⟩
  · have h0' : isP m t = false := by simpa using h0
    rw [isL_no h0']
    rw [h0'] at HI
    obtain ⟨L, hL⟩ : ∃ L, t.length = L := ⟨_, rfl⟩
    rw [hL] at HI HW B1 ⊢
    clear b1 hwb hW hr h0 h0' hz hL
    go_enter Tryz.func45, Tryz.ntmps45
    go_wp2_with fail
    rw [HW.out]
    refine (HI.out _ (Below.refl _ _)).mono ?_
    rintro e w1 ⟨rfl, hb1⟩
    go_wp2
    go_ret
    exact ⟨rfl, below_step HB.out hb1⟩
end Go.Proofs.YtfhdgcndiljjcaaGreatDoor

/- Contracts of CutSeries, of the program and of the model. -/
namespace Go.Proofs.YtfhdgcndiljjcaaGreatDoor
open Go.RowKit Go.WideShapes Go.ChangeShapes Go.ChangeAt

def cutM (m : Int) (l : List Int) (k : Int) : Int × List Int × Int :=
  if isS m l = true then (if inB k 1 ((l.length : Int) - 1) = true then (m, l.take (k.toNat + 1), 0) else (0, [], 2)) else (0, [], 1)
theorem cutM_len (m : Int) (l : List Int) (k : Int) : (cutM m l k).2.1.length ≤ 1048576 := by
  unfold cutM
  split
  · rename_i h
    obtain ⟨d, e, s⟩ := serOk_of h
    have := s.d2
    split
    · dsimp only; rw [List.length_take]; omega
    · simp
  · simp
theorem RI.take {w : World} {A : Option Addr} {l : List Int} (h : RI w A l) (n : Nat) : RI w A (l.take n) := by
  intro hl
  have hl2 : l ≠ [] := by rintro rfl; simp at hl
  obtain ⟨b, off, e, hlt, hc⟩ := h hl2
  refine ⟨b, off, e, hlt, fun k hk => ?_⟩
  rw [List.length_take] at hk
  rw [hc k (by omega), List.getElem?_take_of_lt (by omega)]

theorem OwnI.cap {w : World} {base : Nat} {A : Option Addr} {n c : Nat} {l : List Int} (h : OwnI w base (.slice A n c) l) : l.length ≤ c := by
  unfold OwnI at h
  rcases h.2 with ⟨hv, h0⟩ | ⟨g, cap, cur, hv, _, _, h1, _⟩
  · omega
  · injection hv with _ _ e
    subst e
    exact h1
theorem RI.news {w : World} {A : Option Addr} {l : List Int} (h : RI w A l) (hl : l ≠ []) : ∃ b off, A = some ⟨b, off, none⟩ ∧ ∀ j u, (l.map (Value.int .i64))[j]? = some u → w.cell? ((⟨b, off, none⟩ : Addr).add j) = some u := by
  obtain ⟨b, off, e, hlt, hc⟩ := h hl
  refine ⟨b, off, e, fun j u hj => ?_⟩
  rw [List.getElem?_map] at hj
  by_cases hjl : j < l.length
  · rw [List.getElem?_eq_getElem hjl] at hj
    simp only [Option.map_some, Option.some.injEq] at hj
    subst hj
    rw [add_plain, hc j hjl, List.getElem?_eq_getElem hjl]; rfl
  · rw [List.getElem?_eq_none (by omega)] at hj
    simp at hj
theorem cells1 (l : List Int) : ∀ v ∈ l.map (Value.int .i64), v.oneCell' = true := by
  intro v hv
  obtain ⟨x, _, rfl⟩ := List.mem_map.1 hv
  rfl

end Go.Proofs.YtfhdgcndiljjcaaGreatDoor

/- Contracts of RowOfPlane, of the program and of the model. -/
namespace Go.Proofs.YtfhdgcndiljjcaaGreatDoor
open Go.RowKit Go.WideShapes Go.ChangeShapes Go.ChangeAt

theorem kp3_call {w w' : World} {a1 a2 a3 : Addr} {x y z : Value} (hb : Below w.heap.size w w') (hs : w.cell? a1 = some x ∧ w.cell? a2 = some y ∧ w.cell? a3 = some z) : w'.cell? a1 = some x ∧ w'.cell? a2 = some y ∧ w'.cell? a3 = some z :=
  ⟨(hb.cell (World.block_lt_of_cell? w a1 hs.1)).trans hs.1, (hb.cell (World.block_lt_of_cell? w a2 hs.2.1)).trans hs.2.1, (hb.cell (World.block_lt_of_cell? w a3 hs.2.2)).trans hs.2.2⟩
theorem kp3_store2 {w : World} {a1 a2 a3 : Addr} {g : Nat} {x y z u v : Value} (h1 : a1.block ≠ g) (h2 : a2.block ≠ g) (h3 : a3.block ≠ g) (hs : w.cell? a1 = some x ∧ w.cell? a2 = some y ∧ w.cell? a3 = some z) :
    ((w.setCell ⟨g, 0, none⟩ u).setCell ⟨g, 1, none⟩ v).cell? a1 = some x ∧ ((w.setCell ⟨g, 0, none⟩ u).setCell ⟨g, 1, none⟩ v).cell? a2 = some y ∧ ((w.setCell ⟨g, 0, none⟩ u).setCell ⟨g, 1, none⟩ v).cell? a3 = some z := by
  have k : ∀ (a : Addr), a.block ≠ g → ((w.setCell ⟨g, 0, none⟩ u).setCell ⟨g, 1, none⟩ v).heap[a.block]? = w.heap[a.block]? := fun a ha => (Below.heap_setCell _ _ _ _ ha).trans (Below.heap_setCell _ _ _ _ ha)
  exact ⟨(World.cell?_of_block (w := w) (k a1 h1)).trans hs.1, (World.cell?_of_block (w := w) (k a2 h2)).trans hs.2.1, (World.cell?_of_block (w := w) (k a3 h3)).trans hs.2.2⟩
/-- the model of RowOfPlane -/
def rowP (m : Int) (t : List (List Int)) (i : Int) : Int × List Int × Int :=
  if isP m t = true then (if inB i 0 ((t.length : Int) - 1 - 1) = true then (m, Pl.rw' t i.toNat, 0) else (0, [], 2)) else (0, [], 1)
theorem rowP_len (m : Int) (t : List (List Int)) (i : Int) : (rowP m t i).2.1.length ≤ 1048576 := by
  unfold rowP
  by_cases h : isP m t = true
  · rw [if_pos h]
    obtain ⟨d, e, ok⟩ := plOk_of h
    by_cases hi : inB i 0 ((t.length : Int) - 1 - 1) = true
    · rw [if_pos hi]
      have := (inB_iff _ _ _).1 hi
      have := ok.row i.toNat (by omega)
      have := ok.d2
      dsimp only
      omega
    · rw [if_neg hi]; exact Nat.zero_le _
  · rw [if_neg h]; exact Nat.zero_le _
theorem spro1S (w : World) (m : Int) (A : Option Addr) (n c : Nat) : ∃ W, (w.alloc (.cells #[.int .i64 m, .slice A n c] 28)).alloc (.cells #[.int .i64 0, .slice none 0 0] 71) = W ∧
    Box W w.heap.size m A n c ∧ VarC 71 W (w.heap.size + 1) #[.int .i64 0, .slice none 0 0] ∧ Below w.heap.size w W := by
  refine ⟨_, rfl, (Box.newT _ _ _ _ _ _).keep (below_one _ _), ?_, below_alloc _ (below_one _ _)⟩
  have := VarC.new 71 (w.alloc (.cells #[.int .i64 m, .slice A n c] 28)) #[.int .i64 0, .slice none 0 0]
  simpa using this
end Go.Proofs.YtfhdgcndiljjcaaGreatDoor

/- Contracts of InverseOfLaw, of the program and of the model. -/
namespace Go.Proofs.YtfhdgcndiljjcaaGreatDoor
open Go.RowKit Go.WideShapes Go.ChangeShapes Go.ChangeAt

theorem lin_listP (m : Int) (d : Nat) (m1 : 2 ≤ m) (d1 : 1 ≤ d) : (List.replicate (d + 1) (0 : Int)).set 1 1 = Pl.lin m d 1 := by
  refine Ser.list_ext (by simp [Pl.lin, Ser.cut_length]) (fun i hi => ?_)
  rw [List.length_set, List.length_replicate] at hi
  rw [Ser.co_set (by simp; omega), Pl.lin, Ser.co_cut (by omega), Ser.co_zeros]
  unfold Ser.mon
  by_cases h : i = 1
  · rw [if_pos h, Int.emod_eq_of_lt (by omega) (by omega)]
  · rw [if_neg h, Int.zero_emod]
theorem putL_red {m : Int} (hm : 0 < m) (d : Nat) (F : Nat → Nat → Int) (a b : List Int) : Ser.Red m (Pl.putL m d F a b) := Ser.cut_red hm _ _
theorem made_two (w : World) (n : Nat) (hn : n ≤ maxLen) :
    let w' := ((w.alloc (.cells (madeCells #[.int .i64 0] n) 2)).alloc (.cells (madeCells #[.int .i64 0] n) 2)).drew
    OwnI w' w.heap.size (.slice (some ⟨w.heap.size, 0, none⟩) n n) (List.replicate n 0) ∧ OwnI w' w.heap.size (.slice (some ⟨w.heap.size + 1, 0, none⟩) n n) (List.replicate n 0) ∧ Below w.heap.size w w' := by
  have h2 := OwnI.made (w.alloc (.cells (madeCells #[.int .i64 0] n) 2)) n hn
  have e : (w.alloc (.cells (madeCells #[.int .i64 0] n) 2)).heap.size = w.heap.size + 1 := by simp
  rw [e] at h2
  exact ⟨((OwnI.made w n hn).alloc _).drew, (h2.more (by omega)).drew, below_step (below_alloc _ (below_one w _)) (below_drew0 _)⟩
set_option maxHeartbeats 8000000 in
set_option maxRecDepth 100000 in
theorem l04Inverse_any (m : Int) (d : Nat) (A : Option Addr) (c : Nat) (t : List (List Int)) (w : World) (hs : Pl.Ok m d t) (hr : RP w A t) :
    Calls Tryz.prog 90 #[.agg #[.int .i64 m, .slice A t.length c]] w fun e w' => ∃ v, e = .returned v ∧ OwnI w' w.heap.size v (Pl.invS m d (Pl.pc t) d) ∧ Below w.heap.size w w' := by
  obtain ⟨W, hW, b1, hwb⟩ := start1 28 w m A t.length c
  have B1 := Lib.hid b1
  have HB := Lib.hid hwb
  have HW := Lib.hid hW
  have m1 := hs.m1
  have m2 := hs.m2
  have hd1 := hs.d1
  have hd2 := hs.d2
  have HPU := Lib.hid (fun (k : Nat) (A1 : Option Addr) (c1 : Nat) (A2 : Option Addr) (c2 : Nat) (W0 : World) (h : Below W.heap.size W W0) (h1 : RI W0 A1 (Pl.lin m d 1)) (h2 : RI W0 A2 (Pl.invS m d (Pl.pc t) k)) => by
    have := l03Put_any m d A c t A1 c1 (Pl.lin m d 1) A2 c2 (Pl.invS m d (Pl.pc t) k) W0 hs (Pl.lin_ok m1 m2 hd1 hd2 1) ⟨m1, m2, hd1, hd2, Pl.invS_length _ _ _ _, Pl.invS_red (by omega) _ _ _⟩ ((hr.below hwb).below h) h1 h2
    rw [show (Pl.lin m d 1).length = d + 1 from Ser.cut_length _ _ _, Pl.invS_length] at this
    exact this)
  have hmk : ∀ W : World, (Instr.makeSlice 32 (.int .i64 ((d : Int) + 1)) (.int .i64 ((d : Int) + 1))).run Tryz.prog W = .ok (.slice (some ⟨W.heap.size, 0, none⟩) (d + 1) (d + 1)) (W.alloc (.cells (madeCells #[.int .i64 0] (d + 1)) 2)) := by
    intro W
    have := run_make_row' (P := Tryz.prog) 32 2 (.int .i64 0) 8 Tryz.underlying32 info64 rfl .i64 .i64 (d + 1) (by omega) (by omega) W
    rwa [show ((d + 1 : Nat) : Int) = (d : Int) + 1 by omega] at this
  obtain ⟨F, hF⟩ : ∃ F, Pl.pc t = F := ⟨_, rfl⟩
  rw [hF] at HPU ⊢
  obtain ⟨L, hL⟩ : ∃ L, t.length = L := ⟨_, rfl⟩
  have hLd : (L : Int) - 1 = (d : Int) := by have := hs.len; omega
  have hLb : L ≤ 11 := by omega
  rw [hL] at HPU HW B1 ⊢
  obtain ⟨x1, x2, x3⟩ := B1.out
  clear b1 hwb hW hr hs hF hL
  go_enter Tryz.func90, Tryz.ntmps90
  go_wp2_with fail
  rw [HW.out]
  go_upto_region 2 with fail
  go_cut [4, 5] (fun s4 s5 wx => ∃ g g' : Nat, s4 = .slice (some ⟨g, 0, none⟩) (d + 1) (d + 1) ∧ s5 = .slice (some ⟨g', 0, none⟩) (d + 1) (d + 1) ∧ g ≠ g' ∧ OwnI wx W.heap.size s4 (List.replicate (d + 1) 0) ∧ OwnI wx W.heap.size s5 (List.replicate (d + 1) 0) ∧ Below W.heap.size W wx)
  case first =>
    go_region
    all_goals
      go_wp2
      go_meet
      case rel =>
        first
          | exact ⟨_, _, rfl, rfl, by omega, (made_two W (d + 1) (by unfold maxLen; omega)).1, (made_two W (d + 1) (by unfold maxLen; omega)).2.1, (made_two W (d + 1) (by unfold maxLen; omega)).2.2⟩
          | exact ⟨_, _, rfl, rfl, by omega, (made_two W (d + 1) (by unfold maxLen; omega)).2.1, (made_two W (d + 1) (by unfold maxLen; omega)).1, (made_two W (d + 1) (by unfold maxLen; omega)).2.2⟩
  case rest =>
    clear x1 x2 x3 hmk
    obtain ⟨w1, hwc⟩ : ∃ w9, w9 = wc := ⟨_, rfl⟩
    subst hwc
    obtain ⟨g, g', rfl, rfl, hgg, hO, hT, hb1⟩ := hcut
    obtain ⟨-, -, o3, o4⟩ := hT.cells
    have q1 := o3 1 (by simp; omega)
    have q2 := o4 1
    have q3 : (List.replicate (d + 1) (0 : Int))[1]?.getD 0 = 0 := by rw [List.getElem?_replicate]; split <;> rfl
    rw [q3] at q1
    have hset := hT.set 1 1
    rw [lin_listP m d m1 hd1] at hset
    have hg1 := hT.cells.1
    have HO := Lib.hid (hO.other (grown_setCell w1 g' 1 (.int .i64 1)) (.inr (by simpa [Value.ownBlock] using hgg)))
    have HT := Lib.hid hset
    have HB1 := Lib.hid (hb1.setCell (p := ⟨g', 1, none⟩) hg1 (.int .i64 1))
    have HGG := Lib.hid hgg
    have HG0 := Lib.hid hO.cells.1
    have z2 : (1 : Int) < (d : Int) + 1 := by omega
    have z3 : 1 < d + 1 := by omega
    clear hO hT hb1 o3 o4 q3 hset hg1 hgg
    obtain ⟨X, hX⟩ : ∃ X, w1.setCell ⟨g', 1, none⟩ (.int .i64 1) = X := ⟨_, rfl⟩
    rw [hX] at HO HT HB1
    have HX := Lib.hid hX
    clear hX
    go_wp2
    rw [HX.out]
    clear q1 q2 z2 z3 HX
    go_loopw [6, 7] (fun s6 _ wr => ∃ N k : Nat, N = k + 1 ∧ k ≤ d ∧ s6 = .int .i64 N ∧ OwnI wr W.heap.size (.slice (some ⟨g, 0, none⟩) (d + 1) (d + 1)) (Pl.invS m d F k) ∧ OwnI wr W.heap.size (.slice (some ⟨g', 0, none⟩) (d + 1) (d + 1)) (Pl.lin m d 1) ∧ Below W.heap.size W wr) (fun s6 _ _ => d + 2 - (intOf s6).toNat)
    case atStart => exact ⟨1, 0, rfl, Nat.zero_le _, rfl, HO.out, HT.out, HB1.out⟩
    case round =>
      clear HO HT HB1
      obtain ⟨N, k, hN, hk, rfl, own, tt, hbl⟩ := hrel
      have OW := Lib.hid own
      have TT := Lib.hid tt
      have HBE := Lib.hid hbl
      clear own tt hbl
      by_cases hlt : N ≤ d
      · have hlt2 : (N : Int) ≤ (d : Int) := by omega
        have HT1 := Lib.hid (HPU.out k (some ⟨g', 0, none⟩) (d + 1) (some ⟨g, 0, none⟩) (d + 1) wr HBE.out TT.out.ri OW.out.ri)
        have hst : (Pl.invS m d F k).set N ((m - Ser.co (Pl.putL m d F (Pl.lin m d 1) (Pl.invS m d F k)) N) % m) = Pl.invS m d F (k + 1) := by rw [hN]; rfl
        have hll : (Pl.putL m d F (Pl.lin m d 1) (Pl.invS m d F k)).length = d + 1 := Pl.putL_length _ _ _ _ _
        obtain ⟨hT1, hT2⟩ := putL_red (m := m) (by omega) d F (Pl.lin m d 1) (Pl.invS m d F k) N
        obtain ⟨L3, hL3⟩ : ∃ L3, Pl.putL m d F (Pl.lin m d 1) (Pl.invS m d F k) = L3 := ⟨_, rfl⟩
        rw [hL3] at HT1 hst hll hT1 hT2
        obtain ⟨T, hT⟩ : ∃ T, Ser.co L3 N = T := ⟨_, rfl⟩
        rw [hT] at hst hT1 hT2
        obtain ⟨V, hV⟩ : ∃ V, m - T = V := ⟨_, rfl⟩
        rw [hV] at hst
        have hm0 : ¬ m = 0 := by omega
        have p1 : 0 ≤ V := by omega
        have w1 : IntKind.i64.wrap V = V := by rw [IntKind.wrap_i64]; omega
        have hLo := Pl.invS_length m d F k
        obtain ⟨x1, x2, -⟩ := B1.out.keep HBE.out
        have HNN := Lib.hid hN
        have HST := Lib.hid hst
        have HTT := Lib.hid hT
        clear hst hL3 hT hN
        go_wp2_with fail
        refine HT1.out.mono ?_
        rintro e w3 ⟨s3, rfl, ho3, hb3⟩
        obtain ⟨A3, c3, rfl, r3⟩ := ho3.form
        rw [hll]
        obtain ⟨b, off, hA3, hb, hc⟩ := r3.at N (by omega)
        subst hA3
        rw [HTT.out] at hc
        have ow := OW.out.keep hb3
        have ot := TT.out.keep hb3
        clear x1 x2
        obtain ⟨x1, x2, -⟩ := B1.out.keep (below_step HBE.out hb3)
        obtain ⟨hg1, -, o3, o4⟩ := ow.cells
        have d1 := o3 N (by omega)
        have f1 := o4 N
        have hset := ow.set N (V % m)
        rw [HST.out] at hset
        have HSE := Lib.hid hset
        have HTE := Lib.hid (ot.other (grown_setCell w3 g N (.int .i64 (V % m))) (.inr (by simpa [Value.ownBlock] using HGG.out.symm)))
        have HB3 := Lib.hid ((below_step HBE.out hb3).setCell (p := ⟨g, N, none⟩) hg1 (.int .i64 (V % m)))
        have hx0 : g ≠ w.heap.size := by have := HG0.out; have := B1.out.2.2; omega
        have j0 : (0 : Int) ≤ (N : Int) := by omega
        have j1 : (N : Int) < ((d + 1 : Nat) : Int) := by omega
        have j2 : (N : Int) < (d : Int) + 1 := by omega
        have j3 : N < d + 1 := by omega
        clear ho3 hb3 r3 ow ot o3 o4 hset hb hg1
        go_wp2
        go_region
        all_goals
          go_wp2
          go_roundw
          case rel => exact ⟨N + 1, k + 1, by have := HNN.out; omega, by have := HNN.out; omega, by first | rfl | go_num, HSE.out.drew, HTE.out.drew, below_step HB3.out (below_drew0 _)⟩
          case measure => simp only [intOf]; omega
      · have hlt2 : ¬ (N : Int) ≤ (d : Int) := by omega
        obtain rfl : d = k := by omega
        have HO9 := Lib.hid (OW.out.more (b' := w.heap.size) HB.out.size)
        have HB9 := Lib.hid (below_step HB.out HBE.out)
        clear hN hlt
        go_wp2
        go_ret
        exact ⟨_, rfl, HO9.out, HB9.out⟩
/-- the model of InverseOfLaw -/
def invL (m : Int) (t : List (List Int)) : Int × List Int × Int := if isL m t = true then (m, Pl.invP m (t.length - 1) (Pl.pc t) (t.length - 1), 0) else (0, [], 1)
theorem invL_len (m : Int) (t : List (List Int)) : (invL m t).2.1.length ≤ 1048576 := by
  unfold invL
  by_cases h : isL m t = true
  · rw [if_pos h]
    obtain ⟨-, d, e, ok, -⟩ := isL_of h
    have := ok.d2
    dsimp only
    rw [Pl.invP_length]; omega
  · rw [if_neg h]; exact Nat.zero_le _
end Go.Proofs.YtfhdgcndiljjcaaGreatDoor

/- Contracts of ComposeSeries, of the model. -/
namespace Go.Proofs.YtfhdgcndiljjcaaGreatDoor
open Go.RowKit Go.WideShapes Go.ChangeShapes Go.ChangeAt

set_option maxHeartbeats 8000000 in
set_option maxRecDepth 100000 in
theorem l02Compose_any (m : Int) (D : Nat) (A : Option Addr) (c : Nat) (l : List Int) (A' : Option Addr) (c' : Nat) (l' : List Int) (w : World) (m1 : 2 ≤ m) (m2 : m ≤ 10000) (hD : D ≤ 1000) (hl : D + 1 ≤ l.length) (hl2 : l.length ≤ 1000) (hl' : l'.length ≤ 1000) (hs : Ser.Red m l) (hs' : Ser.Red m l') (hz : Ser.co l' 0 = 0) (hr : RI w A l) (hr' : RI w A' l') :
    Calls Tryz.prog 89 #[.int .i64 m, .slice A l.length c, .slice A' l'.length c', .int .i64 D] w fun e w' => ∃ v, e = .returned v ∧ OwnI w' w.heap.size v (Ser.horC m D (Ser.co l) (Ser.co l') (D + 1)) ∧ Below w.heap.size w w' := by
  have HS := Lib.hid hs
  have HS' := Lib.hid hs'
  have HR := Lib.hid hr
  have HR' := Lib.hid hr'
  have HZ := Lib.hid hz
  have hm0 : ¬ m = 0 := by omega
  have hmk : ∀ W : World, (Instr.makeSlice 32 (.int .i64 ((D : Int) + 1)) (.int .i64 ((D : Int) + 1))).run Tryz.prog W = .ok (.slice (some ⟨W.heap.size, 0, none⟩) (D + 1) (D + 1)) (W.alloc (.cells (madeCells #[.int .i64 0] (D + 1)) 2)) := by
    intro W
    have := run_make_row' (P := Tryz.prog) 32 2 (.int .i64 0) 8 Tryz.underlying32 info64 rfl .i64 .i64 (D + 1) (by omega) (by omega) W
    rwa [show ((D + 1 : Nat) : Int) = (D : Int) + 1 by omega] at this
  have HO0 := Lib.hid (OwnI.made w (D + 1) (by unfold maxLen; omega))
  clear hs hs' hr hr' hz
  go_enter Tryz.func89, Tryz.ntmps89
  go_wp2
  all_goals
    go_loopw [9, 10] (fun s9 s10 wr => ∃ (j t : Nat) (I : Int), j + t = D + 1 ∧ I = (t : Int) - 1 ∧ s10 = .int .i64 I ∧ OwnI wr w.heap.size s9 (Ser.horC m D (Ser.co l) (Ser.co l') j) ∧ Below w.heap.size w wr) (fun _ s10 _ => (intOf s10 + 1).toNat)
    case atStart => exact ⟨0, D + 1, _, by omega, by omega, rfl, HO0.out, below_one _ _⟩
    case round =>
      obtain ⟨j, t, I, hjt, hI, rfl, own, hbl⟩ := hrel
      have OW := Lib.hid own
      have HB := Lib.hid hbl
      clear own hbl hmk HO0
      rcases t with _ | i
      · obtain rfl : j = D + 1 := by omega
        obtain rfl : I = -1 := by omega
        clear hI hjt
        go_wp2
        go_ret
        exact ⟨_, rfl, OW.out, HB.out⟩
      · obtain rfl : I = (i : Int) := by omega
        clear hI
        obtain ⟨A1, c1, rfl, r1⟩ := OW.out.form
        have hred := Ser.horC_red (m := m) (by omega) D (Ser.co l) (Ser.co l') HS.out j
        have ht := l02Times_any m D A1 c1 _ A' c' l' wr m1 m2 hD (by rw [Ser.horC_length]; omega) hl' hred HS'.out r1 (HR'.out.below HB.out)
        have HT := Lib.hid ht
        obtain ⟨L3, hL3⟩ : ∃ L3, Ser.mulL m D (Ser.horC m D (Ser.co l) (Ser.co l') j) l' = L3 := ⟨_, rfl⟩
        have hlen3 : L3.length = D + 1 := by rw [← hL3, Ser.mulL_length]
        have h30 : L3[0]?.getD 0 = 0 := by
          have : Ser.co L3 0 = 0 := by rw [← hL3]; unfold Ser.mulL; rw [Ser.co_cut (Nat.zero_le _), Ser.mul_at, Ser.cv_zero, HZ.out, Int.mul_zero, Int.zero_emod]
          exact this
        rw [hL3] at HT
        have hst : L3.set 0 (Ser.co l i) = Ser.horC m D (Ser.co l) (Ser.co l') (j + 1) := by
          rw [← hL3]
          have e : D - j = i := by omega
          show (Ser.cut m D (Ser.mul (Ser.co (Ser.horC m D (Ser.co l) (Ser.co l') j)) (Ser.co l'))).set 0 (Ser.co l i) = (Ser.cut m D (Ser.mul (Ser.co (Ser.horC m D (Ser.co l) (Ser.co l') j)) (Ser.co l'))).set 0 (Ser.co l (D - j))
          rw [e]
        clear ht hL3 r1 hred
        go_wp2_with fail
        refine HT.out.mono ?_
        rintro e w3 ⟨s3, rfl, ho3, hb3⟩
        obtain ⟨g3, c3, rfl⟩ := ho3.openv (by intro h; rw [h] at hlen3; simp at hlen3)
        have hb9 := below_step HB.out hb3
        obtain ⟨b, off, rfl, hbb, hci⟩ := (HR.out.below hb9).at i (by omega)
        obtain ⟨Z, hZ⟩ : ∃ Z, Ser.co l i = Z := ⟨_, rfl⟩
        obtain ⟨zz1, zz2⟩ := HS.out i
        rw [hZ] at hci hst zz1 zz2
        rw [hlen3] at ho3 ⊢
        obtain ⟨-, -, o3, o4⟩ := ho3.cells
        have d1 := o3 0 (by omega)
        rw [h30] at d1
        have f1 := o4 0
        have hset := ho3.set 0 Z
        rw [hst] at hset
        have hg3 := (ho3.lt g3 rfl).1
        have hwr := HB.out.size
        have HSET := Lib.hid (hset.more hwr)
        have BX := Lib.hid (hb9.setCell (p := ⟨g3, 0, none⟩) (by show w.heap.size ≤ g3; omega) (.int .i64 Z)).drew
        have hzm : Z % m = Z := Int.emod_eq_of_lt zz1 zz2
        have hzm2 : Z.tmod m = Z := by rw [Int.tmod_eq_emod_of_nonneg zz1]; exact hzm
        have w0 : (0 : Int) + Z = Z := Int.zero_add _
        have w1 : IntKind.i64.wrap Z = Z := by rw [IntKind.wrap_i64]; omega
        have j0 : (0 : Int) ≤ (i : Int) := by omega
        have j1 : (i : Int) < (l.length : Int) := by omega
        have j2 : (0 : Int) < (D : Int) + 1 := by omega
        clear ho3 hb3 hb9 hZ hst o3 o4 hset h30
        go_wp2
        go_still_tail 12, (by kernel_rfl)
        change wpList _ _ _ _ _ w3.drew
        go_wp2
        go_roundw
        case rel => exact ⟨j + 1, i, _, by omega, rfl, by first | rfl | go_num, HSET.out, BX.out⟩
        case measure => simp only [intOf]; omega

theorem l02Compose_ok (m : Int) (d : Nat) (A : Option Addr) (c : Nat) (l : List Int) (A' : Option Addr) (c' : Nat) (l' : List Int) (w : World) (hs : SerOk m d l) (hs' : SerOk m d l') (hz : Ser.co l' 0 = 0) (hr : RI w A l) (hr' : RI w A' l') :
    Calls Tryz.prog 89 #[.int .i64 m, .slice A l.length c, .slice A' l'.length c', .int .i64 d] w fun e w' => ∃ v, e = .returned v ∧ OwnI w' w.heap.size v (Ser.cmpL m d l l') ∧ Below w.heap.size w w' :=
  l02Compose_any m d A c l A' c' l' w hs.m1 hs.m2 (by have := hs.d2; omega) (by have := hs.len; omega) (by have := hs.len; have := hs.d2; omega) (by have := hs'.len; have := hs'.d2; omega) hs.red hs'.red hz hr hr'

end Go.Proofs.YtfhdgcndiljjcaaGreatDoor

/- What the walks of regions that draw their order keep: cells below a block. -/
namespace Go.Proofs.YtfhdgcndiljjcaaGreatDoor
open Go.RowKit Go.WideShapes Go.ChangeShapes Go.ChangeAt

/-- F holds of every world in which what lies below block B is as in W -/
theorem keepS {B : Nat} {W w w' : World} {F : World → Prop} (HF : ∀ w', Below B W w' → F w') (hB : B ≤ W.heap.size) (h : F w ∧ Below B W w) (hb : Below w.heap.size w w') : F w' ∧ Below B W w' := by
  have h2 : Below B W w' := h.2.trans (hb.mono (Nat.le_trans hB h.2.size))
  exact ⟨HF _ h2, h2⟩
theorem keepW {B : Nat} {W w' : World} {F : World → Prop} (HF : ∀ w', Below B W w' → F w') (hb : Below B W w') : F w' ∧ Below B W w' := ⟨HF _ hb, hb⟩
theorem keepA {B : Nat} {W w : World} {F : World → Prop} (HF : ∀ w', Below B W w' → F w') (hB : B ≤ W.heap.size) (o : Obj) (h : F w ∧ Below B W w) : F (w.alloc o) ∧ Below B W (w.alloc o) :=
  keepS HF hB h (below_one w o)
theorem keep2 {B : Nat} {W w : World} {F : World → Prop} (HF : ∀ w', Below B W w' → F w') {g : Nat} (hg : B ≤ g) (x y : Value) (h : F w ∧ Below B W w) : F ((w.setCell ⟨g, 0, none⟩ x).setCell ⟨g, 1, none⟩ y) ∧ Below B W ((w.setCell ⟨g, 0, none⟩ x).setCell ⟨g, 1, none⟩ y) := by
  have h2 : Below B W ((w.setCell ⟨g, 0, none⟩ x).setCell ⟨g, 1, none⟩ y) := (h.2.setCell hg x).setCell hg y
  exact ⟨HF _ h2, h2⟩
theorem keep3 {B : Nat} {W w : World} {F : World → Prop} (HF : ∀ w', Below B W w' → F w') {g : Nat} (hg : B ≤ g) (x y z : Value) (h : F w ∧ Below B W w) : F (((w.setCell ⟨g, 0, none⟩ x).setCell ⟨g, 1, none⟩ y).setCell ⟨g, 2, none⟩ z) ∧ Below B W (((w.setCell ⟨g, 0, none⟩ x).setCell ⟨g, 1, none⟩ y).setCell ⟨g, 2, none⟩ z) := by
  have h2 : Below B W (((w.setCell ⟨g, 0, none⟩ x).setCell ⟨g, 1, none⟩ y).setCell ⟨g, 2, none⟩ z) := ((h.2.setCell hg x).setCell hg y).setCell hg z
  exact ⟨HF _ h2, h2⟩
theorem below_less {B : Nat} {W w' : World} (hB : B ≤ W.heap.size) (h : Below W.heap.size W w') : Below B W w' := h.mono hB
end Go.Proofs.YtfhdgcndiljjcaaGreatDoor

/- Contract of the model's code of a law and series. -/
namespace Go.Proofs.YtfhdgcndiljjcaaGreatDoor
open Go.RowKit Go.WideShapes Go.ChangeShapes Go.ChangeAt

theorem and_mk {p q : Prop} (h : p) (k : q) : p ∧ q := ⟨h, k⟩
end Go.Proofs.YtfhdgcndiljjcaaGreatDoor

/- Contracts of SumUnder, of the program and of the model. -/
namespace Go.Proofs.YtfhdgcndiljjcaaGreatDoor
open Go.RowKit Go.WideShapes Go.ChangeShapes Go.ChangeAt

/-- the codes of a law and one or two curves -/
def codeS1 (m : Int) (t : List (List Int)) (m1 : Int) (l1 : List Int) : Int := codeLw m t [(m1, none, 0, l1)]
def codeS2 (m : Int) (t : List (List Int)) (m1 : Int) (l1 : List Int) (m2 : Int) (l2 : List Int) : Int := codeLw m t [(m1, none, 0, l1), (m2, none, 0, l2)]
theorem codeLw_zero {m : Int} {t : List (List Int)} {xs : List (Int × Option Addr × Nat × List Int)} (h : codeLw m t xs = 0) : isL m t = true ∧ allS xs = true ∧ alkS m t.length xs = true ∧ curS xs = true := by
  unfold codeLw at h
  by_cases h1 : isL m t = true
  · rw [if_pos h1] at h
    by_cases h2 : allS xs = true
    · rw [if_pos h2] at h
      by_cases h3 : alkS m t.length xs = true ∧ curS xs = true
      · exact ⟨h1, h2, h3.1, h3.2⟩
      · rw [if_neg h3] at h; exact absurd h (by decide)
    · rw [if_neg h2] at h; exact absurd h (by decide)
  · rw [if_neg h1] at h; exact absurd h (by decide)
theorem codeS1_ok {m : Int} {t : List (List Int)} {m1 : Int} {l1 : List Int} (h : codeS1 m t m1 l1 = 0) :
    isL m t = true ∧ m1 = m ∧ ∃ d, t.length = d + 1 ∧ l1.length = d + 1 ∧ Pl.Ok m d t ∧ Pl.fau m d (Pl.pc t) = none ∧ SerOk m d l1 ∧ Ser.co l1 0 = 0 := by
  obtain ⟨h0, h1, h2, h3⟩ := codeLw_zero h
  obtain ⟨-, d, e, ok, hf⟩ := isL_of h0
  unfold allS at h1
  unfold alkS at h2
  unfold curS at h3
  simp only [List.all_cons, List.all_nil, Bool.and_true, decide_eq_true_iff] at h1 h2 h3
  obtain ⟨rfl, e1⟩ := h2
  obtain ⟨d1, f1, s1⟩ := serOk_of h1
  obtain rfl : d1 = d := by omega
  exact ⟨h0, rfl, d1, e, f1, ok, hf, s1, (isC_two h3).2⟩
theorem codeS2_ok {m : Int} {t : List (List Int)} {m1 : Int} {l1 : List Int} {m2 : Int} {l2 : List Int} (h : codeS2 m t m1 l1 m2 l2 = 0) :
    isL m t = true ∧ m1 = m ∧ m2 = m ∧ ∃ d, t.length = d + 1 ∧ l1.length = d + 1 ∧ l2.length = d + 1 ∧ Pl.Ok m d t ∧ Pl.fau m d (Pl.pc t) = none ∧ SerOk m d l1 ∧ SerOk m d l2 ∧ Ser.co l1 0 = 0 ∧ Ser.co l2 0 = 0 := by
  obtain ⟨h0, h1, h2, h3⟩ := codeLw_zero h
  obtain ⟨-, d, e, ok, hf⟩ := isL_of h0
  unfold allS at h1
  unfold alkS at h2
  unfold curS at h3
  simp only [List.all_cons, List.all_nil, Bool.and_true, Bool.and_eq_true, decide_eq_true_iff] at h1 h2 h3
  obtain ⟨⟨rfl, e1⟩, rfl, e2⟩ := h2
  obtain ⟨d1, f1, s1⟩ := serOk_of h1.1
  obtain ⟨d2, f2, s2⟩ := serOk_of h1.2
  obtain rfl : d1 = d := by omega
  obtain rfl : d2 = d1 := by omega
  exact ⟨h0, rfl, rfl, d2, e, f1, f2, ok, hf, s1, s2, (isC_two h3.1).2, (isC_two h3.2).2⟩
/-- the model of SumUnder -/
def sumL (m : Int) (t : List (List Int)) (m1 : Int) (l1 : List Int) (m2 : Int) (l2 : List Int) : Int × List Int × Int :=
  if codeS2 m t m1 l1 m2 l2 = 0 then (m, Pl.putL m (t.length - 1) (Pl.pc t) l1 l2, 0) else (0, [], codeS2 m t m1 l1 m2 l2)
theorem sumL_len (m : Int) (t : List (List Int)) (m1 : Int) (l1 : List Int) (m2 : Int) (l2 : List Int) : (sumL m t m1 l1 m2 l2).2.1.length ≤ 1048576 := by
  unfold sumL
  split
  · rename_i h
    obtain ⟨_, _, _, d, e, _, _, ok, _⟩ := codeS2_ok h
    have := ok.d2
    dsimp only
    rw [Pl.putL_length]; omega
  · simp
end Go.Proofs.YtfhdgcndiljjcaaGreatDoor

/- Contracts of the opposite of a curve, of the program and of the model. -/
namespace Go.Proofs.YtfhdgcndiljjcaaGreatDoor
open Go.RowKit Go.WideShapes Go.ChangeShapes Go.ChangeAt

/-- the opposite of a curve -/
def oppC (m : Int) (d : Nat) (t : List (List Int)) (l : List Int) : List Int := Ser.cmpL m d (Pl.invS m d (Pl.pc t) d) l
theorem oppC_ok {m : Int} {d : Nat} {t : List (List Int)} {l : List Int} (hs : SerOk m d l) : SerOk m d (oppC m d t l) :=
  ⟨hs.m1, hs.m2, hs.d1, hs.d2, Ser.cmpL_length _ _ _ _, Ser.cmpL_red (by have := hs.m1; omega) d (Pl.invS_red (by have := hs.m1; omega) _ _ _) _⟩
theorem oppC_zero {m : Int} {d : Nat} {t : List (List Int)} {l : List Int} (hs : SerOk m d l) (hz : Ser.co l 0 = 0) : Ser.co (oppC m d t l) 0 = 0 := by
  have h := Ser.cmpL_eq (m := m) (d := d) (a := Pl.invS m d (Pl.pc t) d) hz 0 (Nat.zero_le _)
  rw [Ser.comp_zero, Pl.invS_curve m d (Pl.pc t) d (Nat.le_refl _), Int.zero_emod] at h
  obtain ⟨r1, r2⟩ := (oppC_ok (t := t) hs).red 0
  rwa [show Ser.cmpL m d (Pl.invS m d (Pl.pc t) d) l = oppC m d t l from rfl, Int.emod_eq_of_lt r1 r2] at h
theorem inv_okS {m : Int} {d : Nat} {t : List (List Int)} (hs : Pl.Ok m d t) : SerOk m d (Pl.invS m d (Pl.pc t) d) :=
  ⟨hs.m1, hs.m2, hs.d1, hs.d2, Pl.invS_length _ _ _ _, Pl.invS_red (by have := hs.m1; omega) _ _ _⟩
set_option maxHeartbeats 4000000 in
set_option maxRecDepth 100000 in
theorem l04Opposite_any (m : Int) (d : Nat) (A : Option Addr) (c : Nat) (t : List (List Int)) (A1 : Option Addr) (c1 : Nat) (l1 : List Int) (w : World) (hs : Pl.Ok m d t) (s1 : SerOk m d l1) (z1 : Ser.co l1 0 = 0) (hr : RP w A t) (hr1 : RI w A1 l1) :
    Calls Tryz.prog 69 #[.agg #[.int .i64 m, .slice A t.length c], .slice A1 l1.length c1] w fun e w' => ∃ v, e = .returned v ∧ OwnI w' w.heap.size v (oppC m d t l1) ∧ Below w.heap.size w w' := by
  obtain ⟨W, hW, b1, hwb⟩ := start1 28 w m A t.length c
  have B1 := Lib.hid b1
  have HB := Lib.hid hwb
  have HW := Lib.hid hW
  have hd2 := hs.d2
  have HI := Lib.hid (fun W0 (h : Below W.heap.size W W0) => l04Inverse_any m d A c t W0 hs ((hr.below hwb).below h))
  have HCM := Lib.hid (fun (A2 : Option Addr) (c2 : Nat) W0 (h : Below W.heap.size W W0) (h2 : RI W0 A2 (Pl.invS m d (Pl.pc t) d)) =>
    l02Compose_any m d A2 c2 (Pl.invS m d (Pl.pc t) d) A1 c1 l1 W0 hs.m1 hs.m2 (by omega) (by rw [Pl.invS_length]; omega) (by rw [Pl.invS_length]; omega) (by have := s1.len; omega) (Pl.invS_red (by have := hs.m1; omega) _ _ _) s1.red z1 h2 ((hr1.below hwb).below h))
  obtain ⟨R, hR⟩ : ∃ R, oppC m d t l1 = R := ⟨_, rfl⟩
  rw [show Ser.horC m d (Ser.co (Pl.invS m d (Pl.pc t) d)) (Ser.co l1) (d + 1) = R from hR] at HCM
  rw [hR]
  obtain ⟨V, hV⟩ : ∃ V, Pl.invS m d (Pl.pc t) d = V := ⟨_, rfl⟩
  rw [hV] at HI HCM
  have hn1 := s1.len
  obtain ⟨n1, hn⟩ : ∃ n, l1.length = n := ⟨_, rfl⟩
  rw [hn] at HCM hn1 ⊢
  obtain ⟨L, hL⟩ : ∃ L, t.length = L := ⟨_, rfl⟩
  rw [hL] at HI HW B1 ⊢
  obtain ⟨D, hD⟩ : ∃ D : Int, D = (d : Int) := ⟨_, rfl⟩
  rw [← hD] at HCM
  have hnb : n1 ≤ 11 := by omega
  have e1 : IntKind.i64.wrap ((n1 : Int) - 1) = D := by rw [IntKind.wrap_i64]; omega
  have hsz : w.heap.size < W.heap.size := b1.2.2
  obtain ⟨x1, x2, -⟩ := b1
  rw [hL] at x2
  have HF := Lib.hid (fun w' (h : Below W.heap.size W w') => (⟨(h.cell (p := ⟨w.heap.size, 0, none⟩) (by simp; omega)).trans x1, (h.cell (p := ⟨w.heap.size, 1, none⟩) (by simp; omega)).trans x2⟩ :
    w'.cell? ⟨w.heap.size, 0, none⟩ = some (.int .i64 m) ∧ w'.cell? ⟨w.heap.size, 1, none⟩ = some (.slice A L c)))
  have X0 := Lib.hid (keepW HF.out (below_drew0 W))
  clear hwb hW hr hr1 hs s1 z1 hV hR hn hL hn1 hD hd2 x1 x2 B1
  go_enter Tryz.func69, Tryz.ntmps69
  go_wp2
  rw [HW.out]
  go_region_held3 (fun w' => (w'.cell? ⟨w.heap.size, 0, none⟩ = some (.int .i64 m) ∧ w'.cell? ⟨w.heap.size, 1, none⟩ = some (.slice A L c)) ∧ Below W.heap.size W w') (first | exact X0.out | exact keepS HF.out (Nat.le_refl _) (by assumption) hbb | exact keepS HF.out (Nat.le_refl _) (by assumption) hba) (first
    | (go_at_call 90; with_reducible refine Calls.mono (HI.out _ (below_drew0 _)) ?_; rintro e wa ⟨va, rfl, hoa, hba⟩; obtain ⟨A2, c2, rfl, -⟩ := hoa.form)
    | (go_at_call 89; with_reducible refine Calls.mono (HCM.out _ _ _ (below_step (below_drew0 _) hba) hoa.ri) ?_; rintro e wb ⟨vb, rfl, hob, hbb⟩))
  all_goals
    have hzz := (below_step (below_drew0 W) hba).size
    have HO := Lib.hid (hob.more (b' := w.heap.size) (by omega))
    have HB9 := Lib.hid (below_step HB.out (below_step (below_step (below_drew0 _) hba) hbb))
    clear hob hoa hba hbb hzz
    go_wp2
    go_ret
    exact ⟨_, rfl, HO.out, HB9.out⟩
/-- a law's box, a series' box, a series' variable -/
theorem pro_lawSV (w : World) (m : Int) (d : Nat) (A : Option Addr) (n c : Nat) (m1 : Int) (A1 : Option Addr) (n1 c1 : Nat) :
    ∃ W, ((w.alloc (.cells #[.int .i64 m, .int .i64 d, .slice A n c] 65)).alloc (.cells #[.int .i64 m1, .slice A1 n1 c1] 71)).alloc (.cells #[.int .i64 0, .slice none 0 0] 71) = W ∧
    GBox W w.heap.size m d A n c ∧ Box W (w.heap.size + 1) m1 A1 n1 c1 ∧ VarC 71 W (w.heap.size + 1 + 1) #[.int .i64 0, .slice none 0 0] ∧ Below w.heap.size w W := by
  refine ⟨_, rfl, ((GBox.new _ _ _ _ _ _ _).keep (below_one _ _)).keep (below_one _ _), ?_, ?_, below_alloc _ (below_alloc _ (below_one _ _))⟩
  · have := (Box.newT 71 (w.alloc (.cells #[.int .i64 m, .int .i64 d, .slice A n c] 65)) m1 A1 n1 c1).keep (below_one _ (.cells #[.int .i64 0, .slice none 0 0] 71))
    simpa using this
  · have := VarC.new 71 ((w.alloc (.cells #[.int .i64 m, .int .i64 d, .slice A n c] 65)).alloc (.cells #[.int .i64 m1, .slice A1 n1 c1] 71)) #[.int .i64 0, .slice none 0 0]
    simpa using this
set_option maxHeartbeats 4000000 in
set_option maxRecDepth 100000 in
theorem opposite_any (m : Int) (d : Nat) (A : Option Addr) (c : Nat) (t : List (List Int)) (A1 : Option Addr) (c1 : Nat) (l1 : List Int) (w : World) (hs : Pl.Ok m d t) (hf : Pl.fau m d (Pl.pc t) = none) (s1 : SerOk m d l1) (hr : RP w A t) (hr1 : RI w A1 l1) :
    Calls Tryz.prog 72 #[.agg #[.int .i64 m, .int .i64 d, .slice A t.length c], .agg #[.int .i64 m, .slice A1 l1.length c1]] w fun e w' => ∃ v, e = .returned (.agg #[.int .i64 m, v]) ∧ OwnI w' w.heap.size v (oppC m d t l1) ∧ Below w.heap.size w w' := by
  obtain ⟨W, hW, b1, b2, v3, hwb⟩ := pro_lawSV w m d A t.length c m A1 l1.length c1
  have V3 := Lib.hid v3
  have HB := Lib.hid hwb
  have HW := Lib.hid hW
  have m1 := hs.m1
  have HI := Lib.hid (fun W0 (h : Below W.heap.size W W0) => by
    have := inverseL_any m d A c t W0 hs hf ((hr.below hwb).below h)
    rw [Pl.inv_same (by omega) (Pl.norm_law hf hs)] at this
    exact this)
  have HCM := Lib.hid (fun (A2 : Option Addr) (c2 : Nat) W0 (h : Below W.heap.size W W0) (h2 : RI W0 A2 (Pl.invS m d (Pl.pc t) d)) =>
    composed_any m d A2 c2 (Pl.invS m d (Pl.pc t) d) m A1 c1 l1 W0 (inv_okS hs) s1 h2 ((hr1.below hwb).below h))
  obtain ⟨R, hR⟩ : ∃ R, oppC m d t l1 = R := ⟨_, rfl⟩
  rw [show Ser.cmpL m d (Pl.invS m d (Pl.pc t) d) l1 = R from hR] at HCM
  rw [hR]
  obtain ⟨V, hV⟩ : ∃ V, Pl.invS m d (Pl.pc t) d = V := ⟨_, rfl⟩
  rw [hV] at HI HCM
  obtain ⟨n1, hn⟩ : ∃ n, l1.length = n := ⟨_, rfl⟩
  rw [hn] at HCM HW b2 ⊢
  obtain ⟨L, hL⟩ : ∃ L, t.length = L := ⟨_, rfl⟩
  rw [hL] at HI HW b1 ⊢
  have hsz : w.heap.size + 1 + 1 < W.heap.size := v3.lt
  obtain ⟨x1, x2, x3, -⟩ := b1
  obtain ⟨y1, y2, -⟩ := b2
  have HF := Lib.hid (fun w' (h : Below (w.heap.size + 1 + 1) W w') => (⟨⟨(h.cell (p := ⟨w.heap.size, 0, none⟩) (by simp; omega)).trans x1, (h.cell (p := ⟨w.heap.size, 1, none⟩) (by simp; omega)).trans x2, (h.cell (p := ⟨w.heap.size, 2, none⟩) (by simp; omega)).trans x3⟩,
      (h.cell (p := ⟨w.heap.size + 1, 0, none⟩) (by simp)).trans y1, (h.cell (p := ⟨w.heap.size + 1, 1, none⟩) (by simp)).trans y2⟩ :
    (w'.cell? ⟨w.heap.size, 0, none⟩ = some (.int .i64 m) ∧ w'.cell? ⟨w.heap.size, 1, none⟩ = some (.int .i64 d) ∧ w'.cell? ⟨w.heap.size, 2, none⟩ = some (.slice A L c)) ∧ w'.cell? ⟨w.heap.size + 1, 0, none⟩ = some (.int .i64 m) ∧ w'.cell? ⟨w.heap.size + 1, 1, none⟩ = some (.slice A1 n1 c1)))
  have X0 := Lib.hid (keepW HF.out (below_less (by omega) (below_drew0 W)))
  clear v3 hwb hW hr hr1 hs hf s1 hR hL hn hV x1 x2 x3 y1 y2
  go_enter Tryz.func72, Tryz.ntmps72
  go_wp2
  rw [HW.out]
  go_region_held3 (fun w' => ((w'.cell? ⟨w.heap.size, 0, none⟩ = some (.int .i64 m) ∧ w'.cell? ⟨w.heap.size, 1, none⟩ = some (.int .i64 d) ∧ w'.cell? ⟨w.heap.size, 2, none⟩ = some (.slice A L c)) ∧ w'.cell? ⟨w.heap.size + 1, 0, none⟩ = some (.int .i64 m) ∧ w'.cell? ⟨w.heap.size + 1, 1, none⟩ = some (.slice A1 n1 c1)) ∧ Below (w.heap.size + 1 + 1) W w') (first | exact X0.out | exact keep2 HF.out (by omega) _ _ (by assumption) | exact keepS HF.out (by omega) (by assumption) hbb | exact keepS HF.out (by omega) (by assumption) hba) (first
    | (go_at_call 95; with_reducible refine Calls.mono (HI.out _ (below_drew0 _)) ?_; rintro e wa ⟨va, rfl, hoa, hba⟩; obtain ⟨A2, c2, rfl, -⟩ := hoa.form)
    | (go_at_call 96; with_reducible refine Calls.mono (HCM.out _ _ _ (below_step (below_drew0 _) hba) hoa.ri) ?_; rintro e wb ⟨vb, rfl, hob, hbb⟩; obtain ⟨A3, c3, rfl, -⟩ := hob.form; have hv := V3.out.keep (below_step (below_step (below_drew0 W) hba) hbb); obtain ⟨q0, q1, q2, q3⟩ := hv.tells2))
  all_goals
    have hw3 := below_step (below_step (below_drew0 W) hba) hbb
    have hzz := (below_step (below_drew0 W) hba).size
    obtain ⟨f0, f1, f2, f3⟩ := fin_serC (w := w) hv hob (by omega) (by omega) (below_step HB.out hw3) (.int .i64 m) (.slice A3 R.length c3)
    have F2 := Lib.hid (OwnI.more (b' := w.heap.size) f2 (by omega))
    have F3 := Lib.hid f3
    clear f2 f3 hob hoa hba hbb hv hw3
    go_wp2
    exact bodyPost_ret (v := .agg #[.int .i64 m, .slice A3 R.length c3]) (by simp [results, Tryz.results72, go_sem, f0, f1]) rfl ⟨_, rfl, F2.out, F3.out⟩
end Go.Proofs.YtfhdgcndiljjcaaGreatDoor

