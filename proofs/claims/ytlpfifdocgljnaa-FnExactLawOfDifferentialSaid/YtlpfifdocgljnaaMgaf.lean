/- Texts of contracts, joined. -/
import Derived.Test.YtlpfifdocgljnaaMgad
import Derived.Test.YtlpfifdocgljnaaMgae
import Derived.Test.YtlpfifdocgljnaaMgac
import Derived.StillTailTactics
/- Contracts of the model's look for faults, of IsLaw and LawFault. -/
namespace Go.Proofs.Ytlpfifdocgljnaa
open Go.RowKit Go.WideShapes Go.ChangeShapes Go.ChangeAt

theorem OwnI.lit0 (w : World) : OwnI (w.alloc (.cells #[] 2)) w.heap.size (.slice (some ⟨w.heap.size, 0, none⟩) 0 0) [] :=
  ⟨rfl, .inr ⟨w.heap.size, 0, #[], rfl, Nat.le_refl _, heap_alloc_new w _, Nat.le_refl _, Nat.zero_le _, rfl, rfl⟩⟩
theorem OwnT.lit0 (w : World) (pre : List Value) (e : TypeId) : OwnT pre e (w.alloc (.cells #[] e)) w.heap.size (.slice (some ⟨w.heap.size, 0, none⟩) 0 0) [] :=
  ⟨[], rfl, ⟨by simp, .inr ⟨w.heap.size, 0, #[], rfl, Nat.le_refl _, heap_alloc_new w _, Nat.le_refl _, Nat.zero_le _, by simp, by simp⟩⟩, fun i t ht => by simp at ht⟩
/-- the first n coefficients of a column -/
def colL (t : List (List Int)) (n j : Nat) : List Int := (List.range n).map fun i => Pl.pc t i j
theorem colL_length (t : List (List Int)) (n j : Nat) : (colL t n j).length = n := by simp [colL]
theorem colL_succ (t : List (List Int)) (n j : Nat) : colL t (n + 1) j = colL t n j ++ [Pl.pc t n j] := by simp [colL, List.range_succ]
theorem colL_co (t : List (List Int)) (n j i : Nat) (h : i < n) : Ser.co (colL t n j) i = Pl.pc t i j := by
  unfold Ser.co colL
  rw [List.getElem?_map, List.getElem?_range h]; rfl
theorem colL_red {m : Int} {d : Nat} {t : List (List Int)} (hs : Pl.Ok m d t) (n j : Nat) : Ser.Red m (colL t n j) := by
  intro i
  by_cases h : i < n
  · rw [colL_co _ _ _ _ h]; exact hs.pc i j
  · have : Ser.co (colL t n j) i = 0 := by
      unfold Ser.co
      rw [List.getElem?_eq_none (by rw [colL_length]; omega)]; rfl
    rw [this]
    have := hs.m1
    omega
set_option maxHeartbeats 4000000 in
set_option maxRecDepth 100000 in
theorem l04Column_any (m : Int) (d : Nat) (A : Option Addr) (c : Nat) (t : List (List Int)) (j : Nat) (w : World) (hs : Pl.Ok m d t) (hr : RP w A t) (hj : j ≤ d) :
    Calls Try.prog 110 #[.slice A t.length c, .int .i64 j] w fun e w' => ∃ v, e = .returned v ∧ OwnI w' w.heap.size v (colL t (d + 1 - j) j) ∧ Below w.heap.size w w' := by
  have HS := Lib.hid hs
  have HR := Lib.hid hr
  have hd2 := hs.d2
  obtain ⟨n, hn⟩ : ∃ n, d + 1 - j = n := ⟨_, rfl⟩
  rw [hn]
  have HN := Lib.hid hn
  have HNJ := Lib.hid (show n + j = d + 1 by omega)
  have hn1 : n ≤ 11 := by omega
  have hj1 : j ≤ 10 := by omega
  obtain ⟨L, hL⟩ : ∃ L, t.length = L := ⟨_, rfl⟩
  have HL := Lib.hid hL
  have HLn := Lib.hid (show L = n + j by have := hs.len; omega)
  rw [hL]
  have hb0 := below_one w (.cells #[] 2)
  have HO0 := Lib.hid (OwnI.lit0 w)
  have HB0 := Lib.hid hb0
  clear hs hr hn hL hb0
  go_enter Try.func110, Try.ntmps110
  go_wp2
  go_loopw [5, 6] (fun s5 s6 wr => ∃ k : Nat, k ≤ n ∧ s6 = .int .i64 k ∧ OwnI wr w.heap.size s5 (colL t k j) ∧ Below w.heap.size w wr) (fun _ s6 _ => n - (intOf s6).toNat)
  case atStart => exact ⟨0, Nat.zero_le _, rfl, HO0.out, HB0.out⟩
  case round =>
    clear HO0 HB0
    obtain ⟨k, hk, rfl, hown, hbel⟩ := hrel
    have HB := Lib.hid hbel
    have HO := Lib.hid hown
    have hsz := hbel.size
    by_cases hlt : k < n
    · obtain ⟨b, off, b', off', c', rfl, hb, h1, hb', h2⟩ := HR.out.num k j (by rw [HL.out, HLn.out]; omega) (by rw [HS.out.row k (by have := HNJ.out; omega)]; have := HNJ.out; omega)
      have h1 := (hbel.cell (p := ⟨b, off + k, none⟩) hb).trans h1
      have h2 := (hbel.cell (p := ⟨b', off' + j, none⟩) hb').trans h2
      rw [HS.out.row k (by have := HNJ.out; omega)] at h1
      have hst := colL_succ t k j
      have HLE := Lib.hid (show (colL t k j).length ≤ 1000000000000 by rw [colL_length]; omega)
      obtain ⟨X, hX⟩ : ∃ X, Pl.pc t k j = X := ⟨_, rfl⟩
      rw [hX] at h2 hst
      have HST := Lib.hid hst
      obtain ⟨M, hM⟩ : ∃ M, d - k + 1 = M := ⟨_, rfl⟩
      have j2 : (j : Int) < (M : Int) := by have := HNJ.out; omega
      rw [hM] at h1
      have j0 : (0 : Int) ≤ (k : Int) := by omega
      have j1 : (k : Int) < (L : Int) := by have := HLn.out; omega
      have j3 : (0 : Int) ≤ (j : Int) := by omega
      have j4 : (k : Int) + (j : Int) < (L : Int) := by have := HLn.out; omega
      have hL9 : L ≤ 30 := by have := HLn.out; omega
      clear hown hbel hX hst hM
      go_wp2_with (at_builtin; refine wp_push _ _ _ (by rfl) (by rfl) Try.underlying25 w.heap.size _ _ (by rfl) HO.out X (by rfl) HLE.out hsz ?_; intro v' w1 ho1 hpb)
      have HP := Lib.hid hpb
      have HQ := Lib.hid ho1
      clear hpb ho1
      go_wp2
      go_roundw
      case rel => exact ⟨k + 1, by omega, by go_num, by rw [HST.out]; exact HQ.out, HB.out.trans HP.out⟩
      case measure => simp only [intOf]; omega
    · obtain rfl : k = n := by omega
      have j4 : ¬ (k : Int) + (j : Int) < (L : Int) := by have := HLn.out; omega
      have hL9 : L ≤ 30 := by have := HLn.out; omega
      clear hown hbel
      go_wp2
      go_ret
      exact ⟨_, rfl, HO.out, HB.out⟩

/-! the lists of tables -/
def leftT (m : Int) (d : Nat) (t : List (List Int)) (z : Nat) : List (List Int) := Pl.horq m d (colL t (d + 1 - z) z) (Pl.pc t) (d + 1 - z)
def rightT (m : Int) (d : Nat) (t : List (List Int)) (z : Nat) : List (List Int) := Pl.horq m d (Pl.rw' t z) (Pl.pc t) (d + 1 - z)
def mapT (f : Nat → List (List Int)) (n : Nat) : List (List (List Int)) := (List.range n).map f
theorem mapT_length (f : Nat → List (List Int)) (n : Nat) : (mapT f n).length = n := by simp [mapT]
theorem mapT_succ (f : Nat → List (List Int)) (n : Nat) : mapT f (n + 1) = mapT f n ++ [f n] := by simp [mapT, List.range_succ]
theorem mapT_get (f : Nat → List (List Int)) (n i : Nat) (h : i < n) : (mapT f n)[i]?.getD [] = f i := by
  unfold mapT
  rw [List.getElem?_map, List.getElem?_range h]; rfl
theorem left_br {m : Int} {d : Nat} (t : List (List Int)) (a b z : Nat) (hab : a + b ≤ d) : Pl.pc (leftT m d t z) a b = Pl.br m d (Pl.pc t) a b z := by
  have h := Pl.horq_br (m := m) (d := d) (colL t (d + 1 - z) z) (Pl.pc t) z (by rw [colL_length]) (fun i hi => colL_co _ _ _ _ (by rw [colL_length] at hi; exact hi)) a b hab
  rw [colL_length] at h
  exact h
theorem right_br {m : Int} {d : Nat} {t : List (List Int)} (hs : Pl.Ok m d t) (hy : Pl.Sym d (Pl.pc t)) (a b z : Nat) (hz : z ≤ d) (hab : a + b ≤ d) : Pl.pc (rightT m d t z) b a = Pl.br m d (Pl.pc t) a b z := by
  have hl : (Pl.rw' t z).length = d + 1 - z := by rw [hs.row z hz]; omega
  have h := Pl.horq_br' (m := m) (d := d) (Pl.rw' t z) hy z hl (fun i _ => rfl) a b hab
  rw [hl] at h
  exact h
theorem leftT_ok {m : Int} {d : Nat} {t : List (List Int)} (hs : Pl.Ok m d t) (z : Nat) : Pl.Ok m d (leftT m d t z) := Pl.horq_ok hs.m1 hs.m2 hs.d1 hs.d2 _ _ _
theorem rightT_ok {m : Int} {d : Nat} {t : List (List Int)} (hs : Pl.Ok m d t) (z : Nat) : Pl.Ok m d (rightT m d t z) := Pl.horq_ok hs.m1 hs.m2 hs.d1 hs.d2 _ _ _
theorem infoTab : (Try.prog.info? 22).map (fun i => (i.zero, i.size, i.bytes)) = some (some (.slice none 0 0), 1, 24) := by kernel_rfl
theorem tb_ne1 : (22 : TypeId) ≠ 2 := by decide
theorem tb_ne2 : (22 : TypeId) ≠ 25 := by decide
theorem OwnT.tabl {w : World} {lo : Nat} {v : Value} {ts : List (List (List Int))} (h : OwnT [] 22 w lo v ts) (i : Nat) (hi : i < ts.length) :
    ∃ g c A' c', v = .slice (some ⟨g, 0, none⟩) ts.length c ∧ g < w.heap.size ∧ w.cell? ⟨g, i, none⟩ = some (.slice A' (ts[i]?.getD []).length c') ∧ RP w A' (ts[i]?.getD []) := by
  obtain ⟨g, c, A', c', h1, h2, h3, h4, h5, h6⟩ := h.at i hi
  have e : i * (([] : List Value).length + 1) + ([] : List Value).length = i := by simp
  rw [e] at h4
  exact ⟨g, c, A', c', h1, h2, h4, h5⟩
theorem bx_in {W w' : World} {g : Nat} {m : Int} {A : Option Addr} {n c : Nat} (h : Box W g m A n c) (hb : Below W.heap.size W w') :
    (w'.cell? ⟨g, 0, none⟩ = some (.int .i64 m) ∧ w'.cell? ⟨g, 1, none⟩ = some (.slice A n c) ∧ g < w'.heap.size) ∧ Below W.heap.size W w' := ⟨h.keep hb, hb⟩
theorem bxc_in {W w' : World} {g b o : Nat} {m : Int} {A : Option Addr} {n c : Nat} {x : Value} (h : Box W g m A n c) (hc : W.cell? ⟨b, o, none⟩ = some x) (hlt : b < W.heap.size) (hb : Below W.heap.size W w') :
    (w'.cell? ⟨g, 0, none⟩ = some (.int .i64 m) ∧ w'.cell? ⟨g, 1, none⟩ = some (.slice A n c) ∧ g < w'.heap.size) ∧ w'.cell? ⟨b, o, none⟩ = some x ∧ Below W.heap.size W w' := ⟨h.keep hb, (hb.cell (p := ⟨b, o, none⟩) hlt).trans hc, hb⟩
theorem tri_num {w : World} {lo : Nat} {m : Int} {d : Nat} {t : List (List Int)} {A9 A10 : Option Addr} {n c9 c10 : Nat} (hs : Pl.Ok m d t) (hy : Pl.Sym d (Pl.pc t)) (h1 : OwnT [] 22 w lo (.slice A9 n c9) (mapT (leftT m d t) n)) (h2 : OwnT [] 22 w lo (.slice A10 n c10) (mapT (rightT m d t) n)) (hn : n = d + 1)
    (a b e : Nat) (W0 : World) (hab : a + b + e ≤ d) (h : Below w.heap.size w W0) :
    (∃ g A' c' b4 o4 b5 o5 c5, A9 = some ⟨g, 0, none⟩ ∧ W0.cell? ⟨g, e, none⟩ = some (.slice A' (d + 1) c') ∧ A' = some ⟨b4, o4, none⟩ ∧ W0.cell? ⟨b4, o4 + a, none⟩ = some (.slice (some ⟨b5, o5, none⟩) (d - a + 1) c5) ∧ W0.cell? ⟨b5, o5 + b, none⟩ = some (.int .i64 (Pl.br m d (Pl.pc t) a b e))) ∧
    (∃ g A' c' b4 o4 b5 o5 c5, A10 = some ⟨g, 0, none⟩ ∧ W0.cell? ⟨g, a, none⟩ = some (.slice A' (d + 1) c') ∧ A' = some ⟨b4, o4, none⟩ ∧ W0.cell? ⟨b4, o4 + b, none⟩ = some (.slice (some ⟨b5, o5, none⟩) (d - b + 1) c5) ∧ W0.cell? ⟨b5, o5 + e, none⟩ = some (.int .i64 (Pl.br m d (Pl.pc t) e b a))) := by
  refine ⟨?_, ?_⟩
  · obtain ⟨g, c, A', c', e0, k0, k1, k2⟩ := (h1.keep h).tabl e (by rw [mapT_length]; omega)
    rw [mapT_get _ _ _ (by omega)] at k1 k2
    have ok := leftT_ok hs e
    obtain ⟨b4, o4, b5, o5, c5, e4, -, k5, -, k6⟩ := k2.num a b (by rw [ok.len]; omega) (by rw [ok.row a (by omega)]; omega)
    rw [ok.len] at k1
    rw [ok.row a (by omega)] at k5
    rw [left_br t a b e (by omega)] at k6
    injection e0 with e0
    exact ⟨g, A', c', b4, o4, b5, o5, c5, e0, k1, e4, k5, k6⟩
  · obtain ⟨g, c, A', c', e0, k0, k1, k2⟩ := (h2.keep h).tabl a (by rw [mapT_length]; omega)
    rw [mapT_get _ _ _ (by omega)] at k1 k2
    have ok := rightT_ok hs a
    obtain ⟨b4, o4, b5, o5, c5, e4, -, k5, -, k6⟩ := k2.num b e (by rw [ok.len]; omega) (by rw [ok.row b (by omega)]; omega)
    rw [ok.len] at k1
    rw [ok.row b (by omega)] at k5
    rw [right_br hs hy e b a (by omega) (by omega)] at k6
    injection e0 with e0
    exact ⟨g, A', c', b4, o4, b5, o5, c5, e0, k1, e4, k5, k6⟩
theorem ne_turn {a b : Option Nat} (h : a = none ∨ a ≠ b) : b = none ∨ b ≠ a := by
  rcases h with h | h
  · subst h
    cases b with
    | none => exact .inl rfl
    | some x => exact .inr (fun e => by cases e)
  · exact .inr (Ne.symm h)
theorem no_pre : ∀ y, y ∈ ([] : List Value) → y.oneCell' = true := fun y hy => by simp at hy
theorem bxs_call {W w w' : World} {g : Nat} {x y : Value} (hb : Below w.heap.size w w') (h : (w.cell? ⟨g, 0, none⟩ = some x ∧ w.cell? ⟨g, 1, none⟩ = some y ∧ g < w.heap.size) ∧ Below W.heap.size W w) :
    (w'.cell? ⟨g, 0, none⟩ = some x ∧ w'.cell? ⟨g, 1, none⟩ = some y ∧ g < w'.heap.size) ∧ Below W.heap.size W w' :=
  ⟨⟨(hb.cell (p := ⟨g, 0, none⟩) h.1.2.2).trans h.1.1, (hb.cell (p := ⟨g, 1, none⟩) h.1.2.2).trans h.1.2.1, Nat.lt_of_lt_of_le h.1.2.2 hb.size⟩, below_step h.2 hb⟩
theorem bxs_push {W w w' : World} {g : Nat} {x y : Value} (hg : g < W.heap.size) (hb : Below W.heap.size w w') (h : (w.cell? ⟨g, 0, none⟩ = some x ∧ w.cell? ⟨g, 1, none⟩ = some y ∧ g < w.heap.size) ∧ Below W.heap.size W w) :
    (w'.cell? ⟨g, 0, none⟩ = some x ∧ w'.cell? ⟨g, 1, none⟩ = some y ∧ g < w'.heap.size) ∧ Below W.heap.size W w' :=
  ⟨⟨(hb.cell (p := ⟨g, 0, none⟩) hg).trans h.1.1, (hb.cell (p := ⟨g, 1, none⟩) hg).trans h.1.2.1, Nat.lt_of_lt_of_le h.1.2.2 hb.size⟩, h.2.trans hb⟩
theorem thr3 {p q r : Prop} (h : p ∧ q ∧ r) : r := h.2.2
theorem rp_num_in {W : World} {b off : Nat} {m : Int} {d : Nat} {t : List (List Int)} (hr : RP W (some ⟨b, off, none⟩) t) (hs : Pl.Ok m d t) (i j : Nat) (W0 : World) (hij : i + j ≤ d) (h : Below W.heap.size W W0) :
    ∃ b' off' c' N, N = d - i + 1 ∧ W0.cell? ⟨b, off + i, none⟩ = some (.slice (some ⟨b', off', none⟩) N c') ∧ W0.cell? ⟨b', off' + j, none⟩ = some (.int .i64 (Pl.pc t i j)) := by
  obtain ⟨b0, off0, b', off', c', e, hb, k1, hb', k2⟩ := hr.num i j (by rw [hs.len]; omega) (by rw [hs.row i (by omega)]; omega)
  injection e with e
  injection e with e1 e2
  subst e1 e2
  exact ⟨b', off', c', _, hs.row i (by omega), (h.cell (p := ⟨b, off + i, none⟩) hb).trans k1, (h.cell (p := ⟨b', off' + j, none⟩) hb').trans k2⟩
set_option maxHeartbeats 16000000 in
set_option maxRecDepth 100000 in
theorem l04Fault_any (m : Int) (d : Nat) (A : Option Addr) (c : Nat) (t : List (List Int)) (w : World) (hs : Pl.Ok m d t) (hr : RP w A t) :
    Calls Try.prog 90 #[.agg #[.int .i64 m, .slice A t.length c]] w fun e w' => ∃ v, e = .returned v ∧ OwnI w' w.heap.size v ((Pl.fau m d (Pl.pc t)).getD []) ∧ Below w.heap.size w w' := by
  obtain ⟨b, off, rfl⟩ := hr.some (by rw [hs.len]; omega)
  obtain ⟨W, hW, b1, hwb⟩ := start1 32 w m (some ⟨b, off, none⟩) t.length c
  have B1 := Lib.hid b1
  have HB := Lib.hid hwb
  have HW := Lib.hid hW
  have HS := Lib.hid hs
  have hd2 := hs.d2
  have hrW := hr.below hwb
  have HR := Lib.hid hrW
  have hnum := rp_num_in hrW hs
  have HNUM := Lib.hid hnum
  have hc := fun (j : Nat) (W0 : World) (hj : j ≤ d) (h : Below W.heap.size W W0) => l04Column_any m d (some ⟨b, off, none⟩) c t j W0 hs (hrW.below h) hj
  have ha := fun (A0 : Option Addr) (c0 : Nat) (l : List Int) (W0 : World) (hn : l.length ≤ d + 1) (hred : Ser.Red m l) (h : RI W0 A0 l) (h' : Below W.heap.size W W0) => l03AfterQ_any m d A0 c0 l (some ⟨b, off, none⟩) c t W0 hn hred hs h (hrW.below h')
  have hrows := fun (k : Nat) (hk : k ≤ d) => hrW.at k (by rw [hs.len]; omega)
  obtain ⟨o, ho⟩ : ∃ o, Pl.fau m d (Pl.pc t) = o := ⟨_, rfl⟩
  rw [ho]
  obtain ⟨oP, hoP⟩ : ∃ o, Pl.fauP d (Pl.pc t) = o := ⟨_, rfl⟩
  obtain ⟨oS, hoS⟩ : ∃ o, Pl.fauS d (Pl.pc t) = o := ⟨_, rfl⟩
  obtain ⟨oT, hoT⟩ : ∃ o, Pl.fauT m d (Pl.pc t) = o := ⟨_, rfl⟩
  have HO : Hid (o = Pl.orE oP (Pl.orE oS oT)) := Lib.hid (by rw [← ho, ← hoP, ← hoS, ← hoT]; rfl)
  have HOP := Lib.hid (show Pl.srch (Pl.fau0 (Pl.pc t)) (d + 1 - 0) 0 = oP from hoP)
  have HOS := Lib.hid (show Pl.srch (Pl.fau1 d (Pl.pc t)) (d + 1 - 0) 0 = oS from hoS)
  have HOT := Lib.hid (show Pl.srch (Pl.fau2 m d (Pl.pc t)) (d + 1 - 0) 0 = oT from hoT)
  have HSY := Lib.hid (fun (h : oS = none) => Pl.fauS_none (hoS.trans h))
  obtain ⟨L, hL⟩ : ∃ L, t.length = L := ⟨_, rfl⟩
  rw [hL] at ha hc B1 HW ⊢
  have HC := Lib.hid hc
  have HA := Lib.hid ha
  have HROWS := Lib.hid hrows
  have HLd := Lib.hid (hL.symm.trans hs.len)
  have hLb : L ≤ 11 := by have := HLd.out; omega
  obtain ⟨x1, x2, x3⟩ := B1.out
  clear b1 hwb hW hr hs hrW hnum hc ha hrows ho hoP hoS hoT hL
  go_enter Try.func90, Try.ntmps90
  go_wp2
  rw [HW.out]
  go_quiet (fail)
  go_wp2
  clear x1 x2 x3
  go_loopw [5, 6] (fun s5 _ wr => ∃ k : Nat, k ≤ L ∧ s5 = .int .i64 k ∧ Pl.srch (Pl.fau0 (Pl.pc t)) (d + 1 - k) k = oP ∧ Below W.heap.size W wr) (fun s5 _ _ => L - (intOf s5).toNat)
  case atStart => exact ⟨0, Nat.zero_le _, rfl, HOP.out, below_drewN (Below.refl _ _) _⟩
  case round =>
    clear HOP
    obtain ⟨k, hk, rfl, hso, hbel⟩ := hrel
    have HBE := Lib.hid hbel
    have hLd := HLd.out
    by_cases hlt : k < L
    · obtain ⟨b', off', c', N, hN, h1, h2⟩ := HNUM.out k 0 wr (by omega) hbel
      rw [Nat.add_zero] at h2
      have hgo := fun h => Pl.fau0_go (F := Pl.pc t) (d := d) (k := k) (by omega) hso h
      have hno := fun h => Pl.fau0_no (F := Pl.pc t) (d := d) (k := k) (by omega) hso h
      obtain ⟨X, hX⟩ : ∃ X, Pl.pc t k 0 = X := ⟨_, rfl⟩
      rw [hX] at h2 hgo hno
      have j0 : (0 : Int) ≤ (k : Int) := by omega
      have j1 : (k : Int) < (L : Int) := by omega
      have j2 : (0 : Int) < (N : Int) := by omega
      have j3 : (0 : Nat) < N := by omega
      clear hbel hso hX hN hLd
      by_cases hk1 : k = 1
      · have e1 : ((k : Int) == 1) = true := by simp [hk1]
        rw [show Pl.want k = 1 by rw [hk1]; rfl] at hgo hno
        clear hk1
        by_cases hx1 : X = 1
        · have HNX := Lib.hid (hgo hx1)
          clear hgo hno
          subst hx1
          go_wp2
          go_roundw
          case rel => exact ⟨k + 1, by omega, by go_num, HNX.out, HBE.out⟩
          case measure => simp only [intOf]; omega
        · have HNX := Lib.hid (hno hx1)
          obtain ⟨n3, n4⟩ : (X == 1) = false ∧ (X != 1) = true := ⟨by simpa using hx1, by simpa using hx1⟩
          clear hgo hno
          go_wp2
          go_ret
          exact ⟨_, rfl, by rw [HO.out, HNX.out]; exact (OwnI.lit2 wr 0 (k : Int)).more (below_step HB.out HBE.out).size, below_step HB.out (below_alloc _ HBE.out)⟩
      · have hk9 : ¬ (k : Int) = 1 := by omega
        obtain ⟨e1, e2⟩ : ((k : Int) == 1) = false ∧ ((k : Int) != 1) = true := ⟨by simpa using hk9, by simpa using hk9⟩
        rw [show Pl.want k = 0 by unfold Pl.want; rw [if_neg hk1]] at hgo hno
        by_cases hx1 : X = 0
        · have HNX := Lib.hid (hgo hx1)
          clear hgo hno
          subst hx1
          go_wp2
          go_roundw
          case rel => exact ⟨k + 1, by omega, by go_num, HNX.out, HBE.out⟩
          case measure => simp only [intOf]; omega
        · have HNX := Lib.hid (hno hx1)
          obtain ⟨n3, n4⟩ : (X == 0) = false ∧ (X != 0) = true := ⟨by simpa using hx1, by simpa using hx1⟩
          clear hgo hno
          go_wp2
          go_ret
          exact ⟨_, rfl, by rw [HO.out, HNX.out]; exact (OwnI.lit2 wr 0 (k : Int)).more (below_step HB.out HBE.out).size, below_step HB.out (below_alloc _ HBE.out)⟩
    · obtain rfl : k = L := by omega
      rw [hLd, Nat.sub_self] at hso
      have HP0 := Lib.hid (show oP = none from hso.symm)
      clear hbel hso hLd
      go_wp2
      go_loopw [7, 8] (fun s7 _ wr => ∃ i : Nat, i ≤ d + 1 ∧ s7 = .int .i64 i ∧ Pl.srch (Pl.fau1 d (Pl.pc t)) (d + 1 - i) i = oS ∧ Below W.heap.size W wr) (fun s7 _ _ => d + 1 - (intOf s7).toNat)
      case atStart => exact ⟨0, Nat.zero_le _, rfl, HOS.out, HBE.out⟩
      case round =>
        clear HOS HBE
        obtain ⟨i, hi, rfl, hso, hbel⟩ := hrel
        have HBE := Lib.hid hbel
        have hLd := HLd.out
        by_cases hlt : i < d + 1
        · have HIN := Lib.hid (Pl.fau1_in hlt hso)
          have j1 : (i : Int) < (k : Int) := by omega
          have j0 : (0 : Int) ≤ (i : Int) := by omega
          have hi10 : i ≤ 10 := by omega
          obtain ⟨r, hr⟩ : ∃ r, Pl.srch (Pl.fau1 d (Pl.pc t)) (d + 1 - (i + 1)) (i + 1) = r := ⟨_, rfl⟩
          rw [hr] at HIN
          have HRR := Lib.hid hr
          clear hso hr hbel hLd
          go_wp2
          go_loopw [8] (fun s8 wr => ∃ j : Nat, j ≤ d + 2 ∧ s8 = .int .i64 j ∧ Pl.orE (Pl.srch (Pl.fau1j (Pl.pc t) i) (d + 1 - i - j) j) r = oS ∧ Below W.heap.size W wr) (fun s8 _ => d + 3 - (intOf s8).toNat)
          case atStart => exact ⟨i + 1, by omega, by first | rfl | go_num, HIN.out, HBE.out⟩
          case round =>
            clear HIN HBE
            obtain ⟨j, hj, rfl, hso, hbel⟩ := hrel
            have HBE := Lib.hid hbel
            have hLd := HLd.out
            by_cases hjN : i + j < d + 1
            · obtain ⟨b', off', c', N, hN, h1, h2⟩ := HNUM.out i j wr (by omega) hbel
              obtain ⟨b2, off2, c2, N2, hN2, h3, h4⟩ := HNUM.out j i wr (by omega) hbel
              have hgo := Pl.fau1_go (F := Pl.pc t) (d := d) (i := i) (j := j) (by omega) hso
              have hno := Pl.fau1_no (F := Pl.pc t) (d := d) (i := i) (j := j) (by omega) hso
              obtain ⟨X, hX⟩ : ∃ X, Pl.pc t i j = X := ⟨_, rfl⟩
              obtain ⟨Y, hY⟩ : ∃ Y, Pl.pc t j i = Y := ⟨_, rfl⟩
              rw [hX, hY] at hgo hno
              rw [hX] at h2
              rw [hY] at h4
              have j2 : (0 : Int) ≤ (j : Int) := by omega
              have j3 : (j : Int) < (N : Int) := by omega
              have j4 : (j : Int) < (k : Int) := by omega
              have j5 : (i : Int) < (N2 : Int) := by omega
              have j6 : (i : Int) + (j : Int) < (k : Int) := by omega
              clear hso hX hY hN hN2 hLd hbel
              by_cases hxy : X = Y
              · have HNX := Lib.hid (hgo hxy)
                subst hxy
                clear hgo hno
                go_wp2
                go_quiet (fail)
                go_wp2
                go_roundw
                case rel => exact ⟨j + 1, by omega, by go_num, HNX.out, below_drewN HBE.out _⟩
                case measure => simp only [intOf]; omega
              · have HNX := Lib.hid (hno hxy)
                obtain ⟨n1, n2⟩ : (X == Y) = false ∧ (X != Y) = true := ⟨by simpa using hxy, by simpa using hxy⟩
                clear hgo hno
                go_wp2
                go_quiet (fail)
                go_wp2
                go_ret
                exact ⟨_, rfl, by rw [HO.out, HP0.out, HNX.out]; exact (OwnI.lit3 _ 1 (i : Int) (j : Int)).more (by first | exact (below_step HB.out HBE.out).size | exact (below_drewN (below_step HB.out HBE.out) _).size), below_step HB.out (below_alloc _ (by first | exact HBE.out | exact below_drewN HBE.out _))⟩
            · have HNX := Lib.hid (HRR.out.trans (Pl.fau1_out hjN hso))
              have j6 : ¬ (i : Int) + (j : Int) < (k : Int) := by omega
              clear hso hbel hLd
              go_wp2
              go_roundw
              case rel => exact ⟨i + 1, by omega, by go_num, HNX.out, HBE.out⟩
              case measure => simp only [intOf]; omega
        · obtain rfl : i = d + 1 := by omega
          rw [Nat.sub_self] at hso
          have HS0 := Lib.hid (show oS = none from hso.symm)
          have HSYM := Lib.hid (HSY.out hso.symm)
          have j1 : ¬ (((d + 1 : Nat) : Int)) < (k : Int) := by omega
          clear hso hbel hLd HNUM HSY
          go_wp2
          have HL0 := Lib.hid (OwnT.lit0 wr [] 22)
          have HL1 := Lib.hid (OwnT.lit0 (wr.alloc (.cells #[] 22)) [] 22)
          have HZ := Lib.hid (HBE.out.size)
          go_loopw [9, 10, 11] (fun s9 s10 s11 wx => ∃ z : Nat, z ≤ k ∧ s11 = .int .i64 z ∧ OwnT [] 22 wx W.heap.size s9 (mapT (leftT m d t) z) ∧ OwnT [] 22 wx W.heap.size s10 (mapT (rightT m d t) z) ∧ (s10.ownBlock = none ∨ s10.ownBlock ≠ s9.ownBlock) ∧ Below W.heap.size W wx) (fun _ _ s11 _ => k - (intOf s11).toNat)
          case atStart => exact ⟨0, Nat.zero_le _, rfl, (HL0.out.keep (below_one _ _)).more HZ.out, by have := HL1.out.more (Nat.le_trans HZ.out (below_one wr (.cells #[] 22)).size); simpa [mapT] using this, .inr (by simp [Value.ownBlock]), below_alloc _ (below_alloc _ HBE.out)⟩
          case round =>
            clear HL0 HL1 HZ HBE
            obtain ⟨z, hz, rfl, ho1, ho2, hne, hbel⟩ := hrel
            obtain ⟨A9, c9, rfl⟩ := ho1.form
            obtain ⟨A10, c10, rfl⟩ := ho2.form
            have HNE := Lib.hid hne
            clear hne
            have HBE := Lib.hid hbel
            have HO1 := Lib.hid ho1
            have HO2 := Lib.hid ho2
            have hLd := HLd.out
            by_cases hlt : z < k
            · have HWL := Lib.hid (show w.heap.size < W.heap.size from B1.out.2.2)
              have X0 := Lib.hid (bx_in B1.out (hbel.trans ((below_drew0 wr).mono hbel.size)))
              have HCZ := Lib.hid (fun W0 (h : Below W.heap.size W W0) => HC.out z W0 (by omega) h)
              have HAZ : Hid (∀ (A0 : Option Addr) (c0 : Nat) (W0 : World), RI W0 A0 (colL t (d + 1 - z) z) → Below W.heap.size W W0 → Calls Try.prog 28 #[.int .i64 m, .slice A0 (d + 1 - z) c0, .slice (some ⟨b, off, none⟩) k c] W0 fun e w' => ∃ v, e = .returned v ∧ OwnR w' W0.heap.size w'.heap.size v (leftT m d t z) ∧ Below W0.heap.size W0 w') := Lib.hid (fun A0 c0 W0 h h' => by
                have := HA.out A0 c0 (colL t (d + 1 - z) z) W0 (by rw [colL_length]; omega) (colL_red HS.out _ _) h h'
                rw [colL_length] at this
                exact this)
              obtain ⟨b0, off0, Az, cz, e0, hb0, hr1, -, hr3⟩ := HROWS.out z (by omega)
              have HAR : Hid (∀ (W0 : World), Below W.heap.size W W0 → Calls Try.prog 28 #[.int .i64 m, .slice Az (d + 1 - z) cz, .slice (some ⟨b, off, none⟩) k c] W0 fun e w' => ∃ v, e = .returned v ∧ OwnR w' W0.heap.size w'.heap.size v (rightT m d t z) ∧ Below W0.heap.size W0 w') := Lib.hid (fun W0 h' => by
                have hl : (Pl.rw' t z).length = d + 1 - z := by rw [HS.out.row z (by omega)]; omega
                have := HA.out Az cz (Pl.rw' t z) W0 (by rw [hl]; omega) (HS.out.red z) (hr3.below h') h'
                rw [hl] at this
                exact this)
              rw [HS.out.row z (by omega), show d - z + 1 = d + 1 - z by omega] at hr1
              injection e0 with e0
              injection e0 with e1 e2
              subst e1 e2
              have hcl := colL_length t (d + 1 - z) z
              have hs1 := mapT_succ (leftT m d t) z
              have hs2 := mapT_succ (rightT m d t) z
              have HLE1 := Lib.hid (show (mapT (leftT m d t) z).length ≤ 1000000 by rw [mapT_length]; omega)
              have HLE2 := Lib.hid (show (mapT (rightT m d t) z).length ≤ 1000000 by rw [mapT_length]; omega)
              obtain ⟨C, hC⟩ : ∃ C, colL t (d + 1 - z) z = C := ⟨_, rfl⟩
              rw [hC] at HCZ HAZ hcl
              have HCL := Lib.hid hcl
              obtain ⟨RL, hRL⟩ : ∃ R, leftT m d t z = R := ⟨_, rfl⟩
              obtain ⟨RR, hRR⟩ : ∃ R, rightT m d t z = R := ⟨_, rfl⟩
              have HRL : Hid (RL.length = d + 1) := Lib.hid (by rw [← hRL]; exact (leftT_ok HS.out z).len)
              have HRR : Hid (RR.length = d + 1) := Lib.hid (by rw [← hRR]; exact (rightT_ok HS.out z).len)
              rw [hRL] at HAZ hs1
              rw [hRR] at HAR hs2
              obtain ⟨n, hn⟩ : ∃ n, d + 1 - z = n := ⟨_, rfl⟩
              rw [hn] at HAZ HAR HCL hr1
              have HS1 := Lib.hid hs1
              have HS2 := Lib.hid hs2
              have j2 : (z : Int) < (k : Int) := by omega
              have j3 : (0 : Int) ≤ (z : Int) := by omega
              have HZ := Lib.hid hbel.size
              obtain ⟨P1, hP1⟩ : ∃ P, mapT (leftT m d t) z = P := ⟨_, rfl⟩
              obtain ⟨P2, hP2⟩ : ∃ P, mapT (rightT m d t) z = P := ⟨_, rfl⟩
              rw [hP1] at HO1 HS1 HLE1 HNE ⊢
              rw [hP2] at HO2 HS2 HLE2 HNE ⊢
              have HB0 := Lib.hid hb0
              have HR1 := Lib.hid hr1
              clear ho1 ho2 hbel hC hRL hRR hs1 hs2 hcl hn hP1 hP2 hr1 hr3 hb0 hLd
              go_wp2
              go_region_held3 (fun w' => (w'.cell? ⟨w.heap.size, 0, none⟩ = some (.int .i64 m) ∧ w'.cell? ⟨w.heap.size, 1, none⟩ = some (.slice (some ⟨b, off, none⟩) k c) ∧ w.heap.size < w'.heap.size) ∧ Below W.heap.size W w') (first | exact X0.out | exact bxs_push HWL.out hpb (by assumption) | exact bxs_call hb3 (by assumption) | exact bxs_call hb2 (by assumption) | exact bxs_call (below_one _ _) (by assumption)) (first
                | (go_at_call 110; with_reducible refine Calls.mono (HCZ.out _ (snd2 (by assumption))) ?_; rintro e w2 ⟨v2, rfl, oc, hb2⟩; obtain ⟨Ac, cc, rfl, -⟩ := oc.form; have rc := oc.ri; rw [HCL.out])
                | (go_at_call 28; with_reducible refine Calls.mono (HAZ.out _ _ _ rc (snd2 (by assumption))) ?_; rintro e w3 ⟨v3, rfl, oa, hb3⟩; obtain ⟨A3, c3, rfl, -⟩ := oa.len; rw [HRL.out] at oa ⊢)
                | (refine step_pushD (pre := []) (e := 22) _ _ _ (by rfl) (by rfl) Try.underlying109 tb_ne1 tb_ne2 (.slice none 0 0) 24 infoTab rfl (by decide) no_pre W.heap.size w3.heap.size _ P1 (by rfl) ((HO1.out.keep (below_step (below_step (below_drew0 wr) hb2) hb3)).keep (below_one _ _)) (.slice A3 (d + 1) c3) RL ((oa.low (Nat.le_trans HZ.out (below_step (below_drew0 wr) hb2).size)).keep (below_one _ _)) (by simp) w3.heap.size (by rfl) (laid w3 [.slice A3 (d + 1) c3] _) HLE1.out (Nat.le_trans HZ.out (below_step (below_step (below_step (below_drew0 wr) hb2) hb3) (below_one _ _)).size) ?_; intro v' w4 ho4 hpb hoth))
              all_goals
                have hq := hoth _ _ ((HO2.out.keep (below_step (below_step (below_drew0 wr) hb2) hb3)).keep (below_one _ _)) HNE.out
                have HB4 := Lib.hid (show Below W.heap.size W w4 from snd2 (by assumption))
                have HO4 := Lib.hid ho4
                have HQ2 := Lib.hid hq.1
                have HNE2 := Lib.hid hq.2
                have Y0 := Lib.hid (bxc_in B1.out HR1.out HB0.out (HB4.out.trans ((below_drew0 w4).mono HB4.out.size)))
                have HZ4 := Lib.hid HB4.out.size
                clear hq hoth ho4 hpb oa oc rc hb2 hb3
                go_wp2
                go_region_held3 (fun w' => (w'.cell? ⟨w.heap.size, 0, none⟩ = some (.int .i64 m) ∧ w'.cell? ⟨w.heap.size, 1, none⟩ = some (.slice (some ⟨b, off, none⟩) k c) ∧ w.heap.size < w'.heap.size) ∧ w'.cell? ⟨b, off + z, none⟩ = some (.slice Az n cz) ∧ Below W.heap.size W w') (first | exact Y0.out | exact bxc_in B1.out HR1.out HB0.out (Below.trans (show Below W.heap.size W _ from thr3 (by assumption)) hpb5) | exact bxc_in B1.out HR1.out HB0.out (below_step (thr3 (by assumption)) hb5) | exact bxc_in B1.out HR1.out HB0.out (below_step (thr3 (by assumption)) (below_one _ _))) (first
                  | (go_at_call 28; with_reducible refine Calls.mono (HAR.out _ (thr3 (by assumption))) ?_; rintro e w5 ⟨v5, rfl, oa5, hb5⟩; obtain ⟨A5, c5, rfl, -⟩ := oa5.len; rw [HRR.out] at oa5 ⊢)
                  | (refine step_pushD (pre := []) (e := 22) _ _ _ (by rfl) (by rfl) Try.underlying109 tb_ne1 tb_ne2 (.slice none 0 0) 24 infoTab rfl (by decide) no_pre W.heap.size w5.heap.size _ P2 (by rfl) ((HQ2.out.keep (below_step (below_drew0 w4) hb5)).keep (below_one _ _)) (.slice A5 (d + 1) c5) RR ((oa5.low (Nat.le_trans HZ4.out (below_drew0 w4).size)).keep (below_one _ _)) (by simp) w5.heap.size (by rfl) (laid w5 [.slice A5 (d + 1) c5] _) HLE2.out (Nat.le_trans HZ4.out (below_step (below_step (below_drew0 w4) hb5) (below_one _ _)).size) ?_; intro v6 w6 ho6 hpb5 hoth5))
                all_goals
                  have hq := hoth5 _ _ ((HO4.out.keep (below_step (below_drew0 w4) hb5)).keep (below_one _ _)) (ne_turn HNE2.out)
                  have HB6 := Lib.hid (show Below W.heap.size W w6 from thr3 (by assumption))
                  have HO6 := Lib.hid ho6
                  have HQ3 := Lib.hid hq.1
                  have HNE3 := Lib.hid hq.2
                  clear hq hoth5 ho6 hpb5 oa5 hb5
                  go_wp2
                  go_roundw
                  case rel => exact ⟨z + 1, by omega, by go_num, by rw [HS1.out]; exact HQ3.out, by rw [HS2.out]; exact HO6.out, ne_turn HNE3.out, HB6.out⟩
                  case measure => simp only [intOf]; omega
            · obtain rfl : z = k := by omega
              have j4 : ¬ (z : Int) < (z : Int) := by omega
              clear ho1 ho2 hbel HNE
              rw [mapT_length] at HO1 HO2
              rw [mapT_length, mapT_length]
              obtain ⟨w0, hw0⟩ : ∃ w9, w9 = wr := ⟨_, rfl⟩
              subst hw0
              have HNM := Lib.hid (fun (a b e : Nat) (W0 : World) (hab : a + b + e ≤ d) (h : Below w0.heap.size w0 W0) => tri_num HS.out HSYM.out HO1.out HO2.out (by omega) a b e W0 hab h)
              clear HO1 HO2
              obtain ⟨n, hn⟩ : ∃ n, z = n := ⟨_, rfl⟩
              rw [hn] at hLd hLb ⊢
              have HND := Lib.hid hLd
              clear hn hz hLd
              go_wp2
              go_loopw [12, 13, 14] (fun s12 _ _ wx => ∃ a : Nat, a ≤ d + 1 ∧ s12 = .int .i64 a ∧ Pl.srch (Pl.fau2 m d (Pl.pc t)) (d + 1 - a) a = oT ∧ Below w0.heap.size w0 wx) (fun s12 _ _ _ => d + 1 - (intOf s12).toNat)
              case atStart => exact ⟨0, Nat.zero_le _, rfl, HOT.out, Below.refl _ _⟩
              case round =>
                clear HOT
                obtain ⟨a, ha, rfl, hso, hbel⟩ := hrel
                have HX := Lib.hid hbel
                have hLd := HND.out
                by_cases hlt : a < d + 1
                · have HIN := Lib.hid (Pl.fau2_in hlt hso)
                  have j1 : (a : Int) < (n : Int) := by omega
                  have j0 : (0 : Int) ≤ (a : Int) := by omega
                  have ha10 : a ≤ 10 := by omega
                  obtain ⟨r, hr⟩ : ∃ r, Pl.srch (Pl.fau2 m d (Pl.pc t)) (d + 1 - (a + 1)) (a + 1) = r := ⟨_, rfl⟩
                  rw [hr] at HIN
                  have HRR := Lib.hid hr
                  clear hso hr hbel hLd
                  go_wp2
                  go_loopw [13, 14] (fun s13 _ wx => ∃ b : Nat, a + b ≤ d + 1 ∧ s13 = .int .i64 b ∧ Pl.orE (Pl.srch (Pl.fau2b m d (Pl.pc t) a) (d + 1 - a - b) b) r = oT ∧ Below w0.heap.size w0 wx) (fun s13 _ _ => d + 1 - (intOf s13).toNat)
                  case atStart => exact ⟨0, by omega, rfl, HIN.out, HX.out⟩
                  case round =>
                    clear HIN HX
                    obtain ⟨b2, hb, rfl, hso, hbel⟩ := hrel
                    have HX := Lib.hid hbel
                    have hLd := HND.out
                    by_cases hltb : a + b2 < d + 1
                    · have HIN := Lib.hid (Pl.fau2b_in hltb hso)
                      have j2 : (a : Int) + (b2 : Int) < (n : Int) := by omega
                      have j3 : (0 : Int) ≤ (b2 : Int) := by omega
                      obtain ⟨r2, hr2⟩ : ∃ r2, Pl.orE (Pl.srch (Pl.fau2b m d (Pl.pc t) a) (d + 1 - a - (b2 + 1)) (b2 + 1)) r = r2 := ⟨_, rfl⟩
                      rw [hr2] at HIN
                      have HRR2 := Lib.hid hr2
                      clear hso hr2 hbel hLd
                      go_wp2
                      go_loopw [14] (fun s14 wx => ∃ e : Nat, a + b2 + e ≤ d + 1 ∧ s14 = .int .i64 e ∧ Pl.orE (Pl.srch (Pl.fau2c m d (Pl.pc t) a b2) (d + 1 - (a + b2) - e) e) r2 = oT ∧ Below w0.heap.size w0 wx) (fun s14 _ => d + 1 - (intOf s14).toNat)
                      case atStart => exact ⟨0, by omega, rfl, HIN.out, HX.out⟩
                      case round =>
                        clear HIN HX
                        obtain ⟨e, he, rfl, hso, hbel⟩ := hrel
                        have HX := Lib.hid hbel
                        have hLd := HND.out
                        by_cases hlte : a + b2 + e < d + 1
                        · have hgo := Pl.fau2c_go hlte hso
                          have hno := Pl.fau2c_no hlte hso
                          obtain ⟨⟨g1, A1, q1, b4, o4, b5, o5, q5, e9, f1, e4, f2, f3⟩, ⟨g2, A2, q2, b6, o6, b7, o7, q7, e10, f4, e6, f5, f6⟩⟩ := HNM.out a b2 e wr (by omega) hbel
                          subst e9 e4 e10 e6
                          obtain ⟨X, hX⟩ : ∃ X, Pl.br m d (Pl.pc t) a b2 e = X := ⟨_, rfl⟩
                          obtain ⟨Y, hY⟩ : ∃ Y, Pl.br m d (Pl.pc t) e b2 a = Y := ⟨_, rfl⟩
                          rw [hX, hY] at hgo hno
                          rw [hX] at f3
                          rw [hY] at f6
                          obtain ⟨D, hD⟩ : ∃ D, d + 1 = D := ⟨_, rfl⟩
                          obtain ⟨M1, hM1⟩ : ∃ M, d - a + 1 = M := ⟨_, rfl⟩
                          obtain ⟨M2, hM2⟩ : ∃ M, d - b2 + 1 = M := ⟨_, rfl⟩
                          have j4 : (a : Int) + (b2 : Int) + (e : Int) < (n : Int) := by omega
                          have j5 : (0 : Int) ≤ (e : Int) := by omega
                          have j6 : (e : Int) < (n : Int) := by omega
                          have j7 : (a : Int) < (D : Int) := by omega
                          have j8 : (b2 : Int) < (M1 : Int) := by omega
                          have j9 : (b2 : Int) < (D : Int) := by omega
                          have j10 : (e : Int) < (M2 : Int) := by omega
                          have he10 : e ≤ 10 := by omega
                          rw [hD] at f1 f4
                          rw [hM1] at f2
                          rw [hM2] at f5
                          clear hso hbel hLd hX hY hD hM1 hM2 he
                          by_cases hxy : X = Y
                          · have HNX := Lib.hid (hgo hxy)
                            subst hxy
                            clear hgo hno
                            go_wp2
                            go_quiet (fail)
                            go_wp2
                            go_roundw
                            case rel => exact ⟨e + 1, by omega, by go_num, HNX.out, below_drewN HX.out _⟩
                            case measure => simp only [intOf]; omega
                          · have HNX := Lib.hid (hno hxy)
                            obtain ⟨n1, n2⟩ : (X == Y) = false ∧ (X != Y) = true := ⟨by simpa using hxy, by simpa using hxy⟩
                            clear hgo hno
                            go_wp2
                            go_quiet (fail)
                            go_wp2
                            go_ret
                            exact ⟨_, rfl, by rw [HO.out, HP0.out, HS0.out, HNX.out]; exact (OwnI.lit4 _ 2 (a : Int) (b2 : Int) (e : Int)).more (by first | exact (below_step HB.out (below_step HBE.out HX.out)).size | exact (below_drewN (below_step HB.out (below_step HBE.out HX.out)) _).size), below_step HB.out (below_alloc _ (by first | exact below_step HBE.out HX.out | exact below_drewN (below_step HBE.out HX.out) _))⟩
                        · have HNX := Lib.hid (HRR2.out.trans (Pl.fau2c_out hlte hso))
                          have j4 : ¬ (a : Int) + (b2 : Int) + (e : Int) < (n : Int) := by omega
                          have he10 : e ≤ 11 := by omega
                          clear hso hbel hLd
                          go_wp2
                          go_roundw
                          case rel => exact ⟨b2 + 1, by omega, by go_num, HNX.out, HX.out⟩
                          case measure => simp only [intOf]; omega
                    · have HNX := Lib.hid (HRR.out.trans (Pl.fau2b_out hltb hso))
                      have j4 : ¬ (a : Int) + (b2 : Int) < (n : Int) := by omega
                      clear hso hbel hLd
                      go_wp2
                      go_roundw
                      case rel => exact ⟨a + 1, by omega, by go_num, HNX.out, HX.out⟩
                      case measure => simp only [intOf]; omega
                · obtain rfl : a = d + 1 := by omega
                  rw [Nat.sub_self] at hso
                  have HT0 := Lib.hid (show oT = none from hso.symm)
                  have j4 : ¬ (((d + 1 : Nat) : Int)) < (n : Int) := by omega
                  clear hso hbel hLd
                  go_wp2
                  go_ret
                  exact ⟨_, rfl, by rw [HO.out, HP0.out, HS0.out, HT0.out]; exact OwnI.nil _ _, below_step HB.out (below_step HBE.out HX.out)⟩
/-! the model's answers -/
theorem fau_isNone {m : Int} {d : Nat} {F : Nat → Nat → Int} : (decide ((((Pl.fau m d F).getD []).length : Int) = 0)) = (Pl.fau m d F).isNone := by
  cases h : Pl.fau m d F with
  | none => rfl
  | some x =>
    have := (fau_len h).1
    simp
    intro e
    subst e
    simp at this
set_option maxHeartbeats 4000000 in
set_option maxRecDepth 100000 in
theorem l04Is_any (m : Int) (A : Option Addr) (c : Nat) (t : List (List Int)) (w : World) (hz : szT t ≤ 1048576) (hr : RP w A t) :
    Calls Try.prog 58 #[.agg #[.int .i64 m, .slice A t.length c]] w fun e w' => e = .returned (.bool (isL m t)) ∧ Below w.heap.size w w' := by
  obtain ⟨W, hW, b1, hwb⟩ := start1 32 w m A t.length c
  have B1 := Lib.hid b1
  have HB := Lib.hid hwb
  have HW := Lib.hid hW
  have HI := Lib.hid (fun W0 (h : Below W.heap.size W W0) => l03Is_z m A c t W0 hz ((hr.below hwb).below h))
  by_cases h0 : isP m t = true
  · obtain ⟨d, e1, ok⟩ := plOk_of h0
    have HF := Lib.hid (fun W0 (h : Below W.heap.size W W0) => l04Fault_any m d A c t W0 ok ((hr.below hwb).below h))
    have HE : Hid (decide ((((Pl.fau m d (Pl.pc t)).getD []).length : Int) = 0) = isL m t) := Lib.hid (by rw [isL_fau h0 e1]; exact fau_isNone)
    have HLE : Hid (((Pl.fau m d (Pl.pc t)).getD []).length ≤ 4) := Lib.hid (by
      cases h : Pl.fau m d (Pl.pc t) with
      | none => simp
      | some x => exact (fau_len h).2)
    rw [h0] at HI
    obtain ⟨o, ho⟩ : ∃ o, (Pl.fau m d (Pl.pc t)).getD [] = o := ⟨_, rfl⟩
    rw [ho] at HF HE HLE
    obtain ⟨R, hR⟩ : ∃ R, isL m t = R := ⟨_, rfl⟩
    rw [hR] at HE ⊢
    obtain ⟨L, hL⟩ : ∃ L, t.length = L := ⟨_, rfl⟩
    rw [hL] at HF HI HW B1 ⊢
    obtain ⟨n, hn⟩ : ∃ n, o.length = n := ⟨_, rfl⟩
    rw [hn] at HE HLE
    have HN := Lib.hid hn
    clear b1 hwb hW hr h0 ok e1 hz hL ho hR hn
    go_enter Try.func58, Try.ntmps58
    go_wp2_with fail
    rw [HW.out]
    refine (HI.out _ (Below.refl _ _)).mono ?_
    rintro e w1 ⟨rfl, hb1⟩
    obtain ⟨x1, x2, x3⟩ := B1.out.keep hb1
    go_wp2_with fail
    refine (HF.out _ hb1).mono ?_
    rintro e w3 ⟨v, rfl, hf, hb3⟩
    have HB3 := Lib.hid (below_step HB.out (below_step hb1 hb3))
    obtain ⟨A3, c3, rfl, -⟩ := hf.form
    rw [HN.out]
    clear hb1 hb3 x1 x2 x3 hf
    by_cases hn0 : n = 0
    · subst hn0
      have HR : Hid (R = true) := Lib.hid (by rw [← HE.out]; rfl)
      go_wp2
      go_ret
      exact ⟨ret_bool HR.out.symm, HB3.out⟩
    · have hn1 : ¬ (n : Int) = 0 := by omega
      have HR : Hid (R = false) := Lib.hid (by rw [← HE.out]; exact decide_eq_false hn1)
      obtain ⟨n1, n2⟩ := ne_facts hn1
      go_wp2
      go_ret
      exact ⟨ret_bool HR.out.symm, HB3.out⟩
  · have h0' : isP m t = false := by simpa using h0
    rw [isL_no h0']
    rw [h0'] at HI
    obtain ⟨L, hL⟩ : ∃ L, t.length = L := ⟨_, rfl⟩
    rw [hL] at HI HW B1 ⊢
    clear b1 hwb hW hr h0 h0' hz hL
    go_enter Try.func58, Try.ntmps58
    go_wp2_with fail
    rw [HW.out]
    refine (HI.out _ (Below.refl _ _)).mono ?_
    rintro e w1 ⟨rfl, hb1⟩
    go_wp2
    go_ret
    exact ⟨rfl, below_step HB.out hb1⟩
end Go.Proofs.Ytlpfifdocgljnaa

/- Lists of series that a call takes: where they lie; contracts of the codes of a plane and such a list, of the program and of the model. -/
namespace Go.Proofs.Ytlpfifdocgljnaa
open Go.RowKit Go.WideShapes Go.ChangeShapes Go.ChangeAt

/-- block g holds series, one after the other: modulus, address, capacity, numbers -/
def SL (w : World) (g : Nat) (xs : List (Int × Option Addr × Nat × List Int)) : Prop :=
  g < w.heap.size ∧ ∀ k m A c l, xs[k]? = some (m, A, c, l) → w.cell? ⟨g, k * 2, none⟩ = some (.int .i64 m) ∧ w.cell? ⟨g, k * 2 + 1, none⟩ = some (.slice A l.length c) ∧ RI w A l ∧ l.length ≤ 1048576
theorem SL.keep {w w' : World} {g : Nat} {xs : List (Int × Option Addr × Nat × List Int)} (h : SL w g xs) (hb : Below w.heap.size w w') : SL w' g xs :=
  ⟨Nat.lt_of_lt_of_le h.1 hb.size, fun k m A c l hx => by
    obtain ⟨a, b, r, z⟩ := h.2 k m A c l hx
    exact ⟨(hb.cell (p := ⟨g, k * 2, none⟩) h.1).trans a, (hb.cell (p := ⟨g, k * 2 + 1, none⟩) h.1).trans b, r.below hb, z⟩⟩
theorem SL.one {w : World} {g : Nat} {m : Int} {A : Option Addr} {c : Nat} {l : List Int} (hx : Box w g m A l.length c) (hr : RI w A l) (hl : l.length ≤ 1048576) : SL w g [(m, A, c, l)] :=
  ⟨hx.2.2, fun k m' A' c' l' h => by
    match k, h with
    | 0, h =>
      simp at h
      obtain ⟨rfl, rfl, rfl, rfl⟩ := h
      exact ⟨hx.1, hx.2.1, hr, hl⟩⟩
theorem SL.two {w : World} {g : Nat} {m : Int} {A : Option Addr} {c : Nat} {l : List Int} {m' : Int} {A' : Option Addr} {c' : Nat} {l' : List Int} (hx : Box4 w g m A l.length c m' A' l'.length c') (hr : RI w A l) (hr' : RI w A' l') (hl : l.length ≤ 1048576) (hl' : l'.length ≤ 1048576) :
    SL w g [(m, A, c, l), (m', A', c', l')] :=
  ⟨hx.1.2.2, fun k m0 A0 c0 l0 h => by
    match k, h with
    | 0, h =>
      simp at h
      obtain ⟨rfl, rfl, rfl, rfl⟩ := h
      exact ⟨hx.1.1, hx.1.2.1, hr, hl⟩
    | 1, h =>
      simp at h
      obtain ⟨rfl, rfl, rfl, rfl⟩ := h
      exact ⟨hx.2.1, hx.2.2, hr', hl'⟩⟩
def allS (xs : List (Int × Option Addr × Nat × List Int)) : Bool := xs.all fun x => isS x.1 x.2.2.2
def alkS (m : Int) (n : Nat) (xs : List (Int × Option Addr × Nat × List Int)) : Bool := xs.all fun x => decide (x.1 = m ∧ x.2.2.2.length = n)
def curS (xs : List (Int × Option Addr × Nat × List Int)) : Bool := xs.all fun x => isC x.1 x.2.2.2
/-- the code of something (ok: it is what it should be) and a list of series -/
def codeL (ok : Bool) (m : Int) (n : Nat) (xs : List (Int × Option Addr × Nat × List Int)) : Int := if ok = true ∧ allS xs = true then (if alkS m n xs = true then 0 else 2) else 1
theorem and_t {a b : Bool} (h : a = true) (k : b = true) : (a && b) = true := by rw [h, k]; rfl
theorem all_take {α : Type} (f : α → Bool) (xs : List α) (k : Nat) (x : α) (h : xs[k]? = some x) : (xs.take (k + 1)).all f = ((xs.take k).all f && f x) := by
  have hk := (List.getElem?_eq_some_iff.1 h).1
  rw [List.take_add_one, h, List.all_append]; simp
theorem all_bad {α : Type} (f : α → Bool) (xs : List α) (k : Nat) (x : α) (h : xs[k]? = some x) (hf : f x = false) : xs.all f = false := by
  rw [List.all_eq_false]
  exact ⟨x, List.mem_of_getElem? h, by simp [hf]⟩
theorem all_whole {α : Type} (f : α → Bool) (xs : List α) (k : Nat) (h : xs.length ≤ k) : (xs.take k).all f = xs.all f := by rw [List.take_of_length_le h]
theorem all_isS {xs : List (Int × Option Addr × Nat × List Int)} (h : allS xs = true) {k : Nat} {m : Int} {A : Option Addr} {c : Nat} {l : List Int} (hx : xs[k]? = some (m, A, c, l)) : isS m l = true :=
  (List.all_eq_true.1 h) _ (List.mem_of_getElem? hx)
set_option maxHeartbeats 8000000 in
set_option maxRecDepth 100000 in
theorem codePL_any (g : Nat) (m : Int) (A : Option Addr) (c : Nat) (t : List (List Int)) (xs : List (Int × Option Addr × Nat × List Int)) (w : World) (hz : szT t ≤ 1048576) (hr : RP w A t) (hx : SL w g xs) (hn : xs.length ≤ 1000) :
    Calls Try.prog 115 #[.agg #[.int .i64 m, .slice A t.length c], .slice (some ⟨g, 0, none⟩) xs.length xs.length] w fun e w' => e = .returned (.int .i64 (codeL (isP m t) m t.length xs)) ∧ Below w.heap.size w w' := by
  obtain ⟨W, hW, b1, hwb⟩ := start1 32 w m A t.length c
  have HX := Lib.hid (hx.keep hwb)
  have B1 := Lib.hid b1
  have HB := Lib.hid hwb
  have HW := Lib.hid hW
  have HIP := Lib.hid (fun W0 (h : Below W.heap.size W W0) => IsPlane_any m A c t W0 hz ((hr.below hwb).below h))
  have HG := Lib.hid (fun W0 d (h1 : t.length = d + 1) (h2 : d ≤ 10) => gridOf_nat m A t.length c d W0 h1 (by omega))
  have hfd := field_frame
  obtain ⟨C, hC⟩ : ∃ C, codeL (isP m t) m t.length xs = C := ⟨_, rfl⟩
  have HC := Lib.hid hC
  rw [hC]
  obtain ⟨n, hxn⟩ : ∃ n, xs.length = n := ⟨_, rfl⟩
  have HN := Lib.hid hxn
  rw [hxn] at hn ⊢
  have HLT := Lib.hid (fun k (hk : k < n) => (by
    obtain ⟨⟨m', A', c', l'⟩, hx⟩ : ∃ x, xs[k]? = some x := ⟨_, List.getElem?_eq_getElem (by omega)⟩
    exact ⟨m', A', c', l', hx⟩ : ∃ m' A' c' l', xs[k]? = some (m', A', c', l')))
  have HPL := Lib.hid (fun (h : isP m t = true) => plOk_of h)
  obtain ⟨b, hb⟩ : ∃ b, isP m t = b := ⟨_, rfl⟩
  rw [hb] at HIP HC HPL
  obtain ⟨L, hL⟩ : ∃ L, t.length = L := ⟨_, rfl⟩
  rw [hL] at HIP HG B1 HW HC HPL ⊢
  clear hC hx hwb hW b1 hxn hr hz hb hL
  cases b with
  | false =>
    have HNO : Hid (C = 1) := Lib.hid (by rw [← HC.out]; unfold codeL; rw [if_neg (fun h => absurd h.1 (by decide))])
    go_enter Try.func115, Try.ntmps115
    go_wp2_with fail
    rw [HW.out]
    refine (HIP.out _ (Below.refl _ _)).mono ?_
    rintro e w1 ⟨rfl, hb1⟩
    go_wp2
    go_ret
    exact ⟨ret_int HNO.out.symm, below_step HB.out hb1⟩
  | true =>
    go_enter Try.func115, Try.ntmps115
    go_wp2_with fail
    rw [HW.out]
    refine (HIP.out _ (Below.refl _ _)).mono ?_
    rintro e w1 ⟨rfl, hb1⟩
    have HB1 := Lib.hid hb1
    clear hb1
    go_wp2
    go_loopw [14] (fun i wr => ∃ k : Nat, k ≤ n ∧ i = .int .i64 k ∧ allS (xs.take k) = true ∧ Below W.heap.size W wr) (fun i _ => n - (intOf i).toNat)
    case atStart => exact ⟨0, Nat.zero_le _, rfl, rfl, HB1.out⟩
    case round =>
      obtain ⟨k, hk, rfl, hall, hbel⟩ := hrel
      have HA := Lib.hid hall
      have HBE := Lib.hid hbel
      clear hall
      by_cases hlt : k < n
      · obtain ⟨m', A', c', l', hxk⟩ := HLT.out k hlt
        obtain ⟨x1, x2, x3, x4⟩ := (HX.out.keep hbel).2 k m' A' c' l' hxk
        have HXK := Lib.hid hxk
        have HIS := Lib.hid (fun W0 (h : Below wr.heap.size wr W0) => IsSeries_any m' A' c' l' W0 (by omega) (x3.below h))
        obtain ⟨L', hL'⟩ : ∃ L, l'.length = L := ⟨_, rfl⟩
        obtain ⟨b', hb'⟩ : ∃ b, isS m' l' = b := ⟨_, rfl⟩
        have HBB := Lib.hid hb'
        rw [hL', hb'] at HIS
        rw [hL'] at x2
        have j0 : (0 : Int) ≤ (k : Int) := by omega
        have j1 : (k : Int) < (n : Int) := by omega
        clear hbel hxk x3 x4 hL' hb'
        cases b' with
        | true =>
          have HOK := Lib.hid (show allS (xs.take (k + 1)) = true by unfold allS; rw [all_take _ _ _ _ HXK.out]; exact and_t HA.out HBB.out)
          go_wp2_with fail
          refine (HIS.out _ (below_one _ _)).mono ?_
          rintro e w2 ⟨rfl, hb2⟩
          have HB2 := Lib.hid (below_step (below_alloc (.cells #[.int .i64 m', .slice A' L' c'] 34) HBE.out) hb2)
          clear hb2 x1 x2
          go_wp2
          go_roundw
          case rel => exact ⟨k + 1, by omega, by go_num, HOK.out, HB2.out⟩
          case measure => simp only [intOf]; omega
        | false =>
          have HNO : Hid (C = 1) := Lib.hid (by rw [← HC.out]; unfold codeL; rw [if_neg (fun h => absurd h.2 (by unfold allS; rw [all_bad _ _ _ _ HXK.out HBB.out]; decide))])
          go_wp2_with fail
          refine (HIS.out _ (below_one _ _)).mono ?_
          rintro e w2 ⟨rfl, hb2⟩
          have HB2 := Lib.hid (below_step (below_alloc (.cells #[.int .i64 m', .slice A' L' c'] 34) HBE.out) hb2)
          clear hb2 x1 x2
          go_wp2
          go_ret
          exact ⟨ret_int HNO.out.symm, below_step HB.out HB2.out⟩
      · obtain rfl : k = n := by omega
        have HAL := Lib.hid (show allS xs = true by have := HA.out; rwa [List.take_of_length_le (by have := HN.out; omega)] at this)
        clear HA hbel
        go_wp2
        go_loopw [24] (fun i wr => ∃ j : Nat, j ≤ k ∧ i = .int .i64 j ∧ alkS m L (xs.take j) = true ∧ Below W.heap.size W wr) (fun i _ => k - (intOf i).toNat)
        case atStart => exact ⟨0, Nat.zero_le _, rfl, rfl, HBE.out⟩
        case round =>
          clear HBE
          obtain ⟨j, hj, rfl, hall, hbel⟩ := hrel
          have HA := Lib.hid hall
          have HBE := Lib.hid hbel
          clear hall
          by_cases hlt : j < k
          · obtain ⟨m', A', c', l', hxk⟩ := HLT.out j hlt
            obtain ⟨x1, x2, x3, x4⟩ := (HX.out.keep hbel).2 j m' A' c' l' hxk
            have HXK := Lib.hid hxk
            obtain ⟨d', e2, ok'⟩ := serOk_of (all_isS HAL.out hxk)
            obtain ⟨d, e1, ok⟩ := HPL.out (by first | exact rfl | trivial)
            have HF := Lib.hid (fun W0 => frameOfSeries_any m' A' l'.length c' d' W0 e2 (by have := ok'.d2; omega))
            have HGG := Lib.hid (fun W0 => HG.out W0 d e1 ok.d2)
            have HCM : Hid (∀ b : Bool, (decide (m' = m ∧ d' = d) = b) → decide (m' = m ∧ l'.length = L) = b) := Lib.hid (by
              intro b hb
              rw [← hb]
              exact decide_eq_decide.2 ⟨fun h => ⟨h.1, by omega⟩, fun h => ⟨h.1, by omega⟩⟩)
            obtain ⟨L', hL'⟩ : ∃ L, l'.length = L := ⟨_, rfl⟩
            rw [hL'] at x2 HF HCM
            obtain ⟨x5, x6, -⟩ := B1.out.keep hbel
            obtain ⟨W', hW', b1, b2, hwb⟩ := var_inT (T := 34) (m' := m') (A' := A') (n' := L') (c' := c') B1.out hbel
            have HW' := Lib.hid hW'
            have C1 := Lib.hid b1
            have C2 := Lib.hid b2
            have HB' := Lib.hid hwb
            have j0 : (0 : Int) ≤ (j : Int) := by omega
            have j1 : (j : Int) < (k : Int) := by omega
            have HL2 := Lib.hid hL'
            clear hbel hxk x3 x4 hL' ok ok' e1 e2 hW' b1 b2 hwb x5 x6
            go_wp2
            rw [HW'.out]
            clear x1 x2
            by_cases hm : m' = m
            · subst hm
              by_cases hd : d' = d
              · subst hd
                have HOK := Lib.hid (show alkS m' L (xs.take (j + 1)) = true by unfold alkS; rw [all_take _ _ _ _ HXK.out]; exact and_t HA.out (by show decide (m' = m' ∧ l'.length = L) = true; rw [HL2.out]; exact HCM.out _ (decide_eq_true ⟨rfl, rfl⟩)))
                clear HCM
                go_region_held3 (fun w' => (w'.cell? ⟨wr.heap.size, 0, none⟩ = some (.int .i64 m') ∧ w'.cell? ⟨wr.heap.size, 1, none⟩ = some (.slice A' L' c')) ∧ (w'.cell? ⟨w.heap.size, 0, none⟩ = some (.int .i64 m') ∧ w'.cell? ⟨w.heap.size, 1, none⟩ = some (.slice A L c)) ∧ Below W'.heap.size W' w') (first | exact box2_in C1.out C2.out (below_drew0 _) | exact box2_next C1.out C2.out (by assumption) (by assumption)) (first
                  | (go_at_call 33; with_reducible refine Calls.mono (HGG.out _) ?_; rintro e1 w4 ⟨rfl, hb5⟩) | (go_at_call 81; with_reducible refine Calls.mono (HF.out _) ?_; rintro e1 w4 ⟨rfl, hb5⟩))
                all_goals
                  have HB9 := Lib.hid (HB'.out.trans ((box2_next C1.out C2.out (Below.refl _ _) (by assumption)).2.2.mono HB'.out.size))
                  go_wp2
                  go_roundw
                  case rel => exact ⟨j + 1, by omega, by go_num, HOK.out, HB9.out⟩
                  case measure => simp only [intOf]; omega
              · have HC2 : Hid (C = 2) := Lib.hid (by
                  rw [← HC.out]
                  unfold codeL
                  rw [if_pos ⟨rfl, HAL.out⟩, if_neg]
                  unfold alkS
                  rw [all_bad _ _ _ _ HXK.out (by show decide (m' = m' ∧ l'.length = L) = false; rw [HL2.out]; exact HCM.out _ (decide_eq_false (fun h => hd h.2)))]
                  decide)
                have hd2 : ¬ (d' : Int) = (d : Int) := by omega
                have hd3 : ((d' : Int) == (d : Int)) = false := by simpa using hd2
                clear HCM hd
                go_region_held3 (fun w' => (w'.cell? ⟨wr.heap.size, 0, none⟩ = some (.int .i64 m') ∧ w'.cell? ⟨wr.heap.size, 1, none⟩ = some (.slice A' L' c')) ∧ (w'.cell? ⟨w.heap.size, 0, none⟩ = some (.int .i64 m') ∧ w'.cell? ⟨w.heap.size, 1, none⟩ = some (.slice A L c)) ∧ Below W'.heap.size W' w') (first | exact box2_in C1.out C2.out (below_drew0 _) | exact box2_next C1.out C2.out (by assumption) (by assumption)) (first
                  | (go_at_call 33; with_reducible refine Calls.mono (HGG.out _) ?_; rintro e1 w4 ⟨rfl, hb5⟩) | (go_at_call 81; with_reducible refine Calls.mono (HF.out _) ?_; rintro e1 w4 ⟨rfl, hb5⟩))
                all_goals
                  have HB9 := Lib.hid (HB'.out.trans ((box2_next C1.out C2.out (Below.refl _ _) (by assumption)).2.2.mono HB'.out.size))
                  go_wp2
                  go_ret
                  exact ⟨ret_int HC2.out.symm, below_step HB.out HB9.out⟩
            · have HC2 : Hid (C = 2) := Lib.hid (by
                rw [← HC.out]
                unfold codeL
                rw [if_pos ⟨rfl, HAL.out⟩, if_neg]
                unfold alkS
                rw [all_bad _ _ _ _ HXK.out (by show decide (m' = m ∧ l'.length = L) = false; rw [HL2.out]; exact HCM.out _ (decide_eq_false (fun h => hm h.1)))]
                decide)
              have hm3 : (m' == m) = false := by simpa using hm
              clear HCM
              go_region_held3 (fun w' => (w'.cell? ⟨wr.heap.size, 0, none⟩ = some (.int .i64 m') ∧ w'.cell? ⟨wr.heap.size, 1, none⟩ = some (.slice A' L' c')) ∧ (w'.cell? ⟨w.heap.size, 0, none⟩ = some (.int .i64 m) ∧ w'.cell? ⟨w.heap.size, 1, none⟩ = some (.slice A L c)) ∧ Below W'.heap.size W' w') (first | exact box2_in C1.out C2.out (below_drew0 _) | exact box2_next C1.out C2.out (by assumption) (by assumption)) (first
                | (go_at_call 33; with_reducible refine Calls.mono (HGG.out _) ?_; rintro e1 w4 ⟨rfl, hb5⟩) | (go_at_call 81; with_reducible refine Calls.mono (HF.out _) ?_; rintro e1 w4 ⟨rfl, hb5⟩))
              all_goals
                have HB9 := Lib.hid (HB'.out.trans ((box2_next C1.out C2.out (Below.refl _ _) (by assumption)).2.2.mono HB'.out.size))
                go_wp2
                go_ret
                exact ⟨ret_int HC2.out.symm, below_step HB.out HB9.out⟩
          · obtain rfl : j = k := by omega
            have HC2 : Hid (C = 0) := Lib.hid (by
              rw [← HC.out]
              unfold codeL
              rw [if_pos ⟨rfl, HAL.out⟩, if_pos]
              have := HA.out
              rwa [List.take_of_length_le (by have := HN.out; omega)] at this)
            clear hbel
            go_wp2
            go_ret
            exact ⟨ret_int HC2.out.symm, below_step HB.out HBE.out⟩
/-- with the look at curves behind it -/
def codeLC (ok : Bool) (m : Int) (n : Nat) (xs : List (Int × Option Addr × Nat × List Int)) : Int := if codeL ok m n xs = 0 then (if curS xs = true then 0 else 5) else codeL ok m n xs
set_option maxHeartbeats 8000000 in
set_option maxRecDepth 100000 in
theorem codePCL_any (g : Nat) (m : Int) (A : Option Addr) (c : Nat) (t : List (List Int)) (xs : List (Int × Option Addr × Nat × List Int)) (w : World) (hz : szT t ≤ 1048576) (hr : RP w A t) (hx : SL w g xs) (hn : xs.length ≤ 1000) :
    Calls Try.prog 93 #[.agg #[.int .i64 m, .slice A t.length c], .slice (some ⟨g, 0, none⟩) xs.length xs.length] w fun e w' => e = .returned (.int .i64 (codeLC (isP m t) m t.length xs)) ∧ Below w.heap.size w w' := by
  obtain ⟨W, hW, b1, hwb⟩ := start1 32 w m A t.length c
  have HX := Lib.hid (hx.keep hwb)
  have HB := Lib.hid hwb
  have HW := Lib.hid hW
  have HCO := Lib.hid (codePL_any g m A c t xs W hz (hr.below hwb) (hx.keep hwb) hn)
  obtain ⟨C, hC⟩ : ∃ C, codeLC (isP m t) m t.length xs = C := ⟨_, rfl⟩
  have HC := Lib.hid hC
  rw [hC]
  unfold codeLC at HC
  obtain ⟨K, hK⟩ : ∃ K, codeL (isP m t) m t.length xs = K := ⟨_, rfl⟩
  rw [hK] at HC HCO
  obtain ⟨n, hxn⟩ : ∃ n, xs.length = n := ⟨_, rfl⟩
  have HN := Lib.hid hxn
  rw [hxn] at hn HCO ⊢
  have HLT := Lib.hid (fun k (hk : k < n) => (by
    obtain ⟨⟨m', A', c', l'⟩, hx⟩ : ∃ x, xs[k]? = some x := ⟨_, List.getElem?_eq_getElem (by omega)⟩
    exact ⟨m', A', c', l', hx⟩ : ∃ m' A' c' l', xs[k]? = some (m', A', c', l')))
  obtain ⟨L, hL⟩ : ∃ L, t.length = L := ⟨_, rfl⟩
  rw [hL] at HCO HW ⊢
  clear hC hK hx hwb hW b1 hxn hr hz hL
  by_cases h0 : K = 0
  · subst h0
    have HC' : Hid ((if curS xs = true then (0 : Int) else 5) = C) := Lib.hid (by have := HC.out; rwa [if_pos rfl] at this)
    clear HC
    go_enter Try.func93, Try.ntmps93
    go_wp2_with fail
    rw [HW.out]
    refine HCO.out.mono ?_
    rintro e w1 ⟨rfl, hb1⟩
    have HB1 := Lib.hid hb1
    clear hb1
    go_wp2
    go_loopw [16] (fun i wr => ∃ k : Nat, k ≤ n ∧ i = .int .i64 k ∧ curS (xs.take k) = true ∧ Below W.heap.size W wr) (fun i _ => n - (intOf i).toNat)
    case atStart => exact ⟨0, Nat.zero_le _, rfl, rfl, HB1.out⟩
    case round =>
      obtain ⟨k, hk, rfl, hall, hbel⟩ := hrel
      have HA := Lib.hid hall
      have HBE := Lib.hid hbel
      clear hall
      by_cases hlt : k < n
      · obtain ⟨m', A', c', l', hxk⟩ := HLT.out k hlt
        obtain ⟨x1, x2, x3, x4⟩ := (HX.out.keep hbel).2 k m' A' c' l' hxk
        have HXK := Lib.hid hxk
        have HIS := Lib.hid (fun W0 (h : Below wr.heap.size wr W0) => IsCurve_any m' A' c' l' W0 (by omega) (x3.below h))
        obtain ⟨L', hL'⟩ : ∃ L, l'.length = L := ⟨_, rfl⟩
        obtain ⟨b', hb'⟩ : ∃ b, isC m' l' = b := ⟨_, rfl⟩
        have HBB := Lib.hid hb'
        rw [hL', hb'] at HIS
        rw [hL'] at x2
        have j0 : (0 : Int) ≤ (k : Int) := by omega
        have j1 : (k : Int) < (n : Int) := by omega
        clear hbel hxk x3 x4 hL' hb'
        cases b' with
        | true =>
          have HOK := Lib.hid (show curS (xs.take (k + 1)) = true by unfold curS; rw [all_take _ _ _ _ HXK.out]; exact and_t HA.out HBB.out)
          go_wp2_with fail
          refine (HIS.out _ (below_one _ _)).mono ?_
          rintro e w2 ⟨rfl, hb2⟩
          have HB2 := Lib.hid (below_step (below_alloc (.cells #[.int .i64 m', .slice A' L' c'] 34) HBE.out) hb2)
          clear hb2 x1 x2
          go_wp2
          go_roundw
          case rel => exact ⟨k + 1, by omega, by go_num, HOK.out, HB2.out⟩
          case measure => simp only [intOf]; omega
        | false =>
          have HNO : Hid (C = 5) := Lib.hid (by rw [← HC'.out]; rw [if_neg]; unfold curS; rw [all_bad _ _ _ _ HXK.out HBB.out]; decide)
          go_wp2_with fail
          refine (HIS.out _ (below_one _ _)).mono ?_
          rintro e w2 ⟨rfl, hb2⟩
          have HB2 := Lib.hid (below_step (below_alloc (.cells #[.int .i64 m', .slice A' L' c'] 34) HBE.out) hb2)
          clear hb2 x1 x2
          go_wp2
          go_ret
          exact ⟨ret_int HNO.out.symm, below_step HB.out HB2.out⟩
      · obtain rfl : k = n := by omega
        have HYES : Hid (C = 0) := Lib.hid (by
          rw [← HC'.out, if_pos]
          have := HA.out
          rwa [List.take_of_length_le (by have := HN.out; omega)] at this)
        clear HA hbel
        go_wp2
        go_ret
        exact ⟨ret_int HYES.out.symm, below_step HB.out HBE.out⟩
  · have HNO : Hid (C = K) := Lib.hid (by have := HC.out; rw [if_neg h0] at this; exact this.symm)
    obtain ⟨n1, n2⟩ := ne_facts h0
    clear HC
    go_enter Try.func93, Try.ntmps93
    go_wp2_with fail
    rw [HW.out]
    refine HCO.out.mono ?_
    rintro e w1 ⟨rfl, hb1⟩
    go_wp2
    go_ret
    exact ⟨ret_int HNO.out.symm, below_step HB.out hb1⟩
end Go.Proofs.Ytlpfifdocgljnaa

/- Contracts of the model's sums, multiples and remainders of rows, which may have one number alone. -/
namespace Go.Proofs.Ytlpfifdocgljnaa
open Go.RowKit Go.WideShapes Go.ChangeShapes Go.ChangeAt

/-- a row of d + 1 numbers modulo m -/
structure RowOk (m : Int) (d : Nat) (l : List Int) : Prop where
  m1 : 2 ≤ m
  m2 : m ≤ 10000
  d2 : d ≤ 10
  len : l.length = d + 1
  red : Ser.Red m l
theorem Pl.Ok.rowOk {m : Int} {d : Nat} {t : List (List Int)} (h : Pl.Ok m d t) (i : Nat) (hi : i ≤ d) : RowOk m (d - i) (Pl.rw' t i) := ⟨h.m1, h.m2, by have := h.d2; omega, h.row i hi, h.red i⟩
def addR (m : Int) (d : Nat) (l l' : List Int) : List Int := Ser.cut m d fun n => Ser.co l n + Ser.co l' n
def scaR (m : Int) (d : Nat) (l : List Int) (k : Int) : List Int := Ser.cut m d fun n => Ser.co l n * k
theorem mul_bdR {x y : Int} (h1 : 0 ≤ x) (h2 : x ≤ 10000) (h3 : -10000 ≤ y) (h4 : y ≤ 10000) : -100000000 ≤ x * y ∧ x * y ≤ 100000000 := by
  constructor
  · have := Int.mul_le_mul_of_nonneg_left (c := x) h3 h1
    have e : x * -10000 = -(x * 10000) := Int.mul_neg _ _
    omega
  · have := Int.mul_le_mul_of_nonneg_left (c := x) h4 h1
    omega
end Go.Proofs.Ytlpfifdocgljnaa

