/- Texts of contracts, joined. -/
import Derived.Test.YtlpfifdocgljnacMgae
import Derived.Test.YtlpfifdocgljnacMgai
import Derived.Test.YtlpfifdocgljnacMgad
import Derived.Test.YtlpfifdocgljnacMgaa
import Derived.Test.YtlpfifdocgljnacMgac
/- Contracts of the model's look for faults, of IsLaw and LawFault. -/
namespace Go.Proofs.Ytlpfifdocgljnac
open Go.RowKit Go.WideShapes Go.ChangeShapes Go.ChangeAt

theorem OwnI.lit0 (w : World) : OwnI (w.alloc (.cells #[] 2)) w.heap.size (.slice (some ⟨w.heap.size, 0, none⟩) 0 0) [] :=
  ⟨rfl, .inr ⟨w.heap.size, 0, #[], rfl, Nat.le_refl _, heap_alloc_new w _, Nat.le_refl _, Nat.zero_le _, rfl, rfl⟩⟩
theorem OwnT.lit0 (w : World) (pre : List Value) (e : TypeId) : OwnT pre e (w.alloc (.cells #[] e)) w.heap.size (.slice (some ⟨w.heap.size, 0, none⟩) 0 0) [] :=
  ⟨[], rfl, ⟨by simp, .inr ⟨w.heap.size, 0, #[], rfl, Nat.le_refl _, heap_alloc_new w _, Nat.le_refl _, Nat.zero_le _, by simp, by simp⟩⟩, fun i t ht => by simp at ht⟩
/-- the first n coefficients of a column -/
def colL (t : List (List Int)) (n j : Nat) : List Int := (List.range n).map fun i => Pl.pc t i j
theorem colL_length (t : List (List Int)) (n j : Nat) : (colL t n j).length = n := by simp [colL]
theorem colL_succ (t : List (List Int)) (n j : Nat) : colL t (n + 1) j = colL t n j ++ [Pl.pc t n j] := by simp [colL, List.range_succ]
theorem colL_co (t : List (List Int)) (n j i : Nat) (h : i < n) : Ser.co (colL t n j) i = Pl.pc t i j := by
  unfold Ser.co colL
  rw [List.getElem?_map, List.getElem?_range h]; rfl
theorem colL_red {m : Int} {d : Nat} {t : List (List Int)} (hs : Pl.Ok m d t) (n j : Nat) : Ser.Red m (colL t n j) := by
  intro i
  by_cases h : i < n
  · rw [colL_co _ _ _ _ h]; exact hs.pc i j
  · have : Ser.co (colL t n j) i = 0 := by
      unfold Ser.co
      rw [List.getElem?_eq_none (by rw [colL_length]; omega)]; rfl
    rw [this]
    have := hs.m1
    omega
set_option maxHeartbeats 4000000 in
set_option maxRecDepth 100000 in
theorem l04Column_any (m : Int) (d : Nat) (A : Option Addr) (c : Nat) (t : List (List Int)) (j : Nat) (w : World) (hs : Pl.Ok m d t) (hr : RP w A t) (hj : j ≤ d) :
    Calls Try.prog 118 #[.slice A t.length c, .int .i64 j] w fun e w' => ∃ v, e = .returned v ∧ OwnI w' w.heap.size v (colL t (d + 1 - j) j) ∧ Below w.heap.size w w' := by
  have HS := Lib.hid hs
  have HR := Lib.hid hr
  have hd2 := hs.d2
  obtain ⟨n, hn⟩ : ∃ n, d + 1 - j = n := ⟨_, rfl⟩
  rw [hn]
  have HN := Lib.hid hn
  have HNJ := Lib.hid (show n + j = d + 1 by omega)
  have hn1 : n ≤ 11 := by omega
  have hj1 : j ≤ 10 := by omega
  obtain ⟨L, hL⟩ : ∃ L, t.length = L := ⟨_, rfl⟩
  have HL := Lib.hid hL
  have HLn := Lib.hid (show L = n + j by have := hs.len; omega)
  rw [hL]
  have hb0 := below_one w (.cells #[] 2)
  have HO0 := Lib.hid (OwnI.lit0 w)
  have HB0 := Lib.hid hb0
  clear hs hr hn hL hb0
  go_enter Try.func118, Try.ntmps118
  go_wp2
  go_loopw [5, 6] (fun s5 s6 wr => ∃ k : Nat, k ≤ n ∧ s6 = .int .i64 k ∧ OwnI wr w.heap.size s5 (colL t k j) ∧ Below w.heap.size w wr) (fun _ s6 _ => n - (intOf s6).toNat)
  case atStart => exact ⟨0, Nat.zero_le _, rfl, HO0.out, HB0.out⟩
  case round =>
    clear HO0 HB0
    obtain ⟨k, hk, rfl, hown, hbel⟩ := hrel
    have HB := Lib.hid hbel
    have HO := Lib.hid hown
    have hsz := hbel.size
    by_cases hlt : k < n
    · obtain ⟨b, off, b', off', c', rfl, hb, h1, hb', h2⟩ := HR.out.num k j (by rw [HL.out, HLn.out]; omega) (by rw [HS.out.row k (by have := HNJ.out; omega)]; have := HNJ.out; omega)
      have h1 := (hbel.cell (p := ⟨b, off + k, none⟩) hb).trans h1
      have h2 := (hbel.cell (p := ⟨b', off' + j, none⟩) hb').trans h2
      rw [HS.out.row k (by have := HNJ.out; omega)] at h1
      have hst := colL_succ t k j
      have HLE := Lib.hid (show (colL t k j).length ≤ 1000000000000 by rw [colL_length]; omega)
      obtain ⟨X, hX⟩ : ∃ X, Pl.pc t k j = X := ⟨_, rfl⟩
      rw [hX] at h2 hst
      have HST := Lib.hid hst
      obtain ⟨M, hM⟩ : ∃ M, d - k + 1 = M := ⟨_, rfl⟩
      have j2 : (j : Int) < (M : Int) := by have := HNJ.out; omega
      rw [hM] at h1
      have j0 : (0 : Int) ≤ (k : Int) := by omega
      have j1 : (k : Int) < (L : Int) := by have := HLn.out; omega
      have j3 : (0 : Int) ≤ (j : Int) := by omega
      have j4 : (k : Int) + (j : Int) < (L : Int) := by have := HLn.out; omega
      have hL9 : L ≤ 30 := by have := HLn.out; omega
      clear hown hbel hX hst hM
      go_wp2_with (at_builtin; refine wp_push _ _ _ (by rfl) (by rfl) Try.underlying35 w.heap.size _ _ (by rfl) HO.out X (by rfl) HLE.out hsz ?_; intro v' w1 ho1 hpb)
      have HP := Lib.hid hpb
      have HQ := Lib.hid ho1
      clear hpb ho1
      go_wp2
      go_roundw
      case rel => exact ⟨k + 1, by omega, by go_num, by rw [HST.out]; exact HQ.out, HB.out.trans HP.out⟩
      case measure => simp only [intOf]; omega
    · obtain rfl : k = n := by omega
      have j4 : ¬ (k : Int) + (j : Int) < (L : Int) := by have := HLn.out; omega
      have hL9 : L ≤ 30 := by have := HLn.out; omega
      clear hown hbel
      go_wp2
      go_ret
      exact ⟨_, rfl, HO.out, HB.out⟩

/-! the lists of tables -/
def leftT (m : Int) (d : Nat) (t : List (List Int)) (z : Nat) : List (List Int) := Pl.horq m d (colL t (d + 1 - z) z) (Pl.pc t) (d + 1 - z)
def rightT (m : Int) (d : Nat) (t : List (List Int)) (z : Nat) : List (List Int) := Pl.horq m d (Pl.rw' t z) (Pl.pc t) (d + 1 - z)
def mapT (f : Nat → List (List Int)) (n : Nat) : List (List (List Int)) := (List.range n).map f
theorem mapT_length (f : Nat → List (List Int)) (n : Nat) : (mapT f n).length = n := by simp [mapT]
theorem mapT_succ (f : Nat → List (List Int)) (n : Nat) : mapT f (n + 1) = mapT f n ++ [f n] := by simp [mapT, List.range_succ]
theorem mapT_get (f : Nat → List (List Int)) (n i : Nat) (h : i < n) : (mapT f n)[i]?.getD [] = f i := by
  unfold mapT
  rw [List.getElem?_map, List.getElem?_range h]; rfl
theorem left_br {m : Int} {d : Nat} (t : List (List Int)) (a b z : Nat) (hab : a + b ≤ d) : Pl.pc (leftT m d t z) a b = Pl.br m d (Pl.pc t) a b z := by
  have h := Pl.horq_br (m := m) (d := d) (colL t (d + 1 - z) z) (Pl.pc t) z (by rw [colL_length]) (fun i hi => colL_co _ _ _ _ (by rw [colL_length] at hi; exact hi)) a b hab
  rw [colL_length] at h
  exact h
theorem right_br {m : Int} {d : Nat} {t : List (List Int)} (hs : Pl.Ok m d t) (hy : Pl.Sym d (Pl.pc t)) (a b z : Nat) (hz : z ≤ d) (hab : a + b ≤ d) : Pl.pc (rightT m d t z) b a = Pl.br m d (Pl.pc t) a b z := by
  have hl : (Pl.rw' t z).length = d + 1 - z := by rw [hs.row z hz]; omega
  have h := Pl.horq_br' (m := m) (d := d) (Pl.rw' t z) hy z hl (fun i _ => rfl) a b hab
  rw [hl] at h
  exact h
theorem leftT_ok {m : Int} {d : Nat} {t : List (List Int)} (hs : Pl.Ok m d t) (z : Nat) : Pl.Ok m d (leftT m d t z) := Pl.horq_ok hs.m1 hs.m2 hs.d1 hs.d2 _ _ _
theorem rightT_ok {m : Int} {d : Nat} {t : List (List Int)} (hs : Pl.Ok m d t) (z : Nat) : Pl.Ok m d (rightT m d t z) := Pl.horq_ok hs.m1 hs.m2 hs.d1 hs.d2 _ _ _
theorem infoTab : (Try.prog.info? 22).map (fun i => (i.zero, i.size, i.bytes)) = some (some (.slice none 0 0), 1, 24) := by kernel_rfl
theorem tb_ne1 : (22 : TypeId) ≠ 2 := by decide
theorem tb_ne2 : (22 : TypeId) ≠ 35 := by decide
theorem OwnT.tabl {w : World} {lo : Nat} {v : Value} {ts : List (List (List Int))} (h : OwnT [] 22 w lo v ts) (i : Nat) (hi : i < ts.length) :
    ∃ g c A' c', v = .slice (some ⟨g, 0, none⟩) ts.length c ∧ g < w.heap.size ∧ w.cell? ⟨g, i, none⟩ = some (.slice A' (ts[i]?.getD []).length c') ∧ RP w A' (ts[i]?.getD []) := by
  obtain ⟨g, c, A', c', h1, h2, h3, h4, h5, h6⟩ := h.at i hi
  have e : i * (([] : List Value).length + 1) + ([] : List Value).length = i := by simp
  rw [e] at h4
  exact ⟨g, c, A', c', h1, h2, h4, h5⟩
theorem bx_in {W w' : World} {g : Nat} {m : Int} {A : Option Addr} {n c : Nat} (h : Box W g m A n c) (hb : Below W.heap.size W w') :
    (w'.cell? ⟨g, 0, none⟩ = some (.int .i64 m) ∧ w'.cell? ⟨g, 1, none⟩ = some (.slice A n c) ∧ g < w'.heap.size) ∧ Below W.heap.size W w' := ⟨h.keep hb, hb⟩
theorem bxc_in {W w' : World} {g b o : Nat} {m : Int} {A : Option Addr} {n c : Nat} {x : Value} (h : Box W g m A n c) (hc : W.cell? ⟨b, o, none⟩ = some x) (hlt : b < W.heap.size) (hb : Below W.heap.size W w') :
    (w'.cell? ⟨g, 0, none⟩ = some (.int .i64 m) ∧ w'.cell? ⟨g, 1, none⟩ = some (.slice A n c) ∧ g < w'.heap.size) ∧ w'.cell? ⟨b, o, none⟩ = some x ∧ Below W.heap.size W w' := ⟨h.keep hb, (hb.cell (p := ⟨b, o, none⟩) hlt).trans hc, hb⟩
theorem tri_num {w : World} {lo : Nat} {m : Int} {d : Nat} {t : List (List Int)} {A9 A10 : Option Addr} {n c9 c10 : Nat} (hs : Pl.Ok m d t) (hy : Pl.Sym d (Pl.pc t)) (h1 : OwnT [] 22 w lo (.slice A9 n c9) (mapT (leftT m d t) n)) (h2 : OwnT [] 22 w lo (.slice A10 n c10) (mapT (rightT m d t) n)) (hn : n = d + 1)
    (a b e : Nat) (W0 : World) (hab : a + b + e ≤ d) (h : Below w.heap.size w W0) :
    (∃ g A' c' b4 o4 b5 o5 c5, A9 = some ⟨g, 0, none⟩ ∧ W0.cell? ⟨g, e, none⟩ = some (.slice A' (d + 1) c') ∧ A' = some ⟨b4, o4, none⟩ ∧ W0.cell? ⟨b4, o4 + a, none⟩ = some (.slice (some ⟨b5, o5, none⟩) (d - a + 1) c5) ∧ W0.cell? ⟨b5, o5 + b, none⟩ = some (.int .i64 (Pl.br m d (Pl.pc t) a b e))) ∧
    (∃ g A' c' b4 o4 b5 o5 c5, A10 = some ⟨g, 0, none⟩ ∧ W0.cell? ⟨g, a, none⟩ = some (.slice A' (d + 1) c') ∧ A' = some ⟨b4, o4, none⟩ ∧ W0.cell? ⟨b4, o4 + b, none⟩ = some (.slice (some ⟨b5, o5, none⟩) (d - b + 1) c5) ∧ W0.cell? ⟨b5, o5 + e, none⟩ = some (.int .i64 (Pl.br m d (Pl.pc t) e b a))) := by
  refine ⟨?_, ?_⟩
  · obtain ⟨g, c, A', c', e0, k0, k1, k2⟩ := (h1.keep h).tabl e (by rw [mapT_length]; omega)
    rw [mapT_get _ _ _ (by omega)] at k1 k2
    have ok := leftT_ok hs e
    obtain ⟨b4, o4, b5, o5, c5, e4, -, k5, -, k6⟩ := k2.num a b (by rw [ok.len]; omega) (by rw [ok.row a (by omega)]; omega)
    rw [ok.len] at k1
    rw [ok.row a (by omega)] at k5
    rw [left_br t a b e (by omega)] at k6
    injection e0 with e0
    exact ⟨g, A', c', b4, o4, b5, o5, c5, e0, k1, e4, k5, k6⟩
  · obtain ⟨g, c, A', c', e0, k0, k1, k2⟩ := (h2.keep h).tabl a (by rw [mapT_length]; omega)
    rw [mapT_get _ _ _ (by omega)] at k1 k2
    have ok := rightT_ok hs a
    obtain ⟨b4, o4, b5, o5, c5, e4, -, k5, -, k6⟩ := k2.num b e (by rw [ok.len]; omega) (by rw [ok.row b (by omega)]; omega)
    rw [ok.len] at k1
    rw [ok.row b (by omega)] at k5
    rw [right_br hs hy e b a (by omega) (by omega)] at k6
    injection e0 with e0
    exact ⟨g, A', c', b4, o4, b5, o5, c5, e0, k1, e4, k5, k6⟩
theorem ne_turn {a b : Option Nat} (h : a = none ∨ a ≠ b) : b = none ∨ b ≠ a := by
  rcases h with h | h
  · subst h
    cases b with
    | none => exact .inl rfl
    | some x => exact .inr (fun e => by cases e)
  · exact .inr (Ne.symm h)
theorem no_pre : ∀ y, y ∈ ([] : List Value) → y.oneCell' = true := fun y hy => by simp at hy
theorem bxs_call {W w w' : World} {g : Nat} {x y : Value} (hb : Below w.heap.size w w') (h : (w.cell? ⟨g, 0, none⟩ = some x ∧ w.cell? ⟨g, 1, none⟩ = some y ∧ g < w.heap.size) ∧ Below W.heap.size W w) :
    (w'.cell? ⟨g, 0, none⟩ = some x ∧ w'.cell? ⟨g, 1, none⟩ = some y ∧ g < w'.heap.size) ∧ Below W.heap.size W w' :=
  ⟨⟨(hb.cell (p := ⟨g, 0, none⟩) h.1.2.2).trans h.1.1, (hb.cell (p := ⟨g, 1, none⟩) h.1.2.2).trans h.1.2.1, Nat.lt_of_lt_of_le h.1.2.2 hb.size⟩, below_step h.2 hb⟩
theorem bxs_push {W w w' : World} {g : Nat} {x y : Value} (hg : g < W.heap.size) (hb : Below W.heap.size w w') (h : (w.cell? ⟨g, 0, none⟩ = some x ∧ w.cell? ⟨g, 1, none⟩ = some y ∧ g < w.heap.size) ∧ Below W.heap.size W w) :
    (w'.cell? ⟨g, 0, none⟩ = some x ∧ w'.cell? ⟨g, 1, none⟩ = some y ∧ g < w'.heap.size) ∧ Below W.heap.size W w' :=
  ⟨⟨(hb.cell (p := ⟨g, 0, none⟩) hg).trans h.1.1, (hb.cell (p := ⟨g, 1, none⟩) hg).trans h.1.2.1, Nat.lt_of_lt_of_le h.1.2.2 hb.size⟩, h.2.trans hb⟩
theorem thr3 {p q r : Prop} (h : p ∧ q ∧ r) : r := h.2.2
theorem rp_num_in {W : World} {b off : Nat} {m : Int} {d : Nat} {t : List (List Int)} (hr : RP W (some ⟨b, off, none⟩) t) (hs : Pl.Ok m d t) (i j : Nat) (W0 : World) (hij : i + j ≤ d) (h : Below W.heap.size W W0) :
    ∃ b' off' c' N, N = d - i + 1 ∧ W0.cell? ⟨b, off + i, none⟩ = some (.slice (some ⟨b', off', none⟩) N c') ∧ W0.cell? ⟨b', off' + j, none⟩ = some (.int .i64 (Pl.pc t i j)) := by
  obtain ⟨b0, off0, b', off', c', e, hb, k1, hb', k2⟩ := hr.num i j (by rw [hs.len]; omega) (by rw [hs.row i (by omega)]; omega)
  injection e with e
  injection e with e1 e2
  subst e1 e2
  exact ⟨b', off', c', _, hs.row i (by omega), (h.cell (p := ⟨b, off + i, none⟩) hb).trans k1, (h.cell (p := ⟨b', off' + j, none⟩) hb').trans k2⟩
set_option maxHeartbeats 16000000 in
set_option maxRecDepth 100000 in
theorem l04Fault_any (m : Int) (d : Nat) (A : Option Addr) (c : Nat) (t : List (List Int)) (w : World) (hs : Pl.Ok m d t) (hr : RP w A t) :
    Calls Try.prog 84 #[.agg #[.int .i64 m, .slice A t.length c]] w fun e w' => ∃ v, e = .returned v ∧ OwnI w' w.heap.size v ((Pl.fau m d (Pl.pc t)).getD []) ∧ Below w.heap.size w w' := by
  obtain ⟨b, off, rfl⟩ := hr.some (by rw [hs.len]; omega)
  obtain ⟨W, hW, b1, hwb⟩ := start1 27 w m (some ⟨b, off, none⟩) t.length c
  have B1 := Lib.hid b1
  have HB := Lib.hid hwb
  have HW := Lib.hid hW
  have HS := Lib.hid hs
  have hd2 := hs.d2
  have hrW := hr.below hwb
  have HR := Lib.hid hrW
  have hnum := rp_num_in hrW hs
  have HNUM := Lib.hid hnum
  have hc := fun (j : Nat) (W0 : World) (hj : j ≤ d) (h : Below W.heap.size W W0) => l04Column_any m d (some ⟨b, off, none⟩) c t j W0 hs (hrW.below h) hj
  have ha := fun (A0 : Option Addr) (c0 : Nat) (l : List Int) (W0 : World) (hn : l.length ≤ d + 1) (hred : Ser.Red m l) (h : RI W0 A0 l) (h' : Below W.heap.size W W0) => l03AfterQ_any m d A0 c0 l (some ⟨b, off, none⟩) c t W0 hn hred hs h (hrW.below h')
  have hrows := fun (k : Nat) (hk : k ≤ d) => hrW.at k (by rw [hs.len]; omega)
  obtain ⟨o, ho⟩ : ∃ o, Pl.fau m d (Pl.pc t) = o := ⟨_, rfl⟩
  rw [ho]
  obtain ⟨oP, hoP⟩ : ∃ o, Pl.fauP d (Pl.pc t) = o := ⟨_, rfl⟩
  obtain ⟨oS, hoS⟩ : ∃ o, Pl.fauS d (Pl.pc t) = o := ⟨_, rfl⟩
  obtain ⟨oT, hoT⟩ : ∃ o, Pl.fauT m d (Pl.pc t) = o := ⟨_, rfl⟩
  have HO : Hid (o = Pl.orE oP (Pl.orE oS oT)) := Lib.hid (by rw [← ho, ← hoP, ← hoS, ← hoT]; rfl)
  have HOP := Lib.hid (show Pl.srch (Pl.fau0 (Pl.pc t)) (d + 1 - 0) 0 = oP from hoP)
  have HOS := Lib.hid (show Pl.srch (Pl.fau1 d (Pl.pc t)) (d + 1 - 0) 0 = oS from hoS)
  have HOT := Lib.hid (show Pl.srch (Pl.fau2 m d (Pl.pc t)) (d + 1 - 0) 0 = oT from hoT)
  have HSY := Lib.hid (fun (h : oS = none) => Pl.fauS_none (hoS.trans h))
  obtain ⟨L, hL⟩ : ∃ L, t.length = L := ⟨_, rfl⟩
  rw [hL] at ha hc B1 HW ⊢
  have HC := Lib.hid hc
  have HA := Lib.hid ha
  have HROWS := Lib.hid hrows
  have HLd := Lib.hid (hL.symm.trans hs.len)
  have hLb : L ≤ 11 := by have := HLd.out; omega
  obtain ⟨x1, x2, x3⟩ := B1.out
  clear b1 hwb hW hr hs hrW hnum hc ha hrows ho hoP hoS hoT hL
  go_enter Try.func84, Try.ntmps84
  go_wp2
  rw [HW.out]
  go_quiet (fail)
  go_wp2
  clear x1 x2 x3
  go_loopw [5, 6] (fun s5 _ wr => ∃ k : Nat, k ≤ L ∧ s5 = .int .i64 k ∧ Pl.srch (Pl.fau0 (Pl.pc t)) (d + 1 - k) k = oP ∧ Below W.heap.size W wr) (fun s5 _ _ => L - (intOf s5).toNat)
  case atStart => exact ⟨0, Nat.zero_le _, rfl, HOP.out, below_drewN (Below.refl _ _) _⟩
  case round =>
    clear HOP
    obtain ⟨k, hk, rfl, hso, hbel⟩ := hrel
    have HBE := Lib.hid hbel
    have hLd := HLd.out
    by_cases hlt : k < L
    · obtain ⟨b', off', c', N, hN, h1, h2⟩ := HNUM.out k 0 wr (by omega) hbel
      rw [Nat.add_zero] at h2
      have hgo := fun h => Pl.fau0_go (F := Pl.pc t) (d := d) (k := k) (by omega) hso h
      have hno := fun h => Pl.fau0_no (F := Pl.pc t) (d := d) (k := k) (by omega) hso h
      obtain ⟨X, hX⟩ : ∃ X, Pl.pc t k 0 = X := ⟨_, rfl⟩
      rw [hX] at h2 hgo hno
      have j0 : (0 : Int) ≤ (k : Int) := by omega
      have j1 : (k : Int) < (L : Int) := by omega
      have j2 : (0 : Int) < (N : Int) := by omega
      have j3 : (0 : Nat) < N := by omega
      clear hbel hso hX hN hLd
      by_cases hk1 : k = 1
      · have e1 : ((k : Int) == 1) = true := by simp [hk1]
        rw [show Pl.want k = 1 by rw [hk1]; rfl] at hgo hno
        clear hk1
        by_cases hx1 : X = 1
        · have HNX := Lib.hid (hgo hx1)
          clear hgo hno
          subst hx1
          go_wp2
          go_roundw
          case rel => exact ⟨k + 1, by omega, by go_num, HNX.out, HBE.out⟩
          case measure => simp only [intOf]; omega
        · have HNX := Lib.hid (hno hx1)
          obtain ⟨n3, n4⟩ : (X == 1) = false ∧ (X != 1) = true := ⟨by simpa using hx1, by simpa using hx1⟩
          clear hgo hno
          go_wp2
          go_ret
          exact ⟨_, rfl, by rw [HO.out, HNX.out]; exact (OwnI.lit2 wr 0 (k : Int)).more (below_step HB.out HBE.out).size, below_step HB.out (below_alloc _ HBE.out)⟩
      · have hk9 : ¬ (k : Int) = 1 := by omega
        obtain ⟨e1, e2⟩ : ((k : Int) == 1) = false ∧ ((k : Int) != 1) = true := ⟨by simpa using hk9, by simpa using hk9⟩
        rw [show Pl.want k = 0 by unfold Pl.want; rw [if_neg hk1]] at hgo hno
        by_cases hx1 : X = 0
        · have HNX := Lib.hid (hgo hx1)
          clear hgo hno
          subst hx1
          go_wp2
          go_roundw
          case rel => exact ⟨k + 1, by omega, by go_num, HNX.out, HBE.out⟩
          case measure => simp only [intOf]; omega
        · have HNX := Lib.hid (hno hx1)
          obtain ⟨n3, n4⟩ : (X == 0) = false ∧ (X != 0) = true := ⟨by simpa using hx1, by simpa using hx1⟩
          clear hgo hno
          go_wp2
          go_ret
          exact ⟨_, rfl, by rw [HO.out, HNX.out]; exact (OwnI.lit2 wr 0 (k : Int)).more (below_step HB.out HBE.out).size, below_step HB.out (below_alloc _ HBE.out)⟩
    · obtain rfl : k = L := by omega
      rw [hLd, Nat.sub_self] at hso
      have HP0 := Lib.hid (show oP = none from hso.symm)
      clear hbel hso hLd
      go_wp2
      go_loopw [7, 8] (fun s7 _ wr => ∃ i : Nat, i ≤ d + 1 ∧ s7 = .int .i64 i ∧ Pl.srch (Pl.fau1 d (Pl.pc t)) (d + 1 - i) i = oS ∧ Below W.heap.size W wr) (fun s7 _ _ => d + 1 - (intOf s7).toNat)
      case atStart => exact ⟨0, Nat.zero_le _, rfl, HOS.out, HBE.out⟩
      case round =>
        clear HOS HBE
        obtain ⟨i, hi, rfl, hso, hbel⟩ := hrel
        have HBE := Lib.hid hbel
        have hLd := HLd.out
        by_cases hlt : i < d + 1
        · have HIN := Lib.hid (Pl.fau1_in hlt hso)
          have j1 : (i : Int) < (k : Int) := by omega
          have j0 : (0 : Int) ≤ (i : Int) := by omega
          have hi10 : i ≤ 10 := by omega
          obtain ⟨r, hr⟩ : ∃ r, Pl.srch (Pl.fau1 d (Pl.pc t)) (d + 1 - (i + 1)) (i + 1) = r := ⟨_, rfl⟩
          rw [hr] at HIN
          have HRR := Lib.hid hr
          clear hso hr hbel hLd
          go_wp2
          go_loopw [8] (fun s8 wr => ∃ j : Nat, j ≤ d + 2 ∧ s8 = .int .i64 j ∧ Pl.orE (Pl.srch (Pl.fau1j (Pl.pc t) i) (d + 1 - i - j) j) r = oS ∧ Below W.heap.size W wr) (fun s8 _ => d + 3 - (intOf s8).toNat)
          case atStart => exact ⟨i + 1, by omega, by first | rfl | go_num, HIN.out, HBE.out⟩
          case round =>
            clear HIN HBE
            obtain ⟨j, hj, rfl, hso, hbel⟩ := hrel
            have HBE := Lib.hid hbel
            have hLd := HLd.out
            by_cases hjN : i + j < d + 1
            · obtain ⟨b', off', c', N, hN, h1, h2⟩ := HNUM.out i j wr (by omega) hbel
              obtain ⟨b2, off2, c2, N2, hN2, h3, h4⟩ := HNUM.out j i wr (by omega) hbel
              have hgo := Pl.fau1_go (F := Pl.pc t) (d := d) (i := i) (j := j) (by omega) hso
              have hno := Pl.fau1_no (F := Pl.pc t) (d := d) (i := i) (j := j) (by omega) hso
              obtain ⟨X, hX⟩ : ∃ X, Pl.pc t i j = X := ⟨_, rfl⟩
              obtain ⟨Y, hY⟩ : ∃ Y, Pl.pc t j i = Y := ⟨_, rfl⟩
              rw [hX, hY] at hgo hno
              rw [hX] at h2
              rw [hY] at h4
              have j2 : (0 : Int) ≤ (j : Int) := by omega
              have j3 : (j : Int) < (N : Int) := by omega
              have j4 : (j : Int) < (k : Int) := by omega
              have j5 : (i : Int) < (N2 : Int) := by omega
              have j6 : (i : Int) + (j : Int) < (k : Int) := by omega
              clear hso hX hY hN hN2 hLd hbel
              by_cases hxy : X = Y
              · have HNX := Lib.hid (hgo hxy)
                subst hxy
                clear hgo hno
                go_wp2
                go_quiet (fail)
                go_wp2
                go_roundw
                case rel => exact ⟨j + 1, by omega, by go_num, HNX.out, below_drewN HBE.out _⟩
                case measure => simp only [intOf]; omega
              · have HNX := Lib.hid (hno hxy)
                obtain ⟨n1, n2⟩ : (X == Y) = false ∧ (X != Y) = true := ⟨by simpa using hxy, by simpa using hxy⟩
                clear hgo hno
                go_wp2
                go_quiet (fail)
                go_wp2
                go_ret
                exact ⟨_, rfl, by rw [HO.out, HP0.out, HNX.out]; exact (OwnI.lit3 _ 1 (i : Int) (j : Int)).more (by first | exact (below_step HB.out HBE.out).size | exact (below_drewN (below_step HB.out HBE.out) _).size), below_step HB.out (below_alloc _ (by first | exact HBE.out | exact below_drewN HBE.out _))⟩
            · have HNX := Lib.hid (HRR.out.trans (Pl.fau1_out hjN hso))
              have j6 : ¬ (i : Int) + (j : Int) < (k : Int) := by omega
              clear hso hbel hLd
              go_wp2
              go_roundw
              case rel => exact ⟨i + 1, by omega, by go_num, HNX.out, HBE.out⟩
              case measure => simp only [intOf]; omega
        · obtain rfl : i = d + 1 := by omega
          rw [Nat.sub_self] at hso
          have HS0 := Lib.hid (show oS = none from hso.symm)
          have HSYM := Lib.hid (HSY.out hso.symm)
          have j1 : ¬ (((d + 1 : Nat) : Int)) < (k : Int) := by omega
          clear hso hbel hLd HNUM HSY
          go_wp2
          have HL0 := Lib.hid (OwnT.lit0 wr [] 22)
          have HL1 := Lib.hid (OwnT.lit0 (wr.alloc (.cells #[] 22)) [] 22)
          have HZ := Lib.hid (HBE.out.size)
          go_loopw [9, 10, 11] (fun s9 s10 s11 wx => ∃ z : Nat, z ≤ k ∧ s11 = .int .i64 z ∧ OwnT [] 22 wx W.heap.size s9 (mapT (leftT m d t) z) ∧ OwnT [] 22 wx W.heap.size s10 (mapT (rightT m d t) z) ∧ (s10.ownBlock = none ∨ s10.ownBlock ≠ s9.ownBlock) ∧ Below W.heap.size W wx) (fun _ _ s11 _ => k - (intOf s11).toNat)
          case atStart => exact ⟨0, Nat.zero_le _, rfl, (HL0.out.keep (below_one _ _)).more HZ.out, by have := HL1.out.more (Nat.le_trans HZ.out (below_one wr (.cells #[] 22)).size); simpa [mapT] using this, .inr (by simp [Value.ownBlock]), below_alloc _ (below_alloc _ HBE.out)⟩
          case round =>
            clear HL0 HL1 HZ HBE
            obtain ⟨z, hz, rfl, ho1, ho2, hne, hbel⟩ := hrel
            obtain ⟨A9, c9, rfl⟩ := ho1.form
            obtain ⟨A10, c10, rfl⟩ := ho2.form
            have HNE := Lib.hid hne
            clear hne
            have HBE := Lib.hid hbel
            have HO1 := Lib.hid ho1
            have HO2 := Lib.hid ho2
            have hLd := HLd.out
            by_cases hlt : z < k
            · have HWL := Lib.hid (show w.heap.size < W.heap.size from B1.out.2.2)
              have X0 := Lib.hid (bx_in B1.out (hbel.trans ((below_drew0 wr).mono hbel.size)))
              have HCZ := Lib.hid (fun W0 (h : Below W.heap.size W W0) => HC.out z W0 (by omega) h)
              have HAZ : Hid (∀ (A0 : Option Addr) (c0 : Nat) (W0 : World), RI W0 A0 (colL t (d + 1 - z) z) → Below W.heap.size W W0 → Calls Try.prog 117 #[.int .i64 m, .slice A0 (d + 1 - z) c0, .slice (some ⟨b, off, none⟩) k c] W0 fun e w' => ∃ v, e = .returned v ∧ OwnR w' W0.heap.size w'.heap.size v (leftT m d t z) ∧ Below W0.heap.size W0 w') := Lib.hid (fun A0 c0 W0 h h' => by
                have := HA.out A0 c0 (colL t (d + 1 - z) z) W0 (by rw [colL_length]; omega) (colL_red HS.out _ _) h h'
                rw [colL_length] at this
                exact this)
              obtain ⟨b0, off0, Az, cz, e0, hb0, hr1, -, hr3⟩ := HROWS.out z (by omega)
              have HAR : Hid (∀ (W0 : World), Below W.heap.size W W0 → Calls Try.prog 117 #[.int .i64 m, .slice Az (d + 1 - z) cz, .slice (some ⟨b, off, none⟩) k c] W0 fun e w' => ∃ v, e = .returned v ∧ OwnR w' W0.heap.size w'.heap.size v (rightT m d t z) ∧ Below W0.heap.size W0 w') := Lib.hid (fun W0 h' => by
                have hl : (Pl.rw' t z).length = d + 1 - z := by rw [HS.out.row z (by omega)]; omega
                have := HA.out Az cz (Pl.rw' t z) W0 (by rw [hl]; omega) (HS.out.red z) (hr3.below h') h'
                rw [hl] at this
                exact this)
              rw [HS.out.row z (by omega), show d - z + 1 = d + 1 - z by omega] at hr1
              injection e0 with e0
              injection e0 with e1 e2
              subst e1 e2
              have hcl := colL_length t (d + 1 - z) z
              have hs1 := mapT_succ (leftT m d t) z
              have hs2 := mapT_succ (rightT m d t) z
              have HLE1 := Lib.hid (show (mapT (leftT m d t) z).length ≤ 1000000 by rw [mapT_length]; omega)
              have HLE2 := Lib.hid (show (mapT (rightT m d t) z).length ≤ 1000000 by rw [mapT_length]; omega)
              obtain ⟨C, hC⟩ : ∃ C, colL t (d + 1 - z) z = C := ⟨_, rfl⟩
              rw [hC] at HCZ HAZ hcl
              have HCL := Lib.hid hcl
              obtain ⟨RL, hRL⟩ : ∃ R, leftT m d t z = R := ⟨_, rfl⟩
              obtain ⟨RR, hRR⟩ : ∃ R, rightT m d t z = R := ⟨_, rfl⟩
              have HRL : Hid (RL.length = d + 1) := Lib.hid (by rw [← hRL]; exact (leftT_ok HS.out z).len)
              have HRR : Hid (RR.length = d + 1) := Lib.hid (by rw [← hRR]; exact (rightT_ok HS.out z).len)
              rw [hRL] at HAZ hs1
              rw [hRR] at HAR hs2
              obtain ⟨n, hn⟩ : ∃ n, d + 1 - z = n := ⟨_, rfl⟩
              rw [hn] at HAZ HAR HCL hr1
              have HS1 := Lib.hid hs1
              have HS2 := Lib.hid hs2
              have j2 : (z : Int) < (k : Int) := by omega
              have j3 : (0 : Int) ≤ (z : Int) := by omega
              have HZ := Lib.hid hbel.size
              obtain ⟨P1, hP1⟩ : ∃ P, mapT (leftT m d t) z = P := ⟨_, rfl⟩
              obtain ⟨P2, hP2⟩ : ∃ P, mapT (rightT m d t) z = P := ⟨_, rfl⟩
              rw [hP1] at HO1 HS1 HLE1 HNE ⊢
              rw [hP2] at HO2 HS2 HLE2 HNE ⊢
              have HB0 := Lib.hid hb0
              have HR1 := Lib.hid hr1
              clear ho1 ho2 hbel hC hRL hRR hs1 hs2 hcl hn hP1 hP2 hr1 hr3 hb0 hLd
              go_wp2
              go_region_held3 (fun w' => (w'.cell? ⟨w.heap.size, 0, none⟩ = some (.int .i64 m) ∧ w'.cell? ⟨w.heap.size, 1, none⟩ = some (.slice (some ⟨b, off, none⟩) k c) ∧ w.heap.size < w'.heap.size) ∧ Below W.heap.size W w') (first | exact X0.out | exact bxs_push HWL.out hpb (by assumption) | exact bxs_call hb3 (by assumption) | exact bxs_call hb2 (by assumption) | exact bxs_call (below_one _ _) (by assumption)) (first
                | (go_at_call 118; with_reducible refine Calls.mono (HCZ.out _ (snd2 (by assumption))) ?_; rintro e w2 ⟨v2, rfl, oc, hb2⟩; obtain ⟨Ac, cc, rfl, -⟩ := oc.form; have rc := oc.ri; rw [HCL.out])
                | (go_at_call 117; with_reducible refine Calls.mono (HAZ.out _ _ _ rc (snd2 (by assumption))) ?_; rintro e w3 ⟨v3, rfl, oa, hb3⟩; obtain ⟨A3, c3, rfl, -⟩ := oa.len; rw [HRL.out] at oa ⊢)
                | (refine step_pushD (pre := []) (e := 22) _ _ _ (by rfl) (by rfl) Try.underlying126 tb_ne1 tb_ne2 (.slice none 0 0) 24 infoTab rfl (by decide) no_pre W.heap.size w3.heap.size _ P1 (by rfl) ((HO1.out.keep (below_step (below_step (below_drew0 wr) hb2) hb3)).keep (below_one _ _)) (.slice A3 (d + 1) c3) RL ((oa.low (Nat.le_trans HZ.out (below_step (below_drew0 wr) hb2).size)).keep (below_one _ _)) (by simp) w3.heap.size (by rfl) (laid w3 [.slice A3 (d + 1) c3] _) HLE1.out (Nat.le_trans HZ.out (below_step (below_step (below_step (below_drew0 wr) hb2) hb3) (below_one _ _)).size) ?_; intro v' w4 ho4 hpb hoth))
              all_goals
                have hq := hoth _ _ ((HO2.out.keep (below_step (below_step (below_drew0 wr) hb2) hb3)).keep (below_one _ _)) HNE.out
                have HB4 := Lib.hid (show Below W.heap.size W w4 from snd2 (by assumption))
                have HO4 := Lib.hid ho4
                have HQ2 := Lib.hid hq.1
                have HNE2 := Lib.hid hq.2
                have Y0 := Lib.hid (bxc_in B1.out HR1.out HB0.out (HB4.out.trans ((below_drew0 w4).mono HB4.out.size)))
                have HZ4 := Lib.hid HB4.out.size
                clear hq hoth ho4 hpb oa oc rc hb2 hb3
                go_wp2
                go_region_held3 (fun w' => (w'.cell? ⟨w.heap.size, 0, none⟩ = some (.int .i64 m) ∧ w'.cell? ⟨w.heap.size, 1, none⟩ = some (.slice (some ⟨b, off, none⟩) k c) ∧ w.heap.size < w'.heap.size) ∧ w'.cell? ⟨b, off + z, none⟩ = some (.slice Az n cz) ∧ Below W.heap.size W w') (first | exact Y0.out | exact bxc_in B1.out HR1.out HB0.out (Below.trans (show Below W.heap.size W _ from thr3 (by assumption)) hpb5) | exact bxc_in B1.out HR1.out HB0.out (below_step (thr3 (by assumption)) hb5) | exact bxc_in B1.out HR1.out HB0.out (below_step (thr3 (by assumption)) (below_one _ _))) (first
                  | (go_at_call 117; with_reducible refine Calls.mono (HAR.out _ (thr3 (by assumption))) ?_; rintro e w5 ⟨v5, rfl, oa5, hb5⟩; obtain ⟨A5, c5, rfl, -⟩ := oa5.len; rw [HRR.out] at oa5 ⊢)
                  | (refine step_pushD (pre := []) (e := 22) _ _ _ (by rfl) (by rfl) Try.underlying126 tb_ne1 tb_ne2 (.slice none 0 0) 24 infoTab rfl (by decide) no_pre W.heap.size w5.heap.size _ P2 (by rfl) ((HQ2.out.keep (below_step (below_drew0 w4) hb5)).keep (below_one _ _)) (.slice A5 (d + 1) c5) RR ((oa5.low (Nat.le_trans HZ4.out (below_drew0 w4).size)).keep (below_one _ _)) (by simp) w5.heap.size (by rfl) (laid w5 [.slice A5 (d + 1) c5] _) HLE2.out (Nat.le_trans HZ4.out (below_step (below_step (below_drew0 w4) hb5) (below_one _ _)).size) ?_; intro v6 w6 ho6 hpb5 hoth5))
                all_goals
                  have hq := hoth5 _ _ ((HO4.out.keep (below_step (below_drew0 w4) hb5)).keep (below_one _ _)) (ne_turn HNE2.out)
                  have HB6 := Lib.hid (show Below W.heap.size W w6 from thr3 (by assumption))
                  have HO6 := Lib.hid ho6
                  have HQ3 := Lib.hid hq.1
                  have HNE3 := Lib.hid hq.2
                  clear hq hoth5 ho6 hpb5 oa5 hb5
                  go_wp2
                  go_roundw
                  case rel => exact ⟨z + 1, by omega, by go_num, by rw [HS1.out]; exact HQ3.out, by rw [HS2.out]; exact HO6.out, ne_turn HNE3.out, HB6.out⟩
                  case measure => simp only [intOf]; omega
            · obtain rfl : z = k := by omega
              have j4 : ¬ (z : Int) < (z : Int) := by omega
              clear ho1 ho2 hbel HNE
              rw [mapT_length] at HO1 HO2
              rw [mapT_length, mapT_length]
              obtain ⟨w0, hw0⟩ : ∃ w9, w9 = wr := ⟨_, rfl⟩
              subst hw0
              have HNM := Lib.hid (fun (a b e : Nat) (W0 : World) (hab : a + b + e ≤ d) (h : Below w0.heap.size w0 W0) => tri_num HS.out HSYM.out HO1.out HO2.out (by omega) a b e W0 hab h)
              clear HO1 HO2
              obtain ⟨n, hn⟩ : ∃ n, z = n := ⟨_, rfl⟩
              rw [hn] at hLd hLb ⊢
              have HND := Lib.hid hLd
              clear hn hz hLd
              go_wp2
              go_loopw [12, 13, 14] (fun s12 _ _ wx => ∃ a : Nat, a ≤ d + 1 ∧ s12 = .int .i64 a ∧ Pl.srch (Pl.fau2 m d (Pl.pc t)) (d + 1 - a) a = oT ∧ Below w0.heap.size w0 wx) (fun s12 _ _ _ => d + 1 - (intOf s12).toNat)
              case atStart => exact ⟨0, Nat.zero_le _, rfl, HOT.out, Below.refl _ _⟩
              case round =>
                clear HOT
                obtain ⟨a, ha, rfl, hso, hbel⟩ := hrel
                have HX := Lib.hid hbel
                have hLd := HND.out
                by_cases hlt : a < d + 1
                · have HIN := Lib.hid (Pl.fau2_in hlt hso)
                  have j1 : (a : Int) < (n : Int) := by omega
                  have j0 : (0 : Int) ≤ (a : Int) := by omega
                  have ha10 : a ≤ 10 := by omega
                  obtain ⟨r, hr⟩ : ∃ r, Pl.srch (Pl.fau2 m d (Pl.pc t)) (d + 1 - (a + 1)) (a + 1) = r := ⟨_, rfl⟩
                  rw [hr] at HIN
                  have HRR := Lib.hid hr
                  clear hso hr hbel hLd
                  go_wp2
                  go_loopw [13, 14] (fun s13 _ wx => ∃ b : Nat, a + b ≤ d + 1 ∧ s13 = .int .i64 b ∧ Pl.orE (Pl.srch (Pl.fau2b m d (Pl.pc t) a) (d + 1 - a - b) b) r = oT ∧ Below w0.heap.size w0 wx) (fun s13 _ _ => d + 1 - (intOf s13).toNat)
                  case atStart => exact ⟨0, by omega, rfl, HIN.out, HX.out⟩
                  case round =>
                    clear HIN HX
                    obtain ⟨b2, hb, rfl, hso, hbel⟩ := hrel
                    have HX := Lib.hid hbel
                    have hLd := HND.out
                    by_cases hltb : a + b2 < d + 1
                    · have HIN := Lib.hid (Pl.fau2b_in hltb hso)
                      have j2 : (a : Int) + (b2 : Int) < (n : Int) := by omega
                      have j3 : (0 : Int) ≤ (b2 : Int) := by omega
                      obtain ⟨r2, hr2⟩ : ∃ r2, Pl.orE (Pl.srch (Pl.fau2b m d (Pl.pc t) a) (d + 1 - a - (b2 + 1)) (b2 + 1)) r = r2 := ⟨_, rfl⟩
                      rw [hr2] at HIN
                      have HRR2 := Lib.hid hr2
                      clear hso hr2 hbel hLd
                      go_wp2
                      go_loopw [14] (fun s14 wx => ∃ e : Nat, a + b2 + e ≤ d + 1 ∧ s14 = .int .i64 e ∧ Pl.orE (Pl.srch (Pl.fau2c m d (Pl.pc t) a b2) (d + 1 - (a + b2) - e) e) r2 = oT ∧ Below w0.heap.size w0 wx) (fun s14 _ => d + 1 - (intOf s14).toNat)
                      case atStart => exact ⟨0, by omega, rfl, HIN.out, HX.out⟩
                      case round =>
                        clear HIN HX
                        obtain ⟨e, he, rfl, hso, hbel⟩ := hrel
                        have HX := Lib.hid hbel
                        have hLd := HND.out
                        by_cases hlte : a + b2 + e < d + 1
                        · have hgo := Pl.fau2c_go hlte hso
                          have hno := Pl.fau2c_no hlte hso
                          obtain ⟨⟨g1, A1, q1, b4, o4, b5, o5, q5, e9, f1, e4, f2, f3⟩, ⟨g2, A2, q2, b6, o6, b7, o7, q7, e10, f4, e6, f5, f6⟩⟩ := HNM.out a b2 e wr (by omega) hbel
                          subst e9 e4 e10 e6
                          obtain ⟨X, hX⟩ : ∃ X, Pl.br m d (Pl.pc t) a b2 e = X := ⟨_, rfl⟩
                          obtain ⟨Y, hY⟩ : ∃ Y, Pl.br m d (Pl.pc t) e b2 a = Y := ⟨_, rfl⟩
                          rw [hX, hY] at hgo hno
                          rw [hX] at f3
                          rw [hY] at f6
                          obtain ⟨D, hD⟩ : ∃ D, d + 1 = D := ⟨_, rfl⟩
                          obtain ⟨M1, hM1⟩ : ∃ M, d - a + 1 = M := ⟨_, rfl⟩
                          obtain ⟨M2, hM2⟩ : ∃ M, d - b2 + 1 = M := ⟨_, rfl⟩
                          have j4 : (a : Int) + (b2 : Int) + (e : Int) < (n : Int) := by omega
                          have j5 : (0 : Int) ≤ (e : Int) := by omega
                          have j6 : (e : Int) < (n : Int) := by omega
                          have j7 : (a : Int) < (D : Int) := by omega
                          have j8 : (b2 : Int) < (M1 : Int) := by omega
                          have j9 : (b2 : Int) < (D : Int) := by omega
                          have j10 : (e : Int) < (M2 : Int) := by omega
                          have he10 : e ≤ 10 := by omega
                          rw [hD] at f1 f4
                          rw [hM1] at f2
                          rw [hM2] at f5
                          clear hso hbel hLd hX hY hD hM1 hM2 he
                          by_cases hxy : X = Y
                          · have HNX := Lib.hid (hgo hxy)
                            subst hxy
                            clear hgo hno
                            go_wp2
                            go_quiet (fail)
                            go_wp2
                            go_roundw
                            case rel => exact ⟨e + 1, by omega, by go_num, HNX.out, below_drewN HX.out _⟩
                            case measure => simp only [intOf]; omega
                          · have HNX := Lib.hid (hno hxy)
                            obtain ⟨n1, n2⟩ : (X == Y) = false ∧ (X != Y) = true := ⟨by simpa using hxy, by simpa using hxy⟩
                            clear hgo hno
                            go_wp2
                            go_quiet (fail)
                            go_wp2
                            go_ret
                            exact ⟨_, rfl, by rw [HO.out, HP0.out, HS0.out, HNX.out]; exact (OwnI.lit4 _ 2 (a : Int) (b2 : Int) (e : Int)).more (by first | exact (below_step HB.out (below_step HBE.out HX.out)).size | exact (below_drewN (below_step HB.out (below_step HBE.out HX.out)) _).size), below_step HB.out (below_alloc _ (by first | exact below_step HBE.out HX.out | exact below_drewN (below_step HBE.out HX.out) _))⟩
                        · have HNX := Lib.hid (HRR2.out.trans (Pl.fau2c_out hlte hso))
                          have j4 : ¬ (a : Int) + (b2 : Int) + (e : Int) < (n : Int) := by omega
                          have he10 : e ≤ 11 := by omega
                          clear hso hbel hLd
                          go_wp2
                          go_roundw
                          case rel => exact ⟨b2 + 1, by omega, by go_num, HNX.out, HX.out⟩
                          case measure => simp only [intOf]; omega
                    · have HNX := Lib.hid (HRR.out.trans (Pl.fau2b_out hltb hso))
                      have j4 : ¬ (a : Int) + (b2 : Int) < (n : Int) := by omega
                      clear hso hbel hLd
                      go_wp2
                      go_roundw
                      case rel => exact ⟨a + 1, by omega, by go_num, HNX.out, HX.out⟩
                      case measure => simp only [intOf]; omega
                · obtain rfl : a = d + 1 := by omega
                  rw [Nat.sub_self] at hso
                  have HT0 := Lib.hid (show oT = none from hso.symm)
                  have j4 : ¬ (((d + 1 : Nat) : Int)) < (n : Int) := by omega
                  clear hso hbel hLd
                  go_wp2
                  go_ret
                  exact ⟨_, rfl, by rw [HO.out, HP0.out, HS0.out, HT0.out]; exact OwnI.nil _ _, below_step HB.out (below_step HBE.out HX.out)⟩
/-! the model's answers -/
theorem fau_isNone {m : Int} {d : Nat} {F : Nat → Nat → Int} : (decide ((((Pl.fau m d F).getD []).length : Int) = 0)) = (Pl.fau m d F).isNone := by
  cases h : Pl.fau m d F with
  | none => rfl
  | some x =>
    have := (fau_len h).1
    simp
    intro e
    subst e
    simp at this
set_option maxHeartbeats 4000000 in
set_option maxRecDepth 100000 in
theorem l04Is_any (m : Int) (A : Option Addr) (c : Nat) (t : List (List Int)) (w : World) (hz : szT t ≤ 1048576) (hr : RP w A t) :
    Calls Try.prog 57 #[.agg #[.int .i64 m, .slice A t.length c]] w fun e w' => e = .returned (.bool (isL m t)) ∧ Below w.heap.size w w' := by
  obtain ⟨W, hW, b1, hwb⟩ := start1 27 w m A t.length c
  have B1 := Lib.hid b1
  have HB := Lib.hid hwb
  have HW := Lib.hid hW
  have HI := Lib.hid (fun W0 (h : Below W.heap.size W W0) => l03Is_z m A c t W0 hz ((hr.below hwb).below h))
  by_cases h0 : isP m t = true
  · obtain ⟨d, e1, ok⟩ := plOk_of h0
    have HF := Lib.hid (fun W0 (h : Below W.heap.size W W0) => l04Fault_any m d A c t W0 ok ((hr.below hwb).below h))
    have HE : Hid (decide ((((Pl.fau m d (Pl.pc t)).getD []).length : Int) = 0) = isL m t) := Lib.hid (by rw [isL_fau h0 e1]; exact fau_isNone)
    have HLE : Hid (((Pl.fau m d (Pl.pc t)).getD []).length ≤ 4) := Lib.hid (by
      cases h : Pl.fau m d (Pl.pc t) with
      | none => simp
      | some x => exact (fau_len h).2)
    rw [h0] at HI
    obtain ⟨o, ho⟩ : ∃ o, (Pl.fau m d (Pl.pc t)).getD [] = o := ⟨_, rfl⟩
    rw [ho] at HF HE HLE
    obtain ⟨R, hR⟩ : ∃ R, isL m t = R := ⟨_, rfl⟩
    rw [hR] at HE ⊢
    obtain ⟨L, hL⟩ : ∃ L, t.length = L := ⟨_, rfl⟩
    rw [hL] at HF HI HW B1 ⊢
    obtain ⟨n, hn⟩ : ∃ n, o.length = n := ⟨_, rfl⟩
    rw [hn] at HE HLE
    have HN := Lib.hid hn
    clear b1 hwb hW hr h0 ok e1 hz hL ho hR hn
    go_enter Try.func57, Try.ntmps57
    go_wp2_with fail
    rw [HW.out]
    refine (HI.out _ (Below.refl _ _)).mono ?_
    rintro e w1 ⟨rfl, hb1⟩
    obtain ⟨x1, x2, x3⟩ := B1.out.keep hb1
    go_wp2_with fail
    refine (HF.out _ hb1).mono ?_
    rintro e w3 ⟨v, rfl, hf, hb3⟩
    have HB3 := Lib.hid (below_step HB.out (below_step hb1 hb3))
    obtain ⟨A3, c3, rfl, -⟩ := hf.form
    rw [HN.out]
    clear hb1 hb3 x1 x2 x3 hf
    by_cases hn0 : n = 0
    · subst hn0
      have HR : Hid (R = true) := Lib.hid (by rw [← HE.out]; rfl)
      go_wp2
      go_ret
      exact ⟨ret_bool HR.out.symm, HB3.out⟩
    · have hn1 : ¬ (n : Int) = 0 := by omega
      have HR : Hid (R = false) := Lib.hid (by rw [← HE.out]; exact decide_eq_false hn1)
      obtain ⟨n1, n2⟩ := ne_facts hn1
      go_wp2
      go_ret
      exact ⟨ret_bool HR.out.symm, HB3.out⟩
  · have h0' : isP m t = false := by simpa using h0
    rw [isL_no h0']
    rw [h0'] at HI
    obtain ⟨L, hL⟩ : ∃ L, t.length = L := ⟨_, rfl⟩
    rw [hL] at HI HW B1 ⊢
    clear b1 hwb hW hr h0 h0' hz hL
    go_enter Try.func57, Try.ntmps57
    go_wp2_with fail
    rw [HW.out]
    refine (HI.out _ (Below.refl _ _)).mono ?_
    rintro e w1 ⟨rfl, hb1⟩
    go_wp2
    go_ret
    exact ⟨rfl, below_step HB.out hb1⟩
end Go.Proofs.Ytlpfifdocgljnac

/- Contracts of layers and of the agreement of two laws. -/
namespace Go.Proofs.Ytlpfifdocgljnac
open Go.RowKit Go.WideShapes Go.ChangeShapes Go.ChangeAt

/-- the coefficients of one degree -/
def layC (m : Int) (t : List (List Int)) (n : Nat) : List Int := Ser.cut m n fun i => Pl.pc t i (n - i)
theorem layC_length (m : Int) (t : List (List Int)) (n : Nat) : (layC m t n).length = n + 1 := Ser.cut_length _ _ _
theorem layC_co {m : Int} {d : Nat} {t : List (List Int)} (hs : Pl.Ok m d t) (n i : Nat) (h : i ≤ n) : Ser.co (layC m t n) i = Pl.pc t i (n - i) := by
  unfold layC
  rw [Ser.co_cut h]
  have := hs.pc i (n - i)
  exact Int.emod_eq_of_lt this.1 this.2
/-- two tables agree in one degree -/
def eqL (m : Int) (t t' : List (List Int)) (n : Nat) : Bool := decide (layC m t n = layC m t' n)
theorem eqL_yes {m : Int} {d : Nat} {t t' : List (List Int)} (hs : Pl.Ok m d t) (hs' : Pl.Ok m d t') (n : Nat) (h : ∀ i, i ≤ n → Pl.pc t i (n - i) = Pl.pc t' i (n - i)) : eqL m t t' n = true :=
  list_same (by rw [layC_length, layC_length]) (fun j hj => by
    rw [layC_length] at hj
    rw [layC_co hs n j (by omega), layC_co hs' n j (by omega), h j (by omega)])
theorem eqL_no {m : Int} {d : Nat} {t t' : List (List Int)} (hs : Pl.Ok m d t) (hs' : Pl.Ok m d t') (n i : Nat) (hi : i ≤ n) (h : ¬ Pl.pc t i (n - i) = Pl.pc t' i (n - i)) : eqL m t t' n = false :=
  list_ne i (by rw [layC_co hs n i hi, layC_co hs' n i hi]; exact h)
/-- from k on, as far as the next degree agrees -/
def agr (E : Nat → Bool) : Nat → Nat → Nat
  | 0, k => k
  | n + 1, k => if E (k + 1) = true then agr E n (k + 1) else k
theorem agr_go {E : Nat → Bool} {d k o : Nat} (hk : k < d) (h : agr E (d - k) k = o) (he : E (k + 1) = true) : agr E (d - (k + 1)) (k + 1) = o := by
  rw [show d - k = (d - (k + 1)) + 1 by omega, agr, if_pos he] at h
  exact h
theorem agr_no {E : Nat → Bool} {d k o : Nat} (hk : k < d) (h : agr E (d - k) k = o) (he : E (k + 1) = false) : o = k := by
  rw [show d - k = (d - (k + 1)) + 1 by omega, agr, if_neg (by rw [he]; decide)] at h
  exact h.symm
theorem agr_le (E : Nat → Bool) : ∀ n k, k ≤ agr E n k ∧ agr E n k ≤ k + n := by
  intro n
  induction n with
  | zero => intro k; exact ⟨Nat.le_refl _, Nat.le_refl _⟩
  | succ n ih =>
    intro k
    rw [agr]
    split
    · have := ih (k + 1); omega
    · omega
/-- laws agree in degree 1 -/
theorem law_one {m : Int} {d : Nat} {t t' : List (List Int)} (hs : Pl.Ok m d t) (hs' : Pl.Ok m d t') (h : Pl.fau m d (Pl.pc t) = none) (h' : Pl.fau m d (Pl.pc t') = none) : eqL m t t' 1 = true := by
  have hd1 := hs.d1
  have key : ∀ {u : List (List Int)}, Pl.Ok m d u → Pl.fau m d (Pl.pc u) = none → ∀ i, i ≤ 1 → Pl.pc u i (1 - i) = 1 := by
    intro u hu hf i hi
    have hN : Pl.fauP d (Pl.pc u) = none ∧ Pl.fauS d (Pl.pc u) = none := by
      unfold Pl.fau at hf
      cases h1 : Pl.fauP d (Pl.pc u) with
      | some x => rw [h1] at hf; cases hf
      | none =>
        rw [h1, Pl.orE_none] at hf
        cases h2 : Pl.fauS d (Pl.pc u) with
        | some x => rw [h2] at hf; cases hf
        | none => exact ⟨rfl, rfl⟩
    have hn := Pl.norm_of hN.1 hN.2 (fun i j hij => hu.over i j hij)
    match i, hi with
    | 0, _ => exact (hn.y 1 (by omega)).trans rfl
    | 1, _ => exact (hn.x 1 (by omega)).trans rfl
  exact eqL_yes hs hs' 1 (fun i hi => by rw [key hs h i hi, key hs' h' i hi])
set_option maxHeartbeats 4000000 in
set_option maxRecDepth 100000 in
theorem layer_any (m : Int) (d : Nat) (A : Option Addr) (c : Nat) (t : List (List Int)) (n : Nat) (w : World) (hs : Pl.Ok m d t) (hr : RP w A t) (hn : n ≤ d) :
    Calls Try.prog 55 #[.agg #[.int .i64 m, .int .i64 d, .slice A t.length c], .int .i64 n] w fun e w' => ∃ v, e = .returned v ∧ OwnI w' w.heap.size v (layC m t n) ∧ Below w.heap.size w w' := by
  obtain ⟨b, off, rfl⟩ := hr.some (by rw [hs.len]; omega)
  have HG1 := Lib.hid (GBox.new 57 w m d (some ⟨b, off, none⟩) t.length c)
  have HWB := Lib.hid (below_one w (.cells #[.int .i64 m, .int .i64 d, .slice (some ⟨b, off, none⟩) t.length c] 57))
  obtain ⟨W, hW⟩ : ∃ W, w.alloc (.cells #[.int .i64 m, .int .i64 d, .slice (some ⟨b, off, none⟩) t.length c] 57) = W := ⟨_, rfl⟩
  have HWS : Hid (W.heap.size = w.heap.size + 1) := Lib.hid (by rw [← hW]; simp)
  rw [hW] at HG1 HWB
  have HW := Lib.hid hW
  have HB := HWB
  have HS := Lib.hid hs
  have HR := Lib.hid (hr.below HWB.out)
  have hd2 := hs.d2
  have hmk : ∀ W : World, (Instr.makeSlice 35 (.int .i64 ((n : Int) + 1)) (.int .i64 ((n : Int) + 1))).run Try.prog W = .ok (.slice (some ⟨W.heap.size, 0, none⟩) (n + 1) (n + 1)) (W.alloc (.cells (madeCells #[.int .i64 0] (n + 1)) 2)) := by
    intro W
    have := run_make_row' (P := Try.prog) 35 2 (.int .i64 0) 8 Try.underlying35 info64 rfl .i64 .i64 (n + 1) (by omega) (by omega) W
    rwa [show ((n + 1 : Nat) : Int) = (n : Int) + 1 by omega] at this
  have hm0 := OwnI.made W (n + 1) (by unfold maxLen; omega)
  rw [HWS.out] at hm0
  have HM := Lib.hid hm0
  clear hm0
  obtain ⟨L, hL⟩ : ∃ L, t.length = L := ⟨_, rfl⟩
  have HL := Lib.hid hL
  have HLd := Lib.hid (hL.symm.trans hs.len)
  have HCO := Lib.hid (fun i (hi : i ≤ n) => layC_co hs n i hi)
  rw [hL] at HG1 HW ⊢
  have hw1 : IntKind.i64.wrap ((n : Int) + 1) = (n : Int) + 1 := by rw [IntKind.wrap_i64]; omega
  clear hW hr hs hL
  obtain ⟨x1, x2, x3, x4⟩ := HG1.out
  go_enter Try.func55, Try.ntmps55
  go_wp2
  rw [HW.out]
  go_wp2
  clear x1 x2 x3 x4
  go_loopw [6, 12] (fun _ q wr => ∃ k : Nat, k ≤ n + 1 ∧ q = .int .i64 k ∧ OwnI wr (w.heap.size + 1) (.slice (some ⟨w.heap.size + 1, 0, none⟩) (n + 1) (n + 1)) ((layC m t n).take k ++ List.replicate (n + 1 - k) 0) ∧ Below W.heap.size W wr) (fun _ q _ => n + 1 - (intOf q).toNat)
  case atStart => exact ⟨0, Nat.zero_le _, rfl, by simpa using HM.out, below_one _ _⟩
  case round =>
    clear HM hmk
    obtain ⟨k, hk, rfl, hown, hbel⟩ := hrel
    have HBE := Lib.hid hbel
    have HO := Lib.hid hown
    by_cases hlt : k < n + 1
    · obtain ⟨p1, p2, p3, M, hM, x1, x2, x3⟩ := (HG1.out.keep hbel).num' HL.out HS.out (HR.out.below hbel) k (n - k) (by omega)
      obtain ⟨_, _, o3, o4⟩ := hown.cells
      have hd1 := o3 k (by simp [layC_length]; omega)
      have hf1 := o4 k
      obtain ⟨y, hy⟩ : ∃ y, ((layC m t n).take k ++ List.replicate (n + 1 - k) 0)[k]?.getD 0 = y := ⟨_, rfl⟩
      rw [hy] at hd1
      have hst := cut_step m n (fun i => Pl.pc t i (n - i)) k (by omega)
      have r1 := HS.out.pc k (n - k)
      rw [Int.emod_eq_of_lt r1.1 r1.2] at hst
      have hset := hown.set k (Pl.pc t k (n - k))
      rw [show (layC m t n).take k ++ List.replicate (n + 1 - k) 0 = (Ser.cut m n fun i => Pl.pc t i (n - i)).take k ++ List.replicate (n + 1 - k) 0 from rfl, hst] at hset
      obtain ⟨X, hX⟩ : ∃ X, Pl.pc t k (n - k) = X := ⟨_, rfl⟩
      rw [hX] at x3 hset
      have HSE := Lib.hid hset
      have HBX := Lib.hid (hbel.setCell (p := ⟨w.heap.size + 1, k, none⟩) (by show W.heap.size ≤ w.heap.size + 1; rw [HWS.out]; exact Nat.le_refl _) (.int .i64 X))
      have hLd := HLd.out
      have j0 : (0 : Int) ≤ (k : Int) := by omega
      have j1 : (k : Int) < (L : Int) := by omega
      have j2 : (0 : Int) ≤ (n : Int) - (k : Int) := by omega
      have j3 : (n : Int) - (k : Int) < (M : Int) := by omega
      have j4 : ((n : Int) - (k : Int)).toNat = n - k := by omega
      have j5 : (k : Int) < (n : Int) + 1 := by omega
      clear hbel hown o3 o4 hy hst hset hX hM hLd r1
      go_wp2
      go_roundw
      case rel => exact ⟨k + 1, by omega, by go_num, HSE.out, HBX.out⟩
      case measure => simp only [intOf]; omega
    · obtain rfl : k = n + 1 := by omega
      have ho := HO.out
      rw [List.take_of_length_le (by rw [layC_length]; exact Nat.le_refl _), Nat.sub_self, List.replicate_zero, List.append_nil] at ho
      have HF := Lib.hid (ho.more (show w.heap.size ≤ w.heap.size + 1 by omega))
      clear hbel hown ho
      go_wp2
      go_ret
      exact ⟨_, rfl, HF.out, below_step HB.out HBE.out⟩
set_option maxHeartbeats 8000000 in
set_option maxRecDepth 100000 in
theorem l04Agreement_any (m : Int) (d : Nat) (A : Option Addr) (c : Nat) (t : List (List Int)) (A' : Option Addr) (c' : Nat) (t' : List (List Int)) (w : World) (hs : Pl.Ok m d t) (hs' : Pl.Ok m d t') (hr : RP w A t) (hr' : RP w A' t') :
    Calls Try.prog 31 #[.agg #[.int .i64 m, .slice A t.length c], .agg #[.int .i64 m, .slice A' t'.length c']] w fun e w' => e = .returned (.int .i64 (agr (eqL m t t') d 0 : Nat)) ∧ Below w.heap.size w w' := by
  obtain ⟨b, off, rfl⟩ := hr.some (by rw [hs.len]; omega)
  obtain ⟨b', off', rfl⟩ := hr'.some (by rw [hs'.len]; omega)
  obtain ⟨W, hW, b1, b2, hwb⟩ := start2 27 w m (some ⟨b, off, none⟩) t.length c m (some ⟨b', off', none⟩) t'.length c'
  have B1 := Lib.hid b1
  have B2 := Lib.hid b2
  have HB := Lib.hid hwb
  have HW := Lib.hid hW
  have hd2 := hs.d2
  have HNUM := Lib.hid (rp_num_in (hr.below hwb) hs)
  have HNUM' := Lib.hid (rp_num_in (hr'.below hwb) hs')
  have HY := Lib.hid (fun n h => eqL_yes hs hs' n h)
  have HNO := Lib.hid (fun n i hi h => eqL_no hs hs' n i hi h)
  obtain ⟨o, ho⟩ : ∃ o, agr (eqL m t t') d 0 = o := ⟨_, rfl⟩
  have HO := Lib.hid (show agr (eqL m t t') (d - 0) 0 = o from ho)
  rw [ho]
  obtain ⟨E, hE⟩ : ∃ E, eqL m t t' = E := ⟨_, rfl⟩
  rw [hE] at HY HNO HO
  obtain ⟨L, hL⟩ : ∃ L, t.length = L := ⟨_, rfl⟩
  rw [hL] at B1 HW ⊢
  have HLd := Lib.hid (hL.symm.trans hs.len)
  obtain ⟨L', hL'⟩ : ∃ L, t'.length = L := ⟨_, rfl⟩
  rw [hL'] at B2 HW ⊢
  obtain rfl : L' = L := by have := hs.len; have := hs'.len; omega
  have hLb : L' ≤ 11 := by have := HLd.out; omega
  clear b1 b2 hwb hW hr hr' hs hs' hL hL' ho hE
  go_enter Try.func31, Try.ntmps31
  go_wp2
  rw [HW.out]
  go_loopw [5, 6] (fun s5 _ wr => ∃ n : Nat, n ≤ d ∧ s5 = .int .i64 ((n : Int) + 1) ∧ agr E (d - n) n = o ∧ Below W.heap.size W wr) (fun s5 _ _ => d + 2 - (intOf s5).toNat)
  case atStart => exact ⟨0, Nat.zero_le _, by first | rfl | go_num, HO.out, Below.refl _ _⟩
  case round =>
    clear HO
    obtain ⟨n, hn, rfl, hag, hbel⟩ := hrel
    have HBE := Lib.hid hbel
    have hLd := HLd.out
    obtain ⟨x1, x2, -⟩ := B1.out.keep hbel
    by_cases hlt : n < d
    · have HAG := Lib.hid hag
      have j1 : (n : Int) + 1 < (L' : Int) := by omega
      clear hbel hag hLd
      go_wp2
      clear x1 x2
      go_loopw [6] (fun s6 wr => ∃ i : Nat, i ≤ n + 2 ∧ s6 = .int .i64 i ∧ (∀ j, j < i → Pl.pc t j (n + 1 - j) = Pl.pc t' j (n + 1 - j)) ∧ Below W.heap.size W wr) (fun s6 _ => n + 3 - (intOf s6).toNat)
      case atStart => exact ⟨0, Nat.zero_le _, rfl, fun j h => absurd h (Nat.not_lt_zero _), HBE.out⟩
      case round =>
        clear HBE
        obtain ⟨i, hi, rfl, hall, hbel⟩ := hrel
        have HBE := Lib.hid hbel
        have HAL := Lib.hid hall
        have hLd := HLd.out
        clear hall
        by_cases hil : i ≤ n + 1
        · obtain ⟨x1, x2, -⟩ := B1.out.keep hbel
          obtain ⟨y1, y2, -⟩ := B2.out.keep hbel
          obtain ⟨b3, o3, c3, M1, hM1, f1, f2⟩ := HNUM.out i (n + 1 - i) wr (by omega) hbel
          obtain ⟨b4, o4, c4, M2, hM2, f3, f4⟩ := HNUM'.out i (n + 1 - i) wr (by omega) hbel
          have hne := HNO.out (n + 1) i hil
          obtain ⟨X, hX⟩ : ∃ X, Pl.pc t i (n + 1 - i) = X := ⟨_, rfl⟩
          obtain ⟨Y, hY⟩ : ∃ Y, Pl.pc t' i (n + 1 - i) = Y := ⟨_, rfl⟩
          rw [hX] at f2
          rw [hY] at f4
          rw [hX, hY] at hne
          have j2 : (0 : Int) ≤ (i : Int) := by omega
          have j3 : (i : Int) ≤ (n : Int) + 1 := by omega
          have j4 : (i : Int) < (L' : Int) := by omega
          have j5 : (0 : Int) ≤ (n : Int) + 1 - (i : Int) := by omega
          have j6 : (n : Int) + 1 - (i : Int) < (M1 : Int) := by omega
          have j7 : (n : Int) + 1 - (i : Int) < (M2 : Int) := by omega
          have j8 : ((n : Int) + 1 - (i : Int)).toNat = n + 1 - i := by omega
          clear hbel hM1 hM2 hLd
          by_cases hxy : X = Y
          · have HXY := Lib.hid (hX.trans (hxy.trans hY.symm))
            subst hxy
            clear hX hY hne
            go_wp2
            go_quiet (fail)
            go_wp2
            go_roundw
            case rel => exact ⟨i + 1, by omega, by go_num, fun q hq => (Nat.lt_succ_iff_lt_or_eq.1 hq).elim (HAL.out q) (fun h => h ▸ HXY.out), below_drewN HBE.out _⟩
            case measure => simp only [intOf]; omega
          · have HR : Hid (o = n) := Lib.hid (agr_no hlt HAG.out (hne hxy))
            obtain ⟨n1, n2⟩ : (X == Y) = false ∧ (X != Y) = true := ⟨by simpa using hxy, by simpa using hxy⟩
            clear hX hY hne
            go_wp2
            go_quiet (fail)
            go_wp2
            go_ret
            exact ⟨ret_int (by rw [HR.out]), below_drewN (below_step HB.out HBE.out) _⟩
        · have HR : Hid (agr E (d - (n + 1)) (n + 1) = o) := Lib.hid (agr_go hlt HAG.out (HY.out (n + 1) (fun q hq => HAL.out q (by omega))))
          have j3 : ¬ (i : Int) ≤ (n : Int) + 1 := by omega
          clear hbel hLd
          go_wp2
          go_roundw
          case rel => exact ⟨n + 1, by omega, by go_num, HR.out, HBE.out⟩
          case measure => simp only [intOf]; omega
    · obtain rfl : n = d := by omega
      rw [Nat.sub_self] at hag
      have HR : Hid (o = n) := Lib.hid (show o = n from hag.symm)
      have j1 : ¬ (n : Int) + 1 < (L' : Int) := by omega
      have j2 : (L' : Int) - 1 = (n : Int) := by omega
      clear hag hbel hLd
      go_wp2
      go_ret
      exact ⟨ret_int (by rw [HR.out]), below_step HB.out HBE.out⟩
end Go.Proofs.Ytlpfifdocgljnac

/- Plain number theory: numbers of choices. No program in sight. -/
namespace Go.Proofs.Ytlpfifdocgljnac
namespace Num

/-- the number of ways to choose k of n things -/
def bin : Nat → Nat → Nat
  | _, 0 => 1
  | 0, _ + 1 => 0
  | n + 1, k + 1 => bin n k + bin n (k + 1)
theorem bin_zero (n : Nat) : bin n 0 = 1 := by cases n <;> rfl
theorem bin_succ (n k : Nat) : bin (n + 1) (k + 1) = bin n k + bin n (k + 1) := rfl
theorem bin_mul (n : Nat) : ∀ k, (k + 1) * bin n (k + 1) + k * bin n k = n * bin n k := by
  induction n with
  | zero =>
    intro k
    cases k <;> simp [bin]
  | succ n ih =>
    intro k
    cases k with
    | zero =>
      have h := ih 0
      rw [bin_zero] at h ⊢
      rw [bin_succ, bin_zero]
      omega
    | succ k =>
      have h1 := ih k
      have h2 := ih (k + 1)
      rw [bin_succ, bin_succ]
      generalize bin n k = b0 at *
      generalize bin n (k + 1) = b1 at *
      generalize bin n (k + 1 + 1) = b2 at *
      grind
theorem bin_over (n : Nat) : ∀ k, n < k → bin n k = 0 := by
  induction n with
  | zero => intro k h; cases k with
    | zero => omega
    | succ k => rfl
  | succ n ih => intro k h; cases k with
    | zero => omega
    | succ k => rw [bin_succ, ih k (by omega), ih (k + 1) (by omega)]
theorem bin_self (n : Nat) : bin n n = 1 := by
  induction n with
  | zero => rfl
  | succ n ih => rw [bin_succ, ih, bin_over n (n + 1) (by omega)]
theorem bin_pos (n : Nat) : ∀ k, k ≤ n → 0 < bin n k := by
  induction n with
  | zero => intro k h; obtain rfl : k = 0 := by omega
            exact Nat.one_pos
  | succ n ih => intro k h; cases k with
    | zero => rw [bin_zero]; omega
    | succ k => rw [bin_succ]; have := ih k (by omega); omega
theorem bin_mono (n k : Nat) : bin n k ≤ bin (n + 1) k := by
  cases k with
  | zero => rw [bin_zero, bin_zero]; omega
  | succ k => rw [bin_succ]; omega
theorem bin_mono' (n k : Nat) : ∀ d, bin n k ≤ bin (n + d) k
  | 0 => Nat.le_refl _
  | d + 1 => Nat.le_trans (bin_mono' n k d) (bin_mono (n + d) k)

/-- a row of the triangle, quickly -/
def rowL : Nat → List Nat
  | 0 => [1]
  | n + 1 => List.zipWith (· + ·) (0 :: rowL n) (rowL n ++ [0])
theorem rowL_length : ∀ n, (rowL n).length = n + 1
  | 0 => rfl
  | n + 1 => by simp [rowL, rowL_length n]
theorem rowL_get : ∀ n k, k ≤ n → (rowL n)[k]? = some (bin n k)
  | 0, k, h => by obtain rfl : k = 0 := by omega
                  rfl
  | n + 1, k, h => by
    have hl := rowL_length n
    rw [rowL, List.getElem?_zipWith]
    cases k with
    | zero =>
      have h0 := rowL_get n 0 (by omega)
      rw [List.getElem?_append_left (by omega), h0, bin_zero, bin_zero]
      rfl
    | succ k =>
      rw [List.getElem?_cons_succ, rowL_get n k (by omega)]
      by_cases hk : k + 1 ≤ n
      · rw [List.getElem?_append_left (by omega), rowL_get n (k + 1) hk, bin_succ]
      · obtain rfl : k = n := by omega
        rw [List.getElem?_append_right (by omega), hl, Nat.sub_self, bin_succ, bin_over k (k + 1) (by omega)]
        rfl
theorem row60 : (rowL 60).all (fun x => decide (x ≤ 118264581564861424)) = true := by decide +kernel
theorem bin_le (n k : Nat) (hn : n ≤ 60) : bin n k ≤ 118264581564861424 := by
  by_cases hk : k ≤ 60
  · have h1 := bin_mono' n k (60 - n)
    rw [show n + (60 - n) = 60 by omega] at h1
    have h2 := rowL_get 60 k hk
    have h3 := List.all_eq_true.1 row60 _ (List.mem_of_getElem? h2)
    have h4 := of_decide_eq_true h3
    omega
  · rw [bin_over n k (by omega)]; omega
/-- a step of the product -/
theorem bin_next {n k : Nat} (h : k < n) : bin n k * (n - k) = bin n (k + 1) * (k + 1) := by
  have h1 := bin_mul n k
  have h2 : n * bin n k = (n - k) * bin n k + k * bin n k := by rw [← Nat.add_mul]; congr 1; omega
  rw [Nat.mul_comm (bin n k), Nat.mul_comm (bin n (k + 1))]
  omega
theorem bin_step {n k : Nat} (h : k < n) : bin n k * (n - k) / (k + 1) = bin n (k + 1) := by
  rw [bin_next h, Nat.mul_div_cancel _ (by omega)]
theorem bin_prod {n k : Nat} (hn : n ≤ 60) : bin n k * (n - k) ≤ 118264581564861424 * 60 := Nat.mul_le_mul (bin_le n k hn) (by omega)

end Num
end Go.Proofs.Ytlpfifdocgljnac

/- Contracts of the two binomial functions. -/
namespace Go.Proofs.Ytlpfifdocgljnac
open Go.RowKit Go.WideShapes Go.ChangeShapes Go.ChangeAt

/-- the number of ways to choose k of n things -/
def binI (n k : Int) : Int := (Num.bin n.toNat k.toNat : Nat)
theorem binI_bd {n k : Int} (hn : n ≤ 60) : 0 ≤ binI n k ∧ binI n k ≤ 118264581564861424 := by
  have := Num.bin_le n.toNat k.toNat (by omega)
  unfold binI; omega

set_option maxHeartbeats 1000000 in
theorem choices_any (n k : Int) (w : World) (h1 : 0 ≤ n) (h2 : n ≤ 60) (h3 : 0 ≤ k) (h4 : k ≤ 60) :
    Calls Try.prog 112 #[.int .i64 n, .int .i64 k] w fun e w' => e = .returned (.int .i64 (binI n k)) ∧ w = w' := by
  obtain ⟨N, rfl⟩ := Int.eq_ofNat_of_zero_le h1
  obtain ⟨K, rfl⟩ := Int.eq_ofNat_of_zero_le h3
  by_cases hkn : N < K
  · have HF := Lib.hid (show binI (N : Int) (K : Int) = 0 by rw [binI, Int.toNat_natCast, Int.toNat_natCast, Num.bin_over N K hkn]; rfl)
    go_enter Try.func112, Try.ntmps112
    go_wp2
    go_ret
    exact ⟨ret_int HF.out.symm, rfl⟩
  · go_enter Try.func112, Try.ntmps112
    go_wp2
    go_loop [5, 6] (fun c i => ∃ I : Nat, 1 ≤ I ∧ I ≤ K + 1 ∧ c = .int .i64 (Num.bin N (I - 1) : Nat) ∧ i = .int .i64 I) (fun _ i => K + 1 - (intOf i).toNat)
    case atStart => exact ⟨1, by omega, by omega, by rw [Nat.sub_self, Num.bin_zero]; rfl, rfl⟩
    case round =>
      obtain ⟨I, i1, i2, rfl, rfl⟩ := hrel
      by_cases hlt : I ≤ K
      · have hle := Num.bin_le N (I - 1) (by omega)
        have hpr := Num.bin_prod (n := N) (k := I - 1) (by omega)
        have hst := Num.bin_step (n := N) (k := I - 1) (by omega)
        rw [show I - 1 + 1 = I by omega] at hst
        obtain ⟨C, hC⟩ : ∃ C, Num.bin N (I - 1) = C := ⟨_, rfl⟩
        rw [hC] at hle hpr hst ⊢
        have e1 : (C : Int) * ((N : Int) - (I : Int) + 1) = ((C * (N - (I - 1)) : Nat) : Int) := by
          rw [Int.natCast_mul]; congr 1; omega
        have p1 : 0 ≤ (C : Int) * ((N : Int) - (I : Int) + 1) := by rw [e1]; exact Int.natCast_nonneg _
        have p2 : (C : Int) * ((N : Int) - (I : Int) + 1) ≤ 7095874893891685440 := by rw [e1]; omega
        have HS := Lib.hid (show (C : Int) * ((N : Int) - (I : Int) + 1) / (I : Int) = ((Num.bin N I : Nat) : Int) by rw [e1, ← Int.natCast_ediv, hst])
        clear hst hpr e1 hC
        go_wp2
        go_round
        case rel => exact ⟨I + 1, by omega, by omega, by rw [HS.out, Nat.add_sub_cancel], by go_num⟩
        case measure => simp only [intOf]; omega
      · obtain rfl : I = K + 1 := by omega
        go_wp2
        go_ret
        exact ⟨ret_int (by rw [binI, Int.toNat_natCast, Int.toNat_natCast]), rfl⟩

/-- the beginning of a row of the triangle -/
def rowI (n j : Nat) : List Int := (List.range j).map fun i => ((Num.bin n i : Nat) : Int)
theorem rowI_length (n j : Nat) : (rowI n j).length = j := by simp [rowI]
theorem rowI_succ (n j : Nat) : rowI n (j + 1) = rowI n j ++ [((Num.bin n j : Nat) : Int)] := by simp [rowI, List.range_succ]
theorem rowI_one (n : Nat) : rowI n 1 = [1] := by simp [rowI, Num.bin_zero]
theorem rowI_get (n j i : Nat) (h : i < j) : (rowI n j)[i]?.getD 0 = ((Num.bin n i : Nat) : Int) := by simp [rowI, h]

set_option maxHeartbeats 2000000 in
theorem l01Binomial_any (n k : Int) (w : World) (h1 : 0 ≤ n) (h2 : n ≤ 60) (h3 : 0 ≤ k) (h4 : k ≤ 60) :
    Calls Try.prog 51 #[.int .i64 n, .int .i64 k] w fun e w' => e = .returned (.int .i64 (binI n k)) ∧ Below w.heap.size w w' := by
  obtain ⟨N, rfl⟩ := Int.eq_ofNat_of_zero_le h1
  obtain ⟨K, rfl⟩ := Int.eq_ofNat_of_zero_le h3
  by_cases hkn : N < K
  · have HF := Lib.hid (show binI (N : Int) (K : Int) = 0 by rw [binI, Int.toNat_natCast, Int.toNat_natCast, Num.bin_over N K hkn]; rfl)
    go_enter Try.func51, Try.ntmps51
    go_wp2
    go_ret
    exact ⟨ret_int HF.out.symm, Below.refl _ _⟩
  · go_enter Try.func51, Try.ntmps51
    go_wp2
    go_loopw [5, 6] (fun r i wr => ∃ I : Nat, I ≤ N ∧ i = .int .i64 I ∧ OwnI wr w.heap.size r (rowI I (I + 1)) ∧ Below w.heap.size w wr) (fun _ i _ => N - (intOf i).toNat)
    case atStart => exact ⟨0, Nat.zero_le _, rfl, by rw [rowI_one]; exact OwnI.one w 1, (Below.refl _ _).alloc (Nat.le_refl _) _⟩
    case round =>
      obtain ⟨I, hI, rfl, hown, hbel⟩ := hrel
      have HB := Lib.hid hbel
      have HO := Lib.hid hown
      obtain ⟨A, c, rfl, hri⟩ := hown.form
      rw [rowI_length] at HO ⊢
      clear hbel hown
      by_cases hlt : I < N
      · have hB1 := HB.out.size
        obtain ⟨wo, rfl⟩ : ∃ wo : World, wo = wr := ⟨_, rfl⟩
        obtain ⟨b, off, rfl, hb, hc⟩ := hri (by intro h; have := congrArg List.length h; rw [rowI_length] at this; simp at this)
        have HC := Lib.hid hc
        clear hri hc
        go_wp2
        go_loopw [7, 8] (fun x j wi => ∃ T : Nat, 1 ≤ T ∧ T ≤ I + 1 ∧ j = .int .i64 T ∧ OwnI wi wo.heap.size x (rowI (I + 1) T) ∧ Below wo.heap.size wo wi) (fun _ j _ => I + 1 - (intOf j).toNat)
        case atStart => exact ⟨1, by omega, by omega, rfl, by rw [rowI_one]; exact OwnI.one wo 1, (Below.refl _ _).alloc (Nat.le_refl _) _⟩
        case round =>
          obtain ⟨T, hT1, hT2, rfl, hown2, hbel2⟩ := hrel
          have HB2 := Lib.hid hbel2
          have HO2 := Lib.hid hown2
          clear hbel2 hown2
          by_cases hj : T < I + 1
          · obtain ⟨J, hJ⟩ : ∃ J, T = J + 1 := ⟨T - 1, by omega⟩
            have c1 := (HB2.out.cell (p := ⟨b, off + J, none⟩) hb).trans (HC.out J (by rw [rowI_length]; omega))
            have c2 := (HB2.out.cell (p := ⟨b, off + T, none⟩) hb).trans (HC.out T (by rw [rowI_length]; omega))
            rw [rowI_get _ _ _ (by omega)] at c1 c2
            have l1 := Num.bin_le I J (by omega)
            have l2 := Num.bin_le I T (by omega)
            have HS := Lib.hid (show Num.bin (I + 1) T = Num.bin I J + Num.bin I T by rw [hJ, Num.bin_succ])
            obtain ⟨X, hX⟩ : ∃ X, Num.bin I J = X := ⟨_, rfl⟩
            obtain ⟨Y, hY⟩ : ∃ Y, Num.bin I T = Y := ⟨_, rfl⟩
            rw [hX] at c1 l1
            rw [hY] at c2 l2
            have HX := Lib.hid hX
            have HY := Lib.hid hY
            have j1 : (0 : Int) ≤ (T : Int) := by omega
            have j2 : (T : Int) < (I : Int) + 1 := by omega
            have j3 : (0 : Int) ≤ (J : Int) := by omega
            have j4 : (J : Int) < (I : Int) + 1 := by omega
            have j5 : IntKind.i64.wrap ((T : Int) - 1) = (J : Int) := by rw [IntWalk.i64_in _ (by omega)]; omega
            have j6 : IntKind.i64.wrap ((X : Int) + (Y : Int)) = (X : Int) + (Y : Int) := IntWalk.i64_in _ (by omega)
            have hsz := HB2.out.size
            clear hX hY hJ
            go_wp2
            go_region_held3 (fun w' => w'.cell? ⟨b, off + J, none⟩ = some (.int .i64 (X : Nat)) ∧ w'.cell? ⟨b, off + T, none⟩ = some (.int .i64 (Y : Nat))) (first | go_keep | exact ⟨((((Below.refl wo.heap.size wr).alloc hsz _).drew.trans hpb).cell hb).trans c1, ((((Below.refl wo.heap.size wr).alloc hsz _).drew.trans hpb).cell hb).trans c2⟩) ((refine step_push _ _ _ (by rfl) (by rfl) Try.underlying35 wo.heap.size _ _ (by rfl) ((HO2.out.alloc _).drew) wr.heap.size ((X : Int) + (Y : Int)) (by rfl) (by simp) (by rw [rowI_length]; omega) (by have := HB2.out.size; simp; omega) ?_; intro v' w1 ho1 hpb))
            have hpb' := ((Below.refl wo.heap.size wr).alloc hsz _).drew.trans hpb
            have HP := Lib.hid hpb'
            have HQ := Lib.hid ho1
            clear hpb hpb' ho1 c1 c2 j5 j6
            go_wp2
            go_roundw
            case rel => exact ⟨T + 1, by omega, by omega, by go_num, by rw [rowI_succ, HS.out, HX.out, HY.out, Int.natCast_add]; exact HQ.out, HB2.out.trans HP.out⟩
            case measure => simp only [intOf]; omega
          · obtain rfl : T = I + 1 := by omega
            have hsz := HB2.out.size
            go_wp2_with (at_builtin; refine wp_push _ _ _ (by rfl) (by rfl) Try.underlying35 wo.heap.size _ _ (by rfl) HO2.out 1 (by rfl) (by rw [rowI_length]; omega) (by omega) ?_; intro v' w1 ho1 hpb)
            have HP := Lib.hid hpb
            have HQ := Lib.hid ho1
            clear hpb ho1
            go_wp2
            go_roundw
            case rel =>
              refine ⟨I + 1, by omega, by go_num, OwnI.more ?_ hB1, HB.out.trans ((HB2.out.trans HP.out).mono hB1)⟩
              rw [rowI_succ _ (I + 1), Num.bin_self]
              exact HQ.out
            case measure => simp only [intOf]; omega
      · obtain rfl : I = N := by omega
        obtain ⟨b, off, rfl, hb, hc⟩ := hri (by intro h; have := congrArg List.length h; rw [rowI_length] at this; simp at this)
        have c1 := hc K (by rw [rowI_length]; omega)
        rw [rowI_get _ _ _ (by omega)] at c1
        clear hri hc
        go_wp2
        go_ret
        exact ⟨ret_int (by rw [binI, Int.toNat_natCast, Int.toNat_natCast]), HB.out⟩

end Go.Proofs.Ytlpfifdocgljnac

/- Contracts of BinomialNumber and BinomialDivisor, of the program and of the model. -/
namespace Go.Proofs.Ytlpfifdocgljnac
open Go.RowKit Go.WideShapes Go.ChangeShapes Go.ChangeAt


/-- the greatest common divisor of the first numbers of choices -/
def lz (n : Int) : Nat → Int
  | 0 => 0
  | k + 1 => gcdI (lz n k) (binI n (k + 1 : Nat))
theorem gcdI_le (a : Int) {b : Int} (hb : 0 < b) : 0 ≤ gcdI a b ∧ gcdI a b ≤ b := by
  have := Nat.le_of_dvd (show 0 < b.natAbs by omega) (Nat.gcd_dvd_right a.natAbs b.natAbs)
  unfold gcdI; omega
theorem lz_bd {n : Int} (h2 : n ≤ 60) : ∀ k : Nat, (k : Int) ≤ n → 0 ≤ lz n k ∧ lz n k ≤ 118264581564861424
  | 0, _ => by simp [lz]
  | k + 1, h => by
    have hp : 0 < binI n (k + 1 : Nat) := by
      have := Num.bin_pos n.toNat (k + 1) (by omega)
      unfold binI; simp only [Int.toNat_natCast]; omega
    have h3 := gcdI_le (lz n k) hp
    have h4 := binI_bd (k := (k + 1 : Nat)) h2
    rw [lz]; omega

set_option maxHeartbeats 1000000 in
theorem l01Lazard_any (n : Int) (w : World) (h1 : 2 ≤ n) (h2 : n ≤ 60) :
    Calls Try.prog 83 #[.int .i64 n] w fun e w' => e = .returned (.int .i64 (lz n (n.toNat - 1))) ∧ Below w.heap.size w w' := by
  go_enter Try.func83, Try.ntmps83
  go_wp2
  go_loopw [3, 4] (fun g k wr => ∃ K : Nat, (K : Int) < n ∧ g = .int .i64 (lz n K) ∧ k = .int .i64 (K + 1 : Nat) ∧ Below w.heap.size w wr) (fun _ k _ => n.toNat - (intOf k).toNat)
  case atStart => exact ⟨0, by omega, rfl, rfl, Below.refl _ _⟩
  case round =>
    obtain ⟨K, hK, rfl, rfl, hbel⟩ := hrel
    have HB := Lib.hid hbel
    have hsz := hbel.size
    clear hbel
    obtain ⟨l1, l2⟩ := lz_bd h2 K (by omega)
    obtain ⟨T, hT⟩ : ∃ T, K + 1 = T := ⟨_, rfl⟩
    have HL := Lib.hid (show lz n T = gcdI (lz n K) (binI n T) by rw [← hT, lz])
    have hT' : (T : Int) = K + 1 := by omega
    rw [hT] at *
    have HT := Lib.hid hT
    clear hT
    obtain ⟨t1, t2⟩ : 1 ≤ (T : Int) ∧ (T : Int) ≤ n := by omega
    have HT' := Lib.hid hT'
    clear hT'
    by_cases hlt : (T : Int) < n
    · obtain ⟨q1, q2⟩ := binI_bd (n := n) (k := (T : Int)) h2
      go_wp2_with (first | (go_at_call 51; refine (l01Binomial_any _ _ _ (by omega) (by omega) (by omega) (by omega)).mono ?_; rintro e w1 ⟨rfl, hb1⟩) | (go_at_call 116; refine (l01Gcd_any _ _ _ (by omega) (by omega) (by omega) (by omega)).mono ?_; rintro e w2 ⟨rfl, rfl⟩))
      go_roundw
      case rel => exact ⟨T, hlt, by rw [HL.out], by go_num, HB.out.trans (hb1.mono hsz)⟩
      case measure => simp only [intOf]; omega
    · go_wp2
      go_ret
      exact ⟨ret_int (by congr 1; have := HT'.out; omega), HB.out⟩

set_option maxHeartbeats 1000000 in
theorem BinomialDivisor_any (n : Int) (w : World) :
    Calls Try.prog 114 #[.int .i64 n] w fun e w' => e = .returned (.tuple #[.int .i64 (if inB n 2 60 then lz n (n.toNat - 1) else 0), .int .i64 (if inB n 2 60 then 0 else 2)]) ∧ Below w.heap.size w w' := by
  by_cases hn : inB n 2 60 = true
  · obtain ⟨h1, h2⟩ := (inB_iff _ _ _).1 hn
    go_enter Try.func114, Try.ntmps114
    go_wp2_with (go_at_call 42; refine (isWithin_any _ _ _ _).mono ?_; rintro e w' ⟨rfl, rfl⟩)
    go_loopw [4, 5] (fun g k wr => ∃ K : Nat, (K : Int) < n ∧ g = .int .i64 (lz n K) ∧ k = .int .i64 (K + 1 : Nat) ∧ Below w.heap.size w wr) (fun _ k _ => n.toNat - (intOf k).toNat)
    case atStart => exact ⟨0, by omega, rfl, rfl, Below.refl _ _⟩
    case round =>
      obtain ⟨K, hK, rfl, rfl, hbel⟩ := hrel
      have HB := Lib.hid hbel
      have hsz := hbel.size
      clear hbel
      obtain ⟨l1, l2⟩ := lz_bd h2 K (by omega)
      obtain ⟨T, hT⟩ : ∃ T, K + 1 = T := ⟨_, rfl⟩
      have HL := Lib.hid (show lz n T = gcdI (lz n K) (binI n T) by rw [← hT, lz])
      have hT' : (T : Int) = K + 1 := by omega
      rw [hT] at *
      have HT := Lib.hid hT
      clear hT
      obtain ⟨t1, t2⟩ : 1 ≤ (T : Int) ∧ (T : Int) ≤ n := by omega
      have HT' := Lib.hid hT'
      clear hT'
      by_cases hlt : (T : Int) < n
      · obtain ⟨q1, q2⟩ := binI_bd (n := n) (k := (T : Int)) h2
        go_wp2_with (first | (go_at_call 112; refine (choices_any _ _ _ (by omega) (by omega) (by omega) (by omega)).mono ?_; rintro e w1 ⟨rfl, rfl⟩) | (go_at_call 128; refine (greatestDivisor_any _ _ _ (by omega) (by omega) (by omega) (by omega)).mono ?_; rintro e w2 ⟨rfl, hb2⟩))
        go_roundw
        case rel => exact ⟨T, hlt, by rw [HL.out], by go_num, HB.out.trans (hb2.mono hsz)⟩
        case measure => simp only [intOf]; omega
      · go_wp2
        go_ret2
        exact ⟨ret_ii (by first | (rw [if_pos hn]; congr 1; have := HT'.out; omega) | (congr 1; have := HT'.out; omega)) (by first | rfl | rw [if_pos hn]), HB.out⟩
  · have hn' : inB n 2 60 = false := by simpa using hn
    go_enter Try.func114, Try.ntmps114
    go_wp2_with (go_at_call 42; refine (isWithin_any _ _ _ _).mono ?_; rintro e w' ⟨rfl, rfl⟩)
    go_ret2
    exact ⟨ret_ii (by first | rfl | rw [if_neg hn]) (by first | rfl | rw [if_neg hn]), Below.refl _ _⟩
end Go.Proofs.Ytlpfifdocgljnac

/- Plain facts on the layers of Lazard's cocycles. -/
namespace Go.Proofs.Ytlpfifdocgljnac
open Go.RowKit

/-- the coefficient of C(n) at x^i y^(n - i) -/
def layF (n i : Nat) : Int := if 0 < i ∧ i < n then (binI (n : Int) (i : Int)).tdiv (lz (n : Int) (n - 1)) else 0
/-- a layer as far as the program has written it: below k -/
def layP (n k : Nat) : List Int := (List.range (n + 1)).map fun i => if i < k then layF n i else 0
def layL (n : Nat) : List Int := (List.range (n + 1)).map (layF n)
theorem layL_length (n : Nat) : (layL n).length = n + 1 := by simp [layL]
theorem layP_length (n k : Nat) : (layP n k).length = n + 1 := by simp [layP]
theorem layP_co {n k i : Nat} (h : i ≤ n) : Ser.co (layP n k) i = if i < k then layF n i else 0 := by
  unfold Ser.co layP
  rw [List.getElem?_map, List.getElem?_range (by omega)]; rfl
theorem layL_co {n i : Nat} (h : i ≤ n) : Ser.co (layL n) i = layF n i := by
  unfold Ser.co layL
  rw [List.getElem?_map, List.getElem?_range (by omega)]; rfl
theorem layP_one (n : Nat) : layP n 1 = List.replicate (n + 1) 0 := by
  refine Ser.list_ext (by rw [layP_length, List.length_replicate]) (fun i hi => ?_)
  rw [layP_length] at hi
  rw [layP_co (by omega), Ser.co_zeros]
  by_cases h : i < 1
  · rw [if_pos h]; unfold layF; rw [if_neg (by omega)]
  · rw [if_neg h]
theorem layP_end (n : Nat) : layP n n = layL n := by
  refine Ser.list_ext (by rw [layP_length, layL_length]) (fun i hi => ?_)
  rw [layP_length] at hi
  rw [layP_co (by omega), layL_co (by omega)]
  by_cases h : i < n
  · rw [if_pos h]
  · rw [if_neg h]; unfold layF; rw [if_neg (by omega)]
theorem layP_step {n k : Nat} (h : k ≤ n) : (layP n k).set k (layF n k) = layP n (k + 1) := by
  refine Ser.list_ext (by rw [List.length_set, layP_length, layP_length]) (fun i hi => ?_)
  rw [List.length_set, layP_length] at hi
  rw [Ser.co_set (by rw [layP_length]; omega), layP_co (by omega), layP_co (by omega)]
  by_cases e : i = k
  · rw [if_pos e, if_pos (by omega), e]
  · rw [if_neg e]
    by_cases c : i < k
    · rw [if_pos c, if_pos (by omega)]
    · rw [if_neg c, if_neg (by omega)]
theorem layF_mid {n k : Nat} (h1 : 0 < k) (h2 : k < n) : layF n k = (binI (n : Int) (k : Int)).tdiv (lz (n : Int) (n - 1)) := by
  unfold layF; rw [if_pos ⟨h1, h2⟩]
theorem lz_pos {n : Int} : ∀ k : Nat, 0 < k → (k : Int) ≤ n → 0 < lz n k
  | 0, h, _ => absurd h (by omega)
  | k + 1, _, h => by
    have hp : 0 < binI n (k + 1 : Nat) := by
      have := Num.bin_pos n.toNat (k + 1) (by omega)
      unfold binI; simp only [Int.toNat_natCast]; omega
    rw [lz]
    unfold gcdI
    have := Nat.gcd_pos_of_pos_right (lz n k).natAbs (show 0 < (binI n (k + 1 : Nat)).natAbs by omega)
    omega
theorem layF_small : ∀ n : Fin 11, ∀ i : Fin 11, 0 ≤ layF n i ∧ layF n i ≤ 252 := by decide +kernel
theorem layF_bd {n i : Nat} (h : n ≤ 10) : 0 ≤ layF n i ∧ layF n i ≤ 252 := by
  by_cases hi : i ≤ 10
  · exact layF_small ⟨n, by omega⟩ ⟨i, by omega⟩
  · unfold layF; rw [if_neg (by omega)]; omega
/-- a layer as a table: 0 below the degree -/
def ofLay (d : Nat) (f : Nat → Int) : Nat → Nat → Int := fun i j => if i + j < d then 0 else f i
/-- the model's table, its rows below k written -/
def lazQ (n k : Nat) : Nat → Nat → Int := fun i j => if i < k then ofLay n (layF n) i j else 0
theorem lazQ_one (m : Int) (n : Nat) : Pl.tab m n (lazQ n 1) = Pl.tab m n fun _ _ => 0 := Pl.tab_congr (Pl.Eq.of m n (fun i j _ => by
  unfold lazQ ofLay layF
  by_cases h : i < 1
  · rw [if_pos h]; split
    · rfl
    · rw [if_neg (by omega)]
  · rw [if_neg h]))
theorem lazQ_end (m : Int) (n : Nat) : Pl.tab m n (lazQ n n) = Pl.tab m n (ofLay n (layF n)) := Pl.tab_congr (Pl.Eq.of m n (fun i j _ => by
  unfold lazQ
  by_cases h : i < n
  · rw [if_pos h]
  · rw [if_neg h]; unfold ofLay layF; split
    · rfl
    · rw [if_neg (by omega)]))
theorem lazQ_step {m : Int} {n k : Nat} (h2 : k < n) : (Pl.tab m n (lazQ n k)).set k ((Pl.rw' (Pl.tab m n (lazQ n k)) k).set (n - k) (layF n k % m)) = Pl.tab m n (lazQ n (k + 1)) := by
  refine Pl.tab_put (by omega) ?_ (fun i j hij hne => ?_)
  · unfold lazQ ofLay
    rw [if_pos (by omega), if_neg (by omega)]
  · unfold lazQ ofLay
    by_cases hi : i < k
    · rw [if_pos hi, if_pos (by omega)]
    · rw [if_neg hi]
      by_cases he : i < k + 1
      · rw [if_pos he, if_pos (by omega)]
      · rw [if_neg he]
/-- the table of C(n) -/
def lazT (m : Int) (n : Nat) : List (List Int) := Pl.tab m n (ofLay n (layF n))
/-- the model of LazardCocycle -/
def lazP (m n : Int) : Int × List (List Int) × Int :=
  if isM m = true then (if inB n 2 10 = true then (m, lazT m n.toNat, 0) else (0, [], 2)) else (0, [], 1)
/-- the number of laws of degree k + 1, if it is not too great -/
def cntO (m : Int) : Nat → Option Int
  | 0 => some 1
  | k + 1 => match cntO m k with
    | none => none
    | some c => if 1000000000000000000 / m < c then none else some (c * m)
theorem cntO_bd {m : Int} (m1 : 2 ≤ m) : ∀ k c, cntO m k = some c → 1 ≤ c ∧ c ≤ 1000000000000000000
  | 0, c, h => by simp [cntO] at h; omega
  | k + 1, c, h => by
    unfold cntO at h
    cases hk : cntO m k with
    | none => rw [hk] at h; simp at h
    | some b =>
      rw [hk] at h
      obtain ⟨b1, b2⟩ := cntO_bd m1 k b hk
      by_cases hb : 1000000000000000000 / m < b
      · simp [hb] at h
      · simp [hb] at h
        have h3 : b * m ≤ 1000000000000000000 := Int.le_trans (Int.mul_le_mul_of_nonneg_right (show b ≤ 1000000000000000000 / m by omega) (by omega)) (Int.ediv_mul_le _ (by omega))
        have h4 : 1 * 1 ≤ b * m := Int.mul_le_mul (by omega) (by omega) (by omega) (by omega)
        omega
theorem cntO_none {m : Int} {k : Nat} (h : cntO m k = none) (n : Nat) (hn : k ≤ n) : cntO m n = none := by
  obtain ⟨q, rfl⟩ : ∃ q, n = k + q := ⟨n - k, by omega⟩
  clear hn
  induction q with
  | zero => exact h
  | succ q ih => rw [← Nat.add_assoc]; unfold cntO; rw [ih]
def cntM (m d : Int) : Int × Int :=
  if isM m = true then (if inB d 1 10 = true then (match cntO m (d.toNat - 1) with
    | some c => (c, 0)
    | none => (0, 3)) else (0, 2)) else (0, 1)
end Go.Proofs.Ytlpfifdocgljnac

