/- Texts of contracts, joined. -/
import Derived.Test.YtlpfifdocgljnacMgaf
import Derived.Test.YtlpfifdocgljnacMgag
import Derived.Test.YtlpfifdocgljnacMgah
import Derived.Test.YtlpfifdocgljnacMgae
import Derived.Test.YtlpfifdocgljnacMgac
/- Contracts of SubstituteCurves and SubstituteBoth, of the program and of the model. -/
namespace Go.Proofs.Ytlpfifdocgljnac
open Go.RowKit Go.WideShapes Go.ChangeShapes Go.ChangeAt

/-- the code of a plane and two curves -/
def codePC2 (m : Int) (t : List (List Int)) (m1 : Int) (l1 : List Int) (m2 : Int) (l2 : List Int) : Int := codeLC (isP m t) m t.length [(m1, none, 0, l1), (m2, none, 0, l2)]
theorem codePC2_eq (m : Int) (t : List (List Int)) (m1 : Int) (A1 : Option Addr) (c1 : Nat) (l1 : List Int) (m2 : Int) (A2 : Option Addr) (c2 : Nat) (l2 : List Int) : codeLC (isP m t) m t.length [(m1, A1, c1, l1), (m2, A2, c2, l2)] = codePC2 m t m1 l1 m2 l2 := rfl
theorem isC_two {m : Int} {l : List Int} (h : isC m l = true) : isS m l = true ∧ Ser.co l 0 = 0 := by
  unfold isC at h
  rw [Bool.and_eq_true] at h
  exact ⟨h.1, by simpa [Ser.co] using h.2⟩
theorem codeL_zero {ok : Bool} {m : Int} {n : Nat} {xs : List (Int × Option Addr × Nat × List Int)} (h : codeL ok m n xs = 0) : ok = true ∧ allS xs = true ∧ alkS m n xs = true := by
  unfold codeL at h
  by_cases h1 : ok = true ∧ allS xs = true
  · rw [if_pos h1] at h
    by_cases h2 : alkS m n xs = true
    · exact ⟨h1.1, h1.2, h2⟩
    · rw [if_neg h2] at h; exact absurd h (by decide)
  · rw [if_neg h1] at h; exact absurd h (by decide)
theorem codeLC_zero {ok : Bool} {m : Int} {n : Nat} {xs : List (Int × Option Addr × Nat × List Int)} (h : codeLC ok m n xs = 0) : ok = true ∧ allS xs = true ∧ alkS m n xs = true ∧ curS xs = true := by
  unfold codeLC at h
  by_cases h1 : codeL ok m n xs = 0
  · rw [if_pos h1] at h
    obtain ⟨a, b, c⟩ := codeL_zero h1
    by_cases h2 : curS xs = true
    · exact ⟨a, b, c, h2⟩
    · rw [if_neg h2] at h; exact absurd h (by decide)
  · rw [if_neg h1] at h; exact absurd h h1
theorem codePC2_ok {m : Int} {t : List (List Int)} {m1 : Int} {l1 : List Int} {m2 : Int} {l2 : List Int} (h : codePC2 m t m1 l1 m2 l2 = 0) :
    m1 = m ∧ m2 = m ∧ ∃ d, t.length = d + 1 ∧ l1.length = d + 1 ∧ l2.length = d + 1 ∧ Pl.Ok m d t ∧ SerOk m d l1 ∧ SerOk m d l2 ∧ Ser.co l1 0 = 0 ∧ Ser.co l2 0 = 0 := by
  obtain ⟨h0, h1, h2, h3⟩ := codeLC_zero h
  obtain ⟨d, e, ok⟩ := plOk_of h0
  unfold allS at h1
  unfold alkS at h2
  unfold curS at h3
  simp only [List.all_cons, List.all_nil, Bool.and_true, Bool.and_eq_true, decide_eq_true_iff] at h1 h2 h3
  obtain ⟨⟨rfl, e1⟩, rfl, e2⟩ := h2
  obtain ⟨d1, f1, s1⟩ := serOk_of h1.1
  obtain ⟨d2, f2, s2⟩ := serOk_of h1.2
  obtain rfl : d1 = d := by omega
  obtain rfl : d2 = d1 := by omega
  exact ⟨rfl, rfl, d2, e, f1, f2, ok, s1, s2, (isC_two h3.1).2, (isC_two h3.2).2⟩
/-- a plane's box, two series' boxes, the result's variable, the list of both series -/
theorem proS (R : TypeId) (w : World) (m : Int) (A : Option Addr) (n c : Nat) (m1 : Int) (A1 : Option Addr) (n1 c1 : Nat) (m2 : Int) (A2 : Option Addr) (n2 c2 : Nat) :
    ∃ W, ((((w.alloc (.cells #[.int .i64 m, .slice A n c] 27)).alloc (.cells #[.int .i64 m1, .slice A1 n1 c1] 84)).alloc (.cells #[.int .i64 m2, .slice A2 n2 c2] 84)).alloc (.cells #[.int .i64 0, .slice none 0 0] R)).alloc (.cells #[.int .i64 m1, .slice A1 n1 c1, .int .i64 m2, .slice A2 n2 c2] 84) = W ∧
    Box W w.heap.size m A n c ∧ Box W (w.heap.size + 1) m1 A1 n1 c1 ∧ Box W (w.heap.size + 1 + 1) m2 A2 n2 c2 ∧ VarC R W (w.heap.size + 1 + 1 + 1) #[.int .i64 0, .slice none 0 0] ∧ Box4 W (w.heap.size + 1 + 1 + 1 + 1) m1 A1 n1 c1 m2 A2 n2 c2 ∧ Below w.heap.size w W := by
  obtain ⟨W0, h0, h1, h2, h3, h4⟩ := startB3 27 84 84 w m A n c m1 A1 n1 c1 m2 A2 n2 c2
  have hs : W0.heap.size = w.heap.size + 1 + 1 + 1 := by rw [← h0]; simp
  rw [h0]
  refine ⟨_, rfl, (h1.keep (below_one _ _)).keep (below_one _ _), (h2.keep (below_one _ _)).keep (below_one _ _), (h3.keep (below_one _ _)).keep (below_one _ _), ?_, ?_, below_alloc _ (below_alloc _ h4)⟩
  · have := (VarC.new R W0 #[.int .i64 0, .slice none 0 0]).keep (below_one _ (.cells #[.int .i64 m1, .slice A1 n1 c1, .int .i64 m2, .slice A2 n2 c2] 84))
    rwa [hs] at this
  · have hv := VarC.new 84 (W0.alloc (.cells #[.int .i64 0, .slice none 0 0] R)) #[.int .i64 m1, .slice A1 n1 c1, .int .i64 m2, .slice A2 n2 c2]
    have e : (W0.alloc (.cells #[.int .i64 0, .slice none 0 0] R)).heap.size = w.heap.size + 1 + 1 + 1 + 1 := by simp [hs]
    rw [e] at hv
    exact ⟨⟨hv.cell 0 _ rfl, hv.cell 1 _ rfl, hv.lt⟩, hv.cell 2 _ rfl, hv.cell 3 _ rfl⟩
/-- .. without the list -/
theorem sproS (R : TypeId) (w : World) (m : Int) (A : Option Addr) (n c : Nat) (m1 : Int) (A1 : Option Addr) (n1 c1 : Nat) (m2 : Int) (A2 : Option Addr) (n2 c2 : Nat) :
    ∃ W, (((w.alloc (.cells #[.int .i64 m, .slice A n c] 27)).alloc (.cells #[.int .i64 m1, .slice A1 n1 c1] 84)).alloc (.cells #[.int .i64 m2, .slice A2 n2 c2] 84)).alloc (.cells #[.int .i64 0, .slice none 0 0] R) = W ∧
    Box W w.heap.size m A n c ∧ Box W (w.heap.size + 1) m1 A1 n1 c1 ∧ Box W (w.heap.size + 1 + 1) m2 A2 n2 c2 ∧ VarC R W (w.heap.size + 1 + 1 + 1) #[.int .i64 0, .slice none 0 0] ∧ Below w.heap.size w W := by
  obtain ⟨W0, h0, h1, h2, h3, h4⟩ := startB3 27 84 84 w m A n c m1 A1 n1 c1 m2 A2 n2 c2
  have hs : W0.heap.size = w.heap.size + 1 + 1 + 1 := by rw [← h0]; simp
  rw [h0]
  refine ⟨_, rfl, h1.keep (below_one _ _), h2.keep (below_one _ _), h3.keep (below_one _ _), ?_, below_alloc _ h4⟩
  have := VarC.new R W0 #[.int .i64 0, .slice none 0 0]
  rwa [hs] at this
/-- what the three boxes hold is kept -/
theorem box3_call {w w' : World} {g g1 g2 : Nat} {m m1 m2 : Int} {A A1 A2 : Option Addr} {n c n1 c1 n2 c2 : Nat} (hb : Below w.heap.size w w') (h : Box w g m A n c ∧ Box w g1 m1 A1 n1 c1 ∧ Box w g2 m2 A2 n2 c2) : Box w' g m A n c ∧ Box w' g1 m1 A1 n1 c1 ∧ Box w' g2 m2 A2 n2 c2 :=
  ⟨h.1.keep hb, h.2.1.keep hb, h.2.2.keep hb⟩
/-- the models -/
def subP (m : Int) (t : List (List Int)) (m1 : Int) (l1 : List Int) (m2 : Int) (l2 : List Int) : Int × List Int × Int :=
  if codePC2 m t m1 l1 m2 l2 = 0 then (m, Pl.putL m (t.length - 1) (Pl.pc t) l1 l2, 0) else (0, [], codePC2 m t m1 l1 m2 l2)
theorem subP_len (m : Int) (t : List (List Int)) (m1 : Int) (l1 : List Int) (m2 : Int) (l2 : List Int) : (subP m t m1 l1 m2 l2).2.1.length ≤ 1048576 := by
  unfold subP
  split
  · rename_i h
    obtain ⟨_, _, d, e, _, _, ok, _⟩ := codePC2_ok h
    have := ok.d2
    dsimp only
    rw [Pl.putL_length]; omega
  · simp
def botP (m : Int) (t : List (List Int)) (m1 : Int) (l1 : List Int) (m2 : Int) (l2 : List Int) : Int × List (List Int) × Int :=
  if codePC2 m t m1 l1 m2 l2 = 0 then (m, Pl.botT m (t.length - 1) (Pl.pc t) l1 l2, 0) else (0, [], codePC2 m t m1 l1 m2 l2)
theorem botP_len (m : Int) (t : List (List Int)) (m1 : Int) (l1 : List Int) (m2 : Int) (l2 : List Int) : szT (botP m t m1 l1 m2 l2).2.1 ≤ 1048576 := by
  unfold botP
  split
  · rename_i h
    obtain ⟨_, _, d, e, _, _, ok, _⟩ := codePC2_ok h
    refine szT_ok (m := m) (d := d) ?_
    rw [e]
    exact ok.tab _
  · show szT [] ≤ 1048576
    decide
/-- in the walk's form: three boxes are kept by a call and by a store elsewhere -/
theorem kb3_call {w w' : World} {g g1 g2 : Nat} {m m1 m2 : Int} {A A1 A2 : Option Addr} {n c n1 c1 n2 c2 : Nat} (hb : Below w.heap.size w w')
    (h : (w.cell? ⟨g, 0, none⟩ = some (.int .i64 m) ∧ w.cell? ⟨g, 1, none⟩ = some (.slice A n c) ∧ g < w.heap.size) ∧ (w.cell? ⟨g1, 0, none⟩ = some (.int .i64 m1) ∧ w.cell? ⟨g1, 1, none⟩ = some (.slice A1 n1 c1) ∧ g1 < w.heap.size) ∧ (w.cell? ⟨g2, 0, none⟩ = some (.int .i64 m2) ∧ w.cell? ⟨g2, 1, none⟩ = some (.slice A2 n2 c2) ∧ g2 < w.heap.size)) :
    (w'.cell? ⟨g, 0, none⟩ = some (.int .i64 m) ∧ w'.cell? ⟨g, 1, none⟩ = some (.slice A n c) ∧ g < w'.heap.size) ∧ (w'.cell? ⟨g1, 0, none⟩ = some (.int .i64 m1) ∧ w'.cell? ⟨g1, 1, none⟩ = some (.slice A1 n1 c1) ∧ g1 < w'.heap.size) ∧ (w'.cell? ⟨g2, 0, none⟩ = some (.int .i64 m2) ∧ w'.cell? ⟨g2, 1, none⟩ = some (.slice A2 n2 c2) ∧ g2 < w'.heap.size) :=
  box3_call hb h
theorem kb3_store {w : World} {b g g1 g2 : Nat} {m m1 m2 : Int} {A A1 A2 : Option Addr} {n c n1 c1 n2 c2 : Nat} {x y : Value} (e0 : b ≠ g) (e1 : b ≠ g1) (e2 : b ≠ g2)
    (h : (w.cell? ⟨g, 0, none⟩ = some (.int .i64 m) ∧ w.cell? ⟨g, 1, none⟩ = some (.slice A n c) ∧ g < w.heap.size) ∧ (w.cell? ⟨g1, 0, none⟩ = some (.int .i64 m1) ∧ w.cell? ⟨g1, 1, none⟩ = some (.slice A1 n1 c1) ∧ g1 < w.heap.size) ∧ (w.cell? ⟨g2, 0, none⟩ = some (.int .i64 m2) ∧ w.cell? ⟨g2, 1, none⟩ = some (.slice A2 n2 c2) ∧ g2 < w.heap.size)) :
    let w' := (w.setCell ⟨b, 0, none⟩ x).setCell ⟨b, 1, none⟩ y
    (w'.cell? ⟨g, 0, none⟩ = some (.int .i64 m) ∧ w'.cell? ⟨g, 1, none⟩ = some (.slice A n c) ∧ g < w'.heap.size) ∧ (w'.cell? ⟨g1, 0, none⟩ = some (.int .i64 m1) ∧ w'.cell? ⟨g1, 1, none⟩ = some (.slice A1 n1 c1) ∧ g1 < w'.heap.size) ∧ (w'.cell? ⟨g2, 0, none⟩ = some (.int .i64 m2) ∧ w'.cell? ⟨g2, 1, none⟩ = some (.slice A2 n2 c2) ∧ g2 < w'.heap.size) :=
  ⟨((show Box w g m A n c from h.1).far b 0 x e0).far b 1 y e0, ((show Box w g1 m1 A1 n1 c1 from h.2.1).far b 0 x e1).far b 1 y e1, ((show Box w g2 m2 A2 n2 c2 from h.2.2).far b 0 x e2).far b 1 y e2⟩
/-! the model -/
/-- three boxes and the list of both series -/
theorem proL (w : World) (m : Int) (A : Option Addr) (n c : Nat) (m1 : Int) (A1 : Option Addr) (n1 c1 : Nat) (m2 : Int) (A2 : Option Addr) (n2 c2 : Nat) :
    ∃ W, (((w.alloc (.cells #[.int .i64 m, .slice A n c] 27)).alloc (.cells #[.int .i64 m1, .slice A1 n1 c1] 84)).alloc (.cells #[.int .i64 m2, .slice A2 n2 c2] 84)).alloc (.cells #[.int .i64 m1, .slice A1 n1 c1, .int .i64 m2, .slice A2 n2 c2] 84) = W ∧
    Box W w.heap.size m A n c ∧ Box W (w.heap.size + 1) m1 A1 n1 c1 ∧ Box W (w.heap.size + 1 + 1) m2 A2 n2 c2 ∧ Box4 W (w.heap.size + 1 + 1 + 1) m1 A1 n1 c1 m2 A2 n2 c2 ∧ Below w.heap.size w W := by
  obtain ⟨W0, h0, h1, h2, h3, h4⟩ := startB3 27 84 84 w m A n c m1 A1 n1 c1 m2 A2 n2 c2
  have hs : W0.heap.size = w.heap.size + 1 + 1 + 1 := by rw [← h0]; simp
  rw [h0]
  refine ⟨_, rfl, h1.keep (below_one _ _), h2.keep (below_one _ _), h3.keep (below_one _ _), ?_, below_alloc _ h4⟩
  have hv := VarC.new 84 W0 #[.int .i64 m1, .slice A1 n1 c1, .int .i64 m2, .slice A2 n2 c2]
  rw [hs] at hv
  exact ⟨⟨hv.cell 0 _ rfl, hv.cell 1 _ rfl, hv.lt⟩, hv.cell 2 _ rfl, hv.cell 3 _ rfl⟩
theorem codePC2_if (m : Int) (t : List (List Int)) (m1 : Int) (l1 : List Int) (m2 : Int) (l2 : List Int) : codePC2 m t m1 l1 m2 l2 = if codeL (isP m t) m t.length [(m1, none, 0, l1), (m2, none, 0, l2)] = 0 then (if isC m1 l1 = true ∧ isC m2 l2 = true then 0 else 5) else codeL (isP m t) m t.length [(m1, none, 0, l1), (m2, none, 0, l2)] := by
  unfold codePC2 codeLC curS
  simp only [List.all_cons, List.all_nil, Bool.and_true, Bool.and_eq_true]
end Go.Proofs.Ytlpfifdocgljnac

/- Contracts of the program's codes of laws, of the law of a plane, of lines and of sums under a law. -/
namespace Go.Proofs.Ytlpfifdocgljnac
open Go.RowKit Go.WideShapes Go.ChangeShapes Go.ChangeAt

/-- block g holds planes, one after the other -/
def PLs (w : World) (g : Nat) (xs : List (Int × Option Addr × Nat × List (List Int))) : Prop :=
  g < w.heap.size ∧ ∀ k m A c t, xs[k]? = some (m, A, c, t) → w.cell? ⟨g, k * 2, none⟩ = some (.int .i64 m) ∧ w.cell? ⟨g, k * 2 + 1, none⟩ = some (.slice A t.length c) ∧ RP w A t ∧ szT t ≤ 1048576
theorem PLs.keep {w w' : World} {g : Nat} {xs : List (Int × Option Addr × Nat × List (List Int))} (h : PLs w g xs) (hb : Below w.heap.size w w') : PLs w' g xs :=
  ⟨Nat.lt_of_lt_of_le h.1 hb.size, fun k m A c t hx => by
    obtain ⟨a, b, r, z⟩ := h.2 k m A c t hx
    exact ⟨(hb.cell (p := ⟨g, k * 2, none⟩) h.1).trans a, (hb.cell (p := ⟨g, k * 2 + 1, none⟩) h.1).trans b, r.below hb, z⟩⟩
theorem PLs.one {w : World} {g : Nat} {m : Int} {A : Option Addr} {c : Nat} {t : List (List Int)} (hx : Box w g m A t.length c) (hr : RP w A t) (hz : szT t ≤ 1048576) : PLs w g [(m, A, c, t)] :=
  ⟨hx.2.2, fun k m' A' c' t' h => by
    match k, h with
    | 0, h =>
      simp at h
      obtain ⟨rfl, rfl, rfl, rfl⟩ := h
      exact ⟨hx.1, hx.2.1, hr, hz⟩⟩
theorem PLs.two {w : World} {g : Nat} {m : Int} {A : Option Addr} {c : Nat} {t : List (List Int)} {m' : Int} {A' : Option Addr} {c' : Nat} {t' : List (List Int)} (hx : Box4 w g m A t.length c m' A' t'.length c') (hr : RP w A t) (hr' : RP w A' t') (hz : szT t ≤ 1048576) (hz' : szT t' ≤ 1048576) :
    PLs w g [(m, A, c, t), (m', A', c', t')] :=
  ⟨hx.1.2.2, fun k m0 A0 c0 t0 h => by
    match k, h with
    | 0, h =>
      simp at h
      obtain ⟨rfl, rfl, rfl, rfl⟩ := h
      exact ⟨hx.1.1, hx.1.2.1, hr, hz⟩
    | 1, h =>
      simp at h
      obtain ⟨rfl, rfl, rfl, rfl⟩ := h
      exact ⟨hx.2.1, hx.2.2, hr', hz'⟩⟩
def lawS (xs : List (Int × Option Addr × Nat × List (List Int))) : Bool := xs.all fun x => isL x.1 x.2.2.2
set_option maxHeartbeats 8000000 in
set_option maxRecDepth 100000 in
theorem codeOfLaws_any (g : Nat) (xs : List (Int × Option Addr × Nat × List (List Int))) (C : Int) (w : World) (hx : PLs w g xs) (hn : xs.length ≤ 1000)
    (hcp : lawS xs = true → ∀ W0, Below w.heap.size w W0 → Calls Try.prog 61 #[.slice (some ⟨g, 0, none⟩) xs.length xs.length] W0 fun e w' => e = .returned (.int .i64 C) ∧ Below W0.heap.size W0 w') :
    Calls Try.prog 33 #[.slice (some ⟨g, 0, none⟩) xs.length xs.length] w fun e w' => e = .returned (.int .i64 (if lawS xs = true then C else 1)) ∧ Below w.heap.size w w' := by
  have HX := Lib.hid hx
  have HCP := Lib.hid hcp
  obtain ⟨R, hR⟩ : ∃ R, (if lawS xs = true then C else 1) = R := ⟨_, rfl⟩
  have HRR := Lib.hid hR
  rw [hR]
  obtain ⟨n, hxn⟩ : ∃ n, xs.length = n := ⟨_, rfl⟩
  have HN := Lib.hid hxn
  rw [hxn] at hn HCP ⊢
  have HLT := Lib.hid (fun k (hk : k < n) => (by
    obtain ⟨⟨m', A', c', l'⟩, hx⟩ : ∃ x, xs[k]? = some x := ⟨_, List.getElem?_eq_getElem (by omega)⟩
    exact ⟨m', A', c', l', hx⟩ : ∃ m' A' c' l', xs[k]? = some (m', A', c', l')))
  clear hx hcp hR hxn
  go_enter Try.func33, Try.ntmps33
  go_wp2
  go_loopw [4, 7] (fun _ i wr => ∃ k : Nat, k ≤ n ∧ i = .int .i64 k ∧ lawS (xs.take k) = true ∧ Below w.heap.size w wr) (fun _ i _ => n - (intOf i).toNat)
  case atStart => exact ⟨0, Nat.zero_le _, rfl, rfl, Below.refl _ _⟩
  case round =>
    obtain ⟨k, hk, rfl, hall, hbel⟩ := hrel
    have HA := Lib.hid hall
    have HBE := Lib.hid hbel
    clear hall
    by_cases hlt : k < n
    · obtain ⟨m', A', c', l', hxk⟩ := HLT.out k hlt
      obtain ⟨x1, x2, x3, x4⟩ := (HX.out.keep hbel).2 k m' A' c' l' hxk
      have HXK := Lib.hid hxk
      have HIS := Lib.hid (fun W0 (h : Below wr.heap.size wr W0) => IsLaw_any m' A' c' l' W0 x4 (x3.below h))
      obtain ⟨L', hL'⟩ : ∃ L, l'.length = L := ⟨_, rfl⟩
      obtain ⟨b', hb'⟩ : ∃ b, isL m' l' = b := ⟨_, rfl⟩
      have HBB := Lib.hid hb'
      rw [hL', hb'] at HIS
      rw [hL'] at x2
      have j0 : (0 : Int) ≤ (k : Int) := by omega
      have j1 : (k : Int) < (n : Int) := by omega
      clear hbel hxk x3 x4 hL' hb'
      cases b' with
      | true =>
        have HOK := Lib.hid (show lawS (xs.take (k + 1)) = true by unfold lawS; rw [all_take _ _ _ _ HXK.out]; exact and_t HA.out HBB.out)
        go_wp2_with fail
        refine (HIS.out _ (below_one _ _)).mono ?_
        rintro e w2 ⟨rfl, hb2⟩
        have HB2 := Lib.hid (below_step (below_alloc (.cells #[.int .i64 m', .slice A' L' c'] 27) HBE.out) hb2)
        clear hb2 x1 x2
        go_wp2
        go_roundw
        case rel => exact ⟨k + 1, by omega, by go_num, HOK.out, HB2.out⟩
        case measure => simp only [intOf]; omega
      | false =>
        have HNO : Hid (R = 1) := Lib.hid (by rw [← HRR.out, if_neg]; unfold lawS; rw [all_bad _ _ _ _ HXK.out HBB.out]; decide)
        go_wp2_with fail
        refine (HIS.out _ (below_one _ _)).mono ?_
        rintro e w2 ⟨rfl, hb2⟩
        have HB2 := Lib.hid (below_step (below_alloc (.cells #[.int .i64 m', .slice A' L' c'] 27) HBE.out) hb2)
        clear hb2 x1 x2
        go_wp2
        go_ret
        exact ⟨ret_int HNO.out.symm, HB2.out⟩
    · obtain rfl : k = n := by omega
      have hal : lawS xs = true := by
        have := HA.out
        rwa [List.take_of_length_le (by have := HN.out; omega)] at this
      have HC := Lib.hid (HCP.out hal _ hbel)
      have HYES : Hid (R = C) := Lib.hid (by rw [← HRR.out, if_pos hal])
      clear HA hbel hal
      go_wp2_with fail
      refine HC.out.mono ?_
      rintro e w2 ⟨rfl, hb2⟩
      have HB2 := Lib.hid (below_step HBE.out hb2)
      clear hb2
      go_wp2
      go_ret
      exact ⟨ret_int HYES.out.symm, HB2.out⟩
def codeL1 (m : Int) (t : List (List Int)) : Int := if isL m t = true then 0 else 1
def codeL2 (m : Int) (t : List (List Int)) (m' : Int) (t' : List (List Int)) : Int := if isL m t = true ∧ isL m' t' = true then (if m = m' ∧ t.length = t'.length then 0 else 2) else 1
theorem codeL1_any (g : Nat) (m : Int) (A : Option Addr) (c : Nat) (t : List (List Int)) (w : World) (hz : szT t ≤ 1048576) (hr : RP w A t) (hx : Box w g m A t.length c) :
    Calls Try.prog 33 #[.slice (some ⟨g, 0, none⟩) 1 1] w fun e w' => e = .returned (.int .i64 (codeL1 m t)) ∧ Below w.heap.size w w' := by
  have h := codeOfLaws_any g [(m, A, c, t)] 0 w (PLs.one hx hr hz) (by simp) (fun hal W0 hb => by
    have := codeOfPlanes1_any g m A c t W0 hz (hr.below hb) (hx.keep hb)
    have hp : isP m t = true := (isL_of (by simpa [lawS] using hal)).1
    rw [show codeP1 m t = 0 by unfold codeP1; rw [if_pos hp]] at this
    exact this)
  have e : (if lawS [(m, A, c, t)] = true then (0 : Int) else 1) = codeL1 m t := by simp [lawS, codeL1]
  rw [e] at h
  exact h
theorem codeL2_any (g : Nat) (m : Int) (A : Option Addr) (c : Nat) (t : List (List Int)) (m' : Int) (A' : Option Addr) (c' : Nat) (t' : List (List Int)) (w : World) (hz : szT t ≤ 1048576) (hz' : szT t' ≤ 1048576) (hr : RP w A t) (hr' : RP w A' t') (hx : Box4 w g m A t.length c m' A' t'.length c') :
    Calls Try.prog 33 #[.slice (some ⟨g, 0, none⟩) 2 2] w fun e w' => e = .returned (.int .i64 (codeL2 m t m' t')) ∧ Below w.heap.size w w' := by
  have h := codeOfLaws_any g [(m, A, c, t), (m', A', c', t')] (if m = m' ∧ t.length = t'.length then 0 else 2) w (PLs.two hx hr hr' hz hz') (by simp) (fun hal W0 hb => by
    have := codeOfPlanes2_any g m A c t m' A' c' t' W0 hz hz' (hr.below hb) (hr'.below hb) (hx.keep hb)
    have hal' : isL m t = true ∧ isL m' t' = true := by simpa [lawS] using hal
    rw [show codeP2 m t m' t' = if m = m' ∧ t.length = t'.length then 0 else 2 by unfold codeP2; rw [if_pos ⟨(isL_of hal'.1).1, (isL_of hal'.2).1⟩]] at this
    exact this)
  have e : (if lawS [(m, A, c, t), (m', A', c', t')] = true then (if m = m' ∧ t.length = t'.length then (0 : Int) else 2) else 1) = codeL2 m t m' t' := by simp [lawS, codeL2]
  rw [e] at h
  exact h
/-- the code of a law and series -/
def codeLw (m : Int) (t : List (List Int)) (xs : List (Int × Option Addr × Nat × List Int)) : Int := if isL m t = true then (if allS xs = true then (if alkS m t.length xs = true ∧ curS xs = true then 0 else 2) else 1) else 1
theorem codeLw_of {m : Int} {t : List (List Int)} {xs : List (Int × Option Addr × Nat × List Int)} (h : isL m t = true) : codeLw m t xs = if codeLC (isP m t) m t.length xs = 5 then 2 else codeLC (isP m t) m t.length xs := by
  unfold codeLw codeLC codeL
  rw [if_pos h, (isL_of h).1]
  by_cases h1 : allS xs = true
  · simp only [h1, and_self, if_true]
    by_cases h2 : alkS m t.length xs = true
    · by_cases h3 : curS xs = true
      · simp [h2, h3]
      · simp [h2, h3]
    · simp [h2]
  · simp [h1]
end Go.Proofs.Ytlpfifdocgljnac

/- Contracts of the law of a plane, its lines and sums. -/
namespace Go.Proofs.Ytlpfifdocgljnac
open Go.RowKit Go.WideShapes Go.ChangeShapes Go.ChangeAt

/-- a plane's box and a law's variable -/
theorem pro_law (w : World) (m : Int) (A : Option Addr) (n c : Nat) : ∃ W, (w.alloc (.cells #[.int .i64 m, .slice A n c] 27)).alloc (.cells #[.int .i64 0, .int .i64 0, .slice none 0 0] 60) = W ∧
    Box W w.heap.size m A n c ∧ VarC 60 W (w.heap.size + 1) #[.int .i64 0, .int .i64 0, .slice none 0 0] ∧ Below w.heap.size w W := by
  refine ⟨_, rfl, (Box.newT _ _ _ _ _ _).keep (below_one _ _), ?_, below_alloc _ (below_one _ _)⟩
  have := VarC.new 60 (w.alloc (.cells #[.int .i64 m, .slice A n c] 27)) #[.int .i64 0, .int .i64 0, .slice none 0 0]
  simpa using this
set_option maxHeartbeats 2000000 in
set_option maxRecDepth 100000 in
theorem lawOf_nat (m : Int) (A : Option Addr) (n c d : Nat) (w : World) (hn : n = d + 1) (hd : d ≤ 1000) :
    Calls Try.prog 35 #[.agg #[.int .i64 m, .slice A n c]] w fun e w' => e = .returned (.agg #[.int .i64 m, .int .i64 d, .slice A n c]) ∧ Below w.heap.size w w' := by
  obtain ⟨W, hW, b1, v2, hwb⟩ := pro_law w m A n c
  have B1 := Lib.hid b1
  have V2 := Lib.hid v2
  have HB := Lib.hid hwb
  have HW := Lib.hid hW
  have HG := Lib.hid (fun W0 => gridOf_nat m A n c d W0 hn hd)
  clear b1 v2 hwb hW hn
  obtain ⟨x1, x2, x3⟩ := B1.out
  go_enter Try.func35, Try.ntmps35
  go_wp2_with fail
  rw [HW.out]
  refine (HG.out _).mono ?_
  rintro e w1 ⟨rfl, hb1⟩
  have hv := V2.out.keep hb1
  obtain ⟨q0, q1, q2, q3, q4, q5⟩ := hv.tells3
  have hs := hv.set3 (.int .i64 m) (.int .i64 d) (.slice A n c)
  obtain ⟨f0, f1, f2, -⟩ := hs.tells3
  have F4 := Lib.hid (below_set3 (below_step HB.out hb1) (show w.heap.size ≤ w.heap.size + 1 by omega) (.int .i64 m) (.int .i64 d) (.slice A n c))
  unfold set3 at f0 f1 f2 F4
  clear hv hs hb1 x1 x2 x3
  go_wp2
  exact bodyPost_ret (v := .agg #[.int .i64 m, .int .i64 d, .slice A n c]) (by simp [results, Try.results35, go_sem, f0, f1, f2]) rfl ⟨rfl, F4.out⟩
end Go.Proofs.Ytlpfifdocgljnac

/- Contracts of the model's tables of a law: a list shorter than its degree put upon a plane; columns; the code of a law. -/
namespace Go.Proofs.Ytlpfifdocgljnac
open Go.RowKit Go.WideShapes Go.ChangeShapes Go.ChangeAt

set_option maxHeartbeats 8000000 in
set_option maxRecDepth 100000 in
theorem l03AfterQ_any (m : Int) (d : Nat) (A : Option Addr) (c : Nat) (l : List Int) (A' : Option Addr) (c' : Nat) (t : List (List Int)) (w : World) (hn : l.length ≤ d + 1) (hred : Ser.Red m l) (hs' : Pl.Ok m d t) (hr : RI w A l) (hr' : RP w A' t) :
    Calls Try.prog 117 #[.int .i64 m, .slice A l.length c, .slice A' t.length c'] w fun e w' => ∃ v, e = .returned v ∧ OwnR w' w.heap.size w'.heap.size v (Pl.horq m d l (Pl.pc t) l.length) ∧ Below w.heap.size w w' := by
  have HR := Lib.hid hr
  have HR' := Lib.hid hr'
  have HRED := Lib.hid hred
  have HS' := Lib.hid hs'
  have hd2 := hs'.d2
  have m1 := hs'.m1
  have m2 := hs'.m2
  have hm0 : ¬ m = 0 := by omega
  have HZ := Lib.hid (l03Zero_any m d w (by omega))
  have HT := Lib.hid (fun (k : Nat) (A1 : Option Addr) (c1 : Nat) (W0 : World) (h : RP W0 A1 (Pl.horq m d l (Pl.pc t) k)) (h' : RP W0 A' t) => by
    have := l03Times_any m d A1 c1 (Pl.horq m d l (Pl.pc t) k) A' c' t W0 (Pl.horq_ok m1 m2 hs'.d1 hd2 l _ k) hs' h h'
    rw [Pl.horq_length] at this
    exact this)
  have hst0 := fun k => Pl.horq_step (m := m) (d := d) l (Pl.pc t) k
  obtain ⟨L, hL⟩ : ∃ L, l.length = L := ⟨_, rfl⟩
  rw [hL] at hst0 hn
  have HST0 := Lib.hid hst0
  obtain ⟨L', hL'⟩ : ∃ L, t.length = L := ⟨_, rfl⟩
  have hLd' : (L' : Int) - 1 = (d : Int) := by have := hs'.len; omega
  have hLb : L ≤ 11 := by omega
  rw [hL'] at HT
  rw [hL, hL']
  have HL := Lib.hid hL
  clear hr hr' hs' hL hL' hred hst0
  go_enter Try.func117, Try.ntmps117
  go_wp2_with fail
  refine HZ.out.mono ?_
  rintro e w1 ⟨v, rfl, ho, hb⟩
  obtain ⟨A0, c0, rfl, -⟩ := ho.len
  rw [Pl.tab_length] at ho ⊢
  have HO1 := Lib.hid (show OwnR w1 w.heap.size w1.heap.size (.slice A0 (d + 1) c0) (Pl.horq m d l (Pl.pc t) 0) from ho)
  have HB1 := Lib.hid hb
  clear ho hb
  go_wp2
  go_loopw [7, 8] (fun s7 s8 wr => ∃ (k t0 : Nat) (I : Int) (A1 : Option Addr) (c1 : Nat), k + t0 = L ∧ I = (t0 : Int) - 1 ∧ s8 = .int .i64 I ∧ s7 = .slice A1 (d + 1) c1 ∧ OwnR wr w.heap.size wr.heap.size (.slice A1 (d + 1) c1) (Pl.horq m d l (Pl.pc t) k) ∧ Below w.heap.size w wr) (fun _ s8 _ => (intOf s8 + 1).toNat)
  case atStart => exact ⟨0, L, _, A0, c0, by omega, rfl, by first | rfl | go_num, rfl, HO1.out, HB1.out⟩
  case round =>
    clear HO1 HB1
    obtain ⟨k, t0, I, A1, c1, hkt, hI, rfl, rfl, hown, hbel⟩ := hrel
    have HB := Lib.hid hbel
    have HO := Lib.hid hown
    clear hown hbel
    rcases t0 with _ | i
    · obtain rfl : k = L := by omega
      obtain rfl : I = -1 := by omega
      clear hI hkt
      go_wp2
      go_ret
      exact ⟨_, rfl, HO.out, HB.out⟩
    · obtain rfl : I = (i : Int) := by omega
      have hik : L - 1 - k = i := by omega
      have hiL : i < L := by omega
      have HTK := Lib.hid (HT.out k A1 c1 wr (by obtain ⟨_, _, e, h⟩ := HO.out.len; injection e with e1 e2 e3; subst e1; exact h) (HR'.out.below HB.out))
      have hst := HST0.out k
      rw [hik] at hst
      obtain ⟨F, hF⟩ : ∃ F, Pl.mul2 (Pl.pc (Pl.horq m d l (Pl.pc t) k)) (Pl.pc t) = F := ⟨_, rfl⟩
      rw [hF] at HTK hst
      have HST := Lib.hid hst
      have HKT := Lib.hid hkt
      clear hI hst hF hik hkt
      go_wp2_with fail
      refine HTK.out.mono ?_
      rintro e w3 ⟨v3, rfl, ho3, hb3⟩
      obtain ⟨g, cv, rfl⟩ := ho3.openv (by rw [Pl.tab_length]; omega)
      rw [Pl.tab_length] at ho3 ⊢
      obtain ⟨b4, c4, h1, h2, h3, h4, hcel⟩ := ho3.numB 0 0 (d + 1) (by rw [Pl.tab_length]; omega) (by rw [Pl.tab_row m d _ 0 (by omega), Ser.cut_length]; omega) (by omega)
      obtain ⟨a4, -, -, -⟩ := hcel w3 (Below.refl _ _)
      obtain ⟨k4, k5, k6, k7⟩ := hcel w3.drew (below_drew0 w3)
      obtain ⟨b', off', rfl, hbb', hci⟩ := HR.out.at i (by have := HL.out; omega)
      have hc := ((below_step HB.out hb3).cell (p := ⟨b', off' + i, none⟩) hbb').trans hci
      have hst := HST.out
      obtain ⟨Z, hZ⟩ : ∃ Z, Ser.co l i = Z := ⟨_, rfl⟩
      have hzb := HRED.out i
      have hyb := (HS'.out.tab F).pc 0 0
      obtain ⟨Y, hY⟩ : ∃ Y, Pl.pc (Pl.tab m d F) 0 0 = Y := ⟨_, rfl⟩
      rw [hZ] at hc hst hzb
      rw [hY] at hst hyb k5
      have h8 := k7 ((Y + Z) % m)
      rw [hst] at h8
      have hwr := HB.out.size
      have HO2 := Lib.hid ((h8.low hwr).more (show w3.heap.size ≤ (w3.drew.setCell ⟨b4, 0, none⟩ (.int .i64 ((Y + Z) % m))).heap.size by show w3.heap.size ≤ (w3.heap.modify _ _).size; simp))
      have HB2 := Lib.hid ((below_step HB.out hb3).drew.setCell (p := ⟨b4, 0, none⟩) (Nat.le_trans hwr h2) (.int .i64 ((Y + Z) % m)))
      have p2 : IntKind.i64.wrap (Y + Z) = Y + Z := by rw [IntKind.wrap_i64]; omega
      have p3 : 0 ≤ Y + Z := by omega
      have p4 : (0 : Int) < (d : Int) + 1 := by omega
      have p5 : (0 : Int) ≤ (i : Int) := by omega
      have p6 : (i : Int) < (L : Int) := by omega
      clear hiL
      clear hcel k4 k7 h8 hst hzb hyb hZ hY hbb' hci ho3 hb3 h1 h2 h3 h4 hwr
      go_wp2
      go_still_tail 12, (by kernel_rfl)
      change wpList _ _ _ _ _ w3.drew
      go_wp2
      go_roundw
      case rel => exact ⟨k + 1, i, _, _, cv, by have := HKT.out; omega, rfl, by first | rfl | go_num, rfl, HO2.out, HB2.out⟩
      case measure => simp only [intOf]; omega
end Go.Proofs.Ytlpfifdocgljnac

