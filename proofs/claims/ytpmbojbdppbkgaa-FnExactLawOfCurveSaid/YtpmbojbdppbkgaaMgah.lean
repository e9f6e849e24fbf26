/- Texts of contracts, joined. -/
import Derived.Test.YtpmbojbdppbkgaaMgad
import Derived.Test.YtpmbojbdppbkgaaMgae
import Derived.Test.YtpmbojbdppbkgaaMgaf
import Derived.Test.YtpmbojbdppbkgaaMgag
/- Contracts of SubstituteCurves and SubstituteBoth, of the program and of the model. -/
namespace Go.Proofs.Ytpmbojbdppbkgaa
open Go.RowKit Go.WideShapes Go.ChangeShapes Go.ChangeAt

/-- the code of a plane and two curves -/
def codePC2 (m : Int) (t : List (List Int)) (m1 : Int) (l1 : List Int) (m2 : Int) (l2 : List Int) : Int := codeLC (isP m t) m t.length [(m1, none, 0, l1), (m2, none, 0, l2)]
theorem codePC2_eq (m : Int) (t : List (List Int)) (m1 : Int) (A1 : Option Addr) (c1 : Nat) (l1 : List Int) (m2 : Int) (A2 : Option Addr) (c2 : Nat) (l2 : List Int) : codeLC (isP m t) m t.length [(m1, A1, c1, l1), (m2, A2, c2, l2)] = codePC2 m t m1 l1 m2 l2 := rfl
theorem isC_two {m : Int} {l : List Int} (h : isC m l = true) : isS m l = true ∧ Ser.co l 0 = 0 := by
  unfold isC at h
  rw [Bool.and_eq_true] at h
  exact ⟨h.1, by simpa [Ser.co] using h.2⟩
theorem codeL_zero {ok : Bool} {m : Int} {n : Nat} {xs : List (Int × Option Addr × Nat × List Int)} (h : codeL ok m n xs = 0) : ok = true ∧ allS xs = true ∧ alkS m n xs = true := by
  unfold codeL at h
  by_cases h1 : ok = true ∧ allS xs = true
  · rw [if_pos h1] at h
    by_cases h2 : alkS m n xs = true
    · exact ⟨h1.1, h1.2, h2⟩
    · rw [if_neg h2] at h; exact absurd h (by decide)
  · rw [if_neg h1] at h; exact absurd h (by decide)
theorem codeLC_zero {ok : Bool} {m : Int} {n : Nat} {xs : List (Int × Option Addr × Nat × List Int)} (h : codeLC ok m n xs = 0) : ok = true ∧ allS xs = true ∧ alkS m n xs = true ∧ curS xs = true := by
  unfold codeLC at h
  by_cases h1 : codeL ok m n xs = 0
  · rw [if_pos h1] at h
    obtain ⟨a, b, c⟩ := codeL_zero h1
    by_cases h2 : curS xs = true
    · exact ⟨a, b, c, h2⟩
    · rw [if_neg h2] at h; exact absurd h (by decide)
  · rw [if_neg h1] at h; exact absurd h h1
theorem codePC2_ok {m : Int} {t : List (List Int)} {m1 : Int} {l1 : List Int} {m2 : Int} {l2 : List Int} (h : codePC2 m t m1 l1 m2 l2 = 0) :
    m1 = m ∧ m2 = m ∧ ∃ d, t.length = d + 1 ∧ l1.length = d + 1 ∧ l2.length = d + 1 ∧ Pl.Ok m d t ∧ SerOk m d l1 ∧ SerOk m d l2 ∧ Ser.co l1 0 = 0 ∧ Ser.co l2 0 = 0 := by
  obtain ⟨h0, h1, h2, h3⟩ := codeLC_zero h
  obtain ⟨d, e, ok⟩ := plOk_of h0
  unfold allS at h1
  unfold alkS at h2
  unfold curS at h3
  simp only [List.all_cons, List.all_nil, Bool.and_true, Bool.and_eq_true, decide_eq_true_iff] at h1 h2 h3
  obtain ⟨⟨rfl, e1⟩, rfl, e2⟩ := h2
  obtain ⟨d1, f1, s1⟩ := serOk_of h1.1
  obtain ⟨d2, f2, s2⟩ := serOk_of h1.2
  obtain rfl : d1 = d := by omega
  obtain rfl : d2 = d1 := by omega
  exact ⟨rfl, rfl, d2, e, f1, f2, ok, s1, s2, (isC_two h3.1).2, (isC_two h3.2).2⟩
/-- a plane's box, two series' boxes, the result's variable, the list of both series -/
theorem proS (R : TypeId) (w : World) (m : Int) (A : Option Addr) (n c : Nat) (m1 : Int) (A1 : Option Addr) (n1 c1 : Nat) (m2 : Int) (A2 : Option Addr) (n2 c2 : Nat) :
    ∃ W, ((((w.alloc (.cells #[.int .i64 m, .slice A n c] 31)).alloc (.cells #[.int .i64 m1, .slice A1 n1 c1] 28)).alloc (.cells #[.int .i64 m2, .slice A2 n2 c2] 28)).alloc (.cells #[.int .i64 0, .slice none 0 0] R)).alloc (.cells #[.int .i64 m1, .slice A1 n1 c1, .int .i64 m2, .slice A2 n2 c2] 28) = W ∧
    Box W w.heap.size m A n c ∧ Box W (w.heap.size + 1) m1 A1 n1 c1 ∧ Box W (w.heap.size + 1 + 1) m2 A2 n2 c2 ∧ VarC R W (w.heap.size + 1 + 1 + 1) #[.int .i64 0, .slice none 0 0] ∧ Box4 W (w.heap.size + 1 + 1 + 1 + 1) m1 A1 n1 c1 m2 A2 n2 c2 ∧ Below w.heap.size w W := by
  obtain ⟨W0, h0, h1, h2, h3, h4⟩ := startB3 31 28 28 w m A n c m1 A1 n1 c1 m2 A2 n2 c2
  have hs : W0.heap.size = w.heap.size + 1 + 1 + 1 := by rw [← h0]; simp
  rw [h0]
  refine ⟨_, rfl, (h1.keep (below_one _ _)).keep (below_one _ _), (h2.keep (below_one _ _)).keep (below_one _ _), (h3.keep (below_one _ _)).keep (below_one _ _), ?_, ?_, below_alloc _ (below_alloc _ h4)⟩
  · have := (VarC.new R W0 #[.int .i64 0, .slice none 0 0]).keep (below_one _ (.cells #[.int .i64 m1, .slice A1 n1 c1, .int .i64 m2, .slice A2 n2 c2] 28))
    rwa [hs] at this
  · have hv := VarC.new 28 (W0.alloc (.cells #[.int .i64 0, .slice none 0 0] R)) #[.int .i64 m1, .slice A1 n1 c1, .int .i64 m2, .slice A2 n2 c2]
    have e : (W0.alloc (.cells #[.int .i64 0, .slice none 0 0] R)).heap.size = w.heap.size + 1 + 1 + 1 + 1 := by simp [hs]
    rw [e] at hv
    exact ⟨⟨hv.cell 0 _ rfl, hv.cell 1 _ rfl, hv.lt⟩, hv.cell 2 _ rfl, hv.cell 3 _ rfl⟩
/-- .. without the list -/
theorem sproS (R : TypeId) (w : World) (m : Int) (A : Option Addr) (n c : Nat) (m1 : Int) (A1 : Option Addr) (n1 c1 : Nat) (m2 : Int) (A2 : Option Addr) (n2 c2 : Nat) :
    ∃ W, (((w.alloc (.cells #[.int .i64 m, .slice A n c] 31)).alloc (.cells #[.int .i64 m1, .slice A1 n1 c1] 28)).alloc (.cells #[.int .i64 m2, .slice A2 n2 c2] 28)).alloc (.cells #[.int .i64 0, .slice none 0 0] R) = W ∧
    Box W w.heap.size m A n c ∧ Box W (w.heap.size + 1) m1 A1 n1 c1 ∧ Box W (w.heap.size + 1 + 1) m2 A2 n2 c2 ∧ VarC R W (w.heap.size + 1 + 1 + 1) #[.int .i64 0, .slice none 0 0] ∧ Below w.heap.size w W := by
  obtain ⟨W0, h0, h1, h2, h3, h4⟩ := startB3 31 28 28 w m A n c m1 A1 n1 c1 m2 A2 n2 c2
  have hs : W0.heap.size = w.heap.size + 1 + 1 + 1 := by rw [← h0]; simp
  rw [h0]
  refine ⟨_, rfl, h1.keep (below_one _ _), h2.keep (below_one _ _), h3.keep (below_one _ _), ?_, below_alloc _ h4⟩
  have := VarC.new R W0 #[.int .i64 0, .slice none 0 0]
  rwa [hs] at this
/-- what the three boxes hold is kept -/
theorem box3_call {w w' : World} {g g1 g2 : Nat} {m m1 m2 : Int} {A A1 A2 : Option Addr} {n c n1 c1 n2 c2 : Nat} (hb : Below w.heap.size w w') (h : Box w g m A n c ∧ Box w g1 m1 A1 n1 c1 ∧ Box w g2 m2 A2 n2 c2) : Box w' g m A n c ∧ Box w' g1 m1 A1 n1 c1 ∧ Box w' g2 m2 A2 n2 c2 :=
  ⟨h.1.keep hb, h.2.1.keep hb, h.2.2.keep hb⟩
/-- the models -/
def subP (m : Int) (t : List (List Int)) (m1 : Int) (l1 : List Int) (m2 : Int) (l2 : List Int) : Int × List Int × Int :=
  if codePC2 m t m1 l1 m2 l2 = 0 then (m, Pl.putL m (t.length - 1) (Pl.pc t) l1 l2, 0) else (0, [], codePC2 m t m1 l1 m2 l2)
theorem subP_len (m : Int) (t : List (List Int)) (m1 : Int) (l1 : List Int) (m2 : Int) (l2 : List Int) : (subP m t m1 l1 m2 l2).2.1.length ≤ 1048576 := by
  unfold subP
  split
  · rename_i h
    obtain ⟨_, _, d, e, _, _, ok, _⟩ := codePC2_ok h
    have := ok.d2
    dsimp only
    rw [Pl.putL_length]; omega
  · simp
def botP (m : Int) (t : List (List Int)) (m1 : Int) (l1 : List Int) (m2 : Int) (l2 : List Int) : Int × List (List Int) × Int :=
  if codePC2 m t m1 l1 m2 l2 = 0 then (m, Pl.botT m (t.length - 1) (Pl.pc t) l1 l2, 0) else (0, [], codePC2 m t m1 l1 m2 l2)
theorem botP_len (m : Int) (t : List (List Int)) (m1 : Int) (l1 : List Int) (m2 : Int) (l2 : List Int) : szT (botP m t m1 l1 m2 l2).2.1 ≤ 1048576 := by
  unfold botP
  split
  · rename_i h
    obtain ⟨_, _, d, e, _, _, ok, _⟩ := codePC2_ok h
    refine szT_ok (m := m) (d := d) ?_
    rw [e]
    exact ok.tab _
  · show szT [] ≤ 1048576
    decide
/-- in the walk's form: three boxes are kept by a call and by a store elsewhere -/
theorem kb3_call {w w' : World} {g g1 g2 : Nat} {m m1 m2 : Int} {A A1 A2 : Option Addr} {n c n1 c1 n2 c2 : Nat} (hb : Below w.heap.size w w')
    (h : (w.cell? ⟨g, 0, none⟩ = some (.int .i64 m) ∧ w.cell? ⟨g, 1, none⟩ = some (.slice A n c) ∧ g < w.heap.size) ∧ (w.cell? ⟨g1, 0, none⟩ = some (.int .i64 m1) ∧ w.cell? ⟨g1, 1, none⟩ = some (.slice A1 n1 c1) ∧ g1 < w.heap.size) ∧ (w.cell? ⟨g2, 0, none⟩ = some (.int .i64 m2) ∧ w.cell? ⟨g2, 1, none⟩ = some (.slice A2 n2 c2) ∧ g2 < w.heap.size)) :
    (w'.cell? ⟨g, 0, none⟩ = some (.int .i64 m) ∧ w'.cell? ⟨g, 1, none⟩ = some (.slice A n c) ∧ g < w'.heap.size) ∧ (w'.cell? ⟨g1, 0, none⟩ = some (.int .i64 m1) ∧ w'.cell? ⟨g1, 1, none⟩ = some (.slice A1 n1 c1) ∧ g1 < w'.heap.size) ∧ (w'.cell? ⟨g2, 0, none⟩ = some (.int .i64 m2) ∧ w'.cell? ⟨g2, 1, none⟩ = some (.slice A2 n2 c2) ∧ g2 < w'.heap.size) :=
  box3_call hb h
theorem kb3_store {w : World} {b g g1 g2 : Nat} {m m1 m2 : Int} {A A1 A2 : Option Addr} {n c n1 c1 n2 c2 : Nat} {x y : Value} (e0 : b ≠ g) (e1 : b ≠ g1) (e2 : b ≠ g2)
    (h : (w.cell? ⟨g, 0, none⟩ = some (.int .i64 m) ∧ w.cell? ⟨g, 1, none⟩ = some (.slice A n c) ∧ g < w.heap.size) ∧ (w.cell? ⟨g1, 0, none⟩ = some (.int .i64 m1) ∧ w.cell? ⟨g1, 1, none⟩ = some (.slice A1 n1 c1) ∧ g1 < w.heap.size) ∧ (w.cell? ⟨g2, 0, none⟩ = some (.int .i64 m2) ∧ w.cell? ⟨g2, 1, none⟩ = some (.slice A2 n2 c2) ∧ g2 < w.heap.size)) :
    let w' := (w.setCell ⟨b, 0, none⟩ x).setCell ⟨b, 1, none⟩ y
    (w'.cell? ⟨g, 0, none⟩ = some (.int .i64 m) ∧ w'.cell? ⟨g, 1, none⟩ = some (.slice A n c) ∧ g < w'.heap.size) ∧ (w'.cell? ⟨g1, 0, none⟩ = some (.int .i64 m1) ∧ w'.cell? ⟨g1, 1, none⟩ = some (.slice A1 n1 c1) ∧ g1 < w'.heap.size) ∧ (w'.cell? ⟨g2, 0, none⟩ = some (.int .i64 m2) ∧ w'.cell? ⟨g2, 1, none⟩ = some (.slice A2 n2 c2) ∧ g2 < w'.heap.size) :=
  ⟨((show Box w g m A n c from h.1).far b 0 x e0).far b 1 y e0, ((show Box w g1 m1 A1 n1 c1 from h.2.1).far b 0 x e1).far b 1 y e1, ((show Box w g2 m2 A2 n2 c2 from h.2.2).far b 0 x e2).far b 1 y e2⟩
/-! the model -/
/-- three boxes and the list of both series -/
theorem proL (w : World) (m : Int) (A : Option Addr) (n c : Nat) (m1 : Int) (A1 : Option Addr) (n1 c1 : Nat) (m2 : Int) (A2 : Option Addr) (n2 c2 : Nat) :
    ∃ W, (((w.alloc (.cells #[.int .i64 m, .slice A n c] 31)).alloc (.cells #[.int .i64 m1, .slice A1 n1 c1] 28)).alloc (.cells #[.int .i64 m2, .slice A2 n2 c2] 28)).alloc (.cells #[.int .i64 m1, .slice A1 n1 c1, .int .i64 m2, .slice A2 n2 c2] 28) = W ∧
    Box W w.heap.size m A n c ∧ Box W (w.heap.size + 1) m1 A1 n1 c1 ∧ Box W (w.heap.size + 1 + 1) m2 A2 n2 c2 ∧ Box4 W (w.heap.size + 1 + 1 + 1) m1 A1 n1 c1 m2 A2 n2 c2 ∧ Below w.heap.size w W := by
  obtain ⟨W0, h0, h1, h2, h3, h4⟩ := startB3 31 28 28 w m A n c m1 A1 n1 c1 m2 A2 n2 c2
  have hs : W0.heap.size = w.heap.size + 1 + 1 + 1 := by rw [← h0]; simp
  rw [h0]
  refine ⟨_, rfl, h1.keep (below_one _ _), h2.keep (below_one _ _), h3.keep (below_one _ _), ?_, below_alloc _ h4⟩
  have hv := VarC.new 28 W0 #[.int .i64 m1, .slice A1 n1 c1, .int .i64 m2, .slice A2 n2 c2]
  rw [hs] at hv
  exact ⟨⟨hv.cell 0 _ rfl, hv.cell 1 _ rfl, hv.lt⟩, hv.cell 2 _ rfl, hv.cell 3 _ rfl⟩
theorem codePC2_if (m : Int) (t : List (List Int)) (m1 : Int) (l1 : List Int) (m2 : Int) (l2 : List Int) : codePC2 m t m1 l1 m2 l2 = if codeL (isP m t) m t.length [(m1, none, 0, l1), (m2, none, 0, l2)] = 0 then (if isC m1 l1 = true ∧ isC m2 l2 = true then 0 else 5) else codeL (isP m t) m t.length [(m1, none, 0, l1), (m2, none, 0, l2)] := by
  unfold codePC2 codeLC curS
  simp only [List.all_cons, List.all_nil, Bool.and_true, Bool.and_eq_true]
end Go.Proofs.Ytpmbojbdppbkgaa

/- Contracts of the program's codes of laws, of the law of a plane, of lines and of sums under a law. -/
namespace Go.Proofs.Ytpmbojbdppbkgaa
open Go.RowKit Go.WideShapes Go.ChangeShapes Go.ChangeAt

/-- block g holds planes, one after the other -/
def PLs (w : World) (g : Nat) (xs : List (Int × Option Addr × Nat × List (List Int))) : Prop :=
  g < w.heap.size ∧ ∀ k m A c t, xs[k]? = some (m, A, c, t) → w.cell? ⟨g, k * 2, none⟩ = some (.int .i64 m) ∧ w.cell? ⟨g, k * 2 + 1, none⟩ = some (.slice A t.length c) ∧ RP w A t ∧ szT t ≤ 1048576
theorem PLs.keep {w w' : World} {g : Nat} {xs : List (Int × Option Addr × Nat × List (List Int))} (h : PLs w g xs) (hb : Below w.heap.size w w') : PLs w' g xs :=
  ⟨Nat.lt_of_lt_of_le h.1 hb.size, fun k m A c t hx => by
    obtain ⟨a, b, r, z⟩ := h.2 k m A c t hx
    exact ⟨(hb.cell (p := ⟨g, k * 2, none⟩) h.1).trans a, (hb.cell (p := ⟨g, k * 2 + 1, none⟩) h.1).trans b, r.below hb, z⟩⟩
theorem PLs.one {w : World} {g : Nat} {m : Int} {A : Option Addr} {c : Nat} {t : List (List Int)} (hx : Box w g m A t.length c) (hr : RP w A t) (hz : szT t ≤ 1048576) : PLs w g [(m, A, c, t)] :=
  ⟨hx.2.2, fun k m' A' c' t' h => by
    match k, h with
    | 0, h =>
      simp at h
      obtain ⟨rfl, rfl, rfl, rfl⟩ := h
      exact ⟨hx.1, hx.2.1, hr, hz⟩⟩
theorem PLs.two {w : World} {g : Nat} {m : Int} {A : Option Addr} {c : Nat} {t : List (List Int)} {m' : Int} {A' : Option Addr} {c' : Nat} {t' : List (List Int)} (hx : Box4 w g m A t.length c m' A' t'.length c') (hr : RP w A t) (hr' : RP w A' t') (hz : szT t ≤ 1048576) (hz' : szT t' ≤ 1048576) :
    PLs w g [(m, A, c, t), (m', A', c', t')] :=
  ⟨hx.1.2.2, fun k m0 A0 c0 t0 h => by
    match k, h with
    | 0, h =>
      simp at h
      obtain ⟨rfl, rfl, rfl, rfl⟩ := h
      exact ⟨hx.1.1, hx.1.2.1, hr, hz⟩
    | 1, h =>
      simp at h
      obtain ⟨rfl, rfl, rfl, rfl⟩ := h
      exact ⟨hx.2.1, hx.2.2, hr', hz'⟩⟩
def lawS (xs : List (Int × Option Addr × Nat × List (List Int))) : Bool := xs.all fun x => isL x.1 x.2.2.2
set_option maxHeartbeats 8000000 in
set_option maxRecDepth 100000 in
theorem codeOfLaws_any (g : Nat) (xs : List (Int × Option Addr × Nat × List (List Int))) (C : Int) (w : World) (hx : PLs w g xs) (hn : xs.length ≤ 1000)
    (hcp : lawS xs = true → ∀ W0, Below w.heap.size w W0 → Calls Try.prog 127 #[.slice (some ⟨g, 0, none⟩) xs.length xs.length] W0 fun e w' => e = .returned (.int .i64 C) ∧ Below W0.heap.size W0 w') :
    Calls Try.prog 63 #[.slice (some ⟨g, 0, none⟩) xs.length xs.length] w fun e w' => e = .returned (.int .i64 (if lawS xs = true then C else 1)) ∧ Below w.heap.size w w' := by
  have HX := Lib.hid hx
  have HCP := Lib.hid hcp
  obtain ⟨R, hR⟩ : ∃ R, (if lawS xs = true then C else 1) = R := ⟨_, rfl⟩
  have HRR := Lib.hid hR
  rw [hR]
  obtain ⟨n, hxn⟩ : ∃ n, xs.length = n := ⟨_, rfl⟩
  have HN := Lib.hid hxn
  rw [hxn] at hn HCP ⊢
  have HLT := Lib.hid (fun k (hk : k < n) => (by
    obtain ⟨⟨m', A', c', l'⟩, hx⟩ : ∃ x, xs[k]? = some x := ⟨_, List.getElem?_eq_getElem (by omega)⟩
    exact ⟨m', A', c', l', hx⟩ : ∃ m' A' c' l', xs[k]? = some (m', A', c', l')))
  clear hx hcp hR hxn
  go_enter Try.func63, Try.ntmps63
  go_wp2
  go_loopw [4, 7] (fun _ i wr => ∃ k : Nat, k ≤ n ∧ i = .int .i64 k ∧ lawS (xs.take k) = true ∧ Below w.heap.size w wr) (fun _ i _ => n - (intOf i).toNat)
  case atStart => exact ⟨0, Nat.zero_le _, rfl, rfl, Below.refl _ _⟩
  case round =>
    obtain ⟨k, hk, rfl, hall, hbel⟩ := hrel
    have HA := Lib.hid hall
    have HBE := Lib.hid hbel
    clear hall
    by_cases hlt : k < n
    · obtain ⟨m', A', c', l', hxk⟩ := HLT.out k hlt
      obtain ⟨x1, x2, x3, x4⟩ := (HX.out.keep hbel).2 k m' A' c' l' hxk
      have HXK := Lib.hid hxk
      have HIS := Lib.hid (fun W0 (h : Below wr.heap.size wr W0) => IsLaw_any m' A' c' l' W0 x4 (x3.below h))
      obtain ⟨L', hL'⟩ : ∃ L, l'.length = L := ⟨_, rfl⟩
      obtain ⟨b', hb'⟩ : ∃ b, isL m' l' = b := ⟨_, rfl⟩
      have HBB := Lib.hid hb'
      rw [hL', hb'] at HIS
      rw [hL'] at x2
      have j0 : (0 : Int) ≤ (k : Int) := by omega
      have j1 : (k : Int) < (n : Int) := by omega
      clear hbel hxk x3 x4 hL' hb'
      cases b' with
      | true =>
        have HOK := Lib.hid (show lawS (xs.take (k + 1)) = true by unfold lawS; rw [all_take _ _ _ _ HXK.out]; exact and_t HA.out HBB.out)
        go_wp2_with fail
        refine (HIS.out _ (below_one _ _)).mono ?_
        rintro e w2 ⟨rfl, hb2⟩
        have HB2 := Lib.hid (below_step (below_alloc (.cells #[.int .i64 m', .slice A' L' c'] 31) HBE.out) hb2)
        clear hb2 x1 x2
        go_wp2
        go_roundw
        case rel => exact ⟨k + 1, by omega, by go_num, HOK.out, HB2.out⟩
        case measure => simp only [intOf]; omega
      | false =>
        have HNO : Hid (R = 1) := Lib.hid (by rw [← HRR.out, if_neg]; unfold lawS; rw [all_bad _ _ _ _ HXK.out HBB.out]; decide)
        go_wp2_with fail
        refine (HIS.out _ (below_one _ _)).mono ?_
        rintro e w2 ⟨rfl, hb2⟩
        have HB2 := Lib.hid (below_step (below_alloc (.cells #[.int .i64 m', .slice A' L' c'] 31) HBE.out) hb2)
        clear hb2 x1 x2
        go_wp2
        go_ret
        exact ⟨ret_int HNO.out.symm, HB2.out⟩
    · obtain rfl : k = n := by omega
      have hal : lawS xs = true := by
        have := HA.out
        rwa [List.take_of_length_le (by have := HN.out; omega)] at this
      have HC := Lib.hid (HCP.out hal _ hbel)
      have HYES : Hid (R = C) := Lib.hid (by rw [← HRR.out, if_pos hal])
      clear HA hbel hal
      go_wp2_with fail
      refine HC.out.mono ?_
      rintro e w2 ⟨rfl, hb2⟩
      have HB2 := Lib.hid (below_step HBE.out hb2)
      clear hb2
      go_wp2
      go_ret
      exact ⟨ret_int HYES.out.symm, HB2.out⟩
def codeL1 (m : Int) (t : List (List Int)) : Int := if isL m t = true then 0 else 1
def codeL2 (m : Int) (t : List (List Int)) (m' : Int) (t' : List (List Int)) : Int := if isL m t = true ∧ isL m' t' = true then (if m = m' ∧ t.length = t'.length then 0 else 2) else 1
theorem codeL1_any (g : Nat) (m : Int) (A : Option Addr) (c : Nat) (t : List (List Int)) (w : World) (hz : szT t ≤ 1048576) (hr : RP w A t) (hx : Box w g m A t.length c) :
    Calls Try.prog 63 #[.slice (some ⟨g, 0, none⟩) 1 1] w fun e w' => e = .returned (.int .i64 (codeL1 m t)) ∧ Below w.heap.size w w' := by
  have h := codeOfLaws_any g [(m, A, c, t)] 0 w (PLs.one hx hr hz) (by simp) (fun hal W0 hb => by
    have := codeOfPlanes1_any g m A c t W0 hz (hr.below hb) (hx.keep hb)
    have hp : isP m t = true := (isL_of (by simpa [lawS] using hal)).1
    rw [show codeP1 m t = 0 by unfold codeP1; rw [if_pos hp]] at this
    exact this)
  have e : (if lawS [(m, A, c, t)] = true then (0 : Int) else 1) = codeL1 m t := by simp [lawS, codeL1]
  rw [e] at h
  exact h
theorem codeL2_any (g : Nat) (m : Int) (A : Option Addr) (c : Nat) (t : List (List Int)) (m' : Int) (A' : Option Addr) (c' : Nat) (t' : List (List Int)) (w : World) (hz : szT t ≤ 1048576) (hz' : szT t' ≤ 1048576) (hr : RP w A t) (hr' : RP w A' t') (hx : Box4 w g m A t.length c m' A' t'.length c') :
    Calls Try.prog 63 #[.slice (some ⟨g, 0, none⟩) 2 2] w fun e w' => e = .returned (.int .i64 (codeL2 m t m' t')) ∧ Below w.heap.size w w' := by
  have h := codeOfLaws_any g [(m, A, c, t), (m', A', c', t')] (if m = m' ∧ t.length = t'.length then 0 else 2) w (PLs.two hx hr hr' hz hz') (by simp) (fun hal W0 hb => by
    have := codeOfPlanes2_any g m A c t m' A' c' t' W0 hz hz' (hr.below hb) (hr'.below hb) (hx.keep hb)
    have hal' : isL m t = true ∧ isL m' t' = true := by simpa [lawS] using hal
    rw [show codeP2 m t m' t' = if m = m' ∧ t.length = t'.length then 0 else 2 by unfold codeP2; rw [if_pos ⟨(isL_of hal'.1).1, (isL_of hal'.2).1⟩]] at this
    exact this)
  have e : (if lawS [(m, A, c, t), (m', A', c', t')] = true then (if m = m' ∧ t.length = t'.length then (0 : Int) else 2) else 1) = codeL2 m t m' t' := by simp [lawS, codeL2]
  rw [e] at h
  exact h
/-- the code of a law and series -/
def codeLw (m : Int) (t : List (List Int)) (xs : List (Int × Option Addr × Nat × List Int)) : Int := if isL m t = true then (if allS xs = true then (if alkS m t.length xs = true ∧ curS xs = true then 0 else 2) else 1) else 1
theorem codeLw_of {m : Int} {t : List (List Int)} {xs : List (Int × Option Addr × Nat × List Int)} (h : isL m t = true) : codeLw m t xs = if codeLC (isP m t) m t.length xs = 5 then 2 else codeLC (isP m t) m t.length xs := by
  unfold codeLw codeLC codeL
  rw [if_pos h, (isL_of h).1]
  by_cases h1 : allS xs = true
  · simp only [h1, and_self, if_true]
    by_cases h2 : alkS m t.length xs = true
    · by_cases h3 : curS xs = true
      · simp [h2, h3]
      · simp [h2, h3]
    · simp [h2]
  · simp [h1]
set_option maxHeartbeats 8000000 in
set_option maxRecDepth 100000 in
theorem codeCu_any (g : Nat) (m : Int) (A : Option Addr) (c : Nat) (t : List (List Int)) (xs : List (Int × Option Addr × Nat × List Int)) (w : World) (hz : szT t ≤ 1048576) (hr : RP w A t) (hx : SL w g xs) (hn : xs.length ≤ 1000) :
    Calls Try.prog 120 #[.agg #[.int .i64 m, .slice A t.length c], .slice (some ⟨g, 0, none⟩) xs.length xs.length] w fun e w' => e = .returned (.int .i64 (if codeLC (isP m t) m t.length xs = 5 then 2 else codeLC (isP m t) m t.length xs)) ∧ Below w.heap.size w w' := by
  obtain ⟨W, hW, b1, hwb⟩ := start1 31 w m A t.length c
  have B1 := Lib.hid b1
  have HB := Lib.hid hwb
  have HW := Lib.hid hW
  have HC := Lib.hid (fun W0 (h : Below W.heap.size W W0) => codePCL_any g m A c t xs W0 hz ((hr.below hwb).below h) ((hx.keep hwb).keep h) hn)
  obtain ⟨K, hK⟩ : ∃ K, codeLC (isP m t) m t.length xs = K := ⟨_, rfl⟩
  rw [hK] at HC ⊢
  obtain ⟨R, hR⟩ : ∃ R, (if K = 5 then 2 else K) = R := ⟨_, rfl⟩
  have HRR := Lib.hid hR
  rw [hR]
  clear hR
  obtain ⟨n, hxn⟩ : ∃ n, xs.length = n := ⟨_, rfl⟩
  rw [hxn] at hn HC ⊢
  obtain ⟨L, hL⟩ : ∃ L, t.length = L := ⟨_, rfl⟩
  rw [hL] at HC HW B1 ⊢
  clear b1 hwb hW hr hz hx hK hxn hL
  obtain ⟨x1, x2, x3⟩ := B1.out
  go_enter Try.func120, Try.ntmps120
  go_wp2_with fail
  rw [HW.out]
  refine (HC.out _ (Below.refl _ _)).mono ?_
  rintro e w2 ⟨rfl, hb2⟩
  have HB2 := Lib.hid (below_step HB.out hb2)
  clear hb2 x1 x2 x3
  by_cases hk : K = 5
  · have HR : Hid (R = 2) := Lib.hid (by rw [← HRR.out, if_pos hk])
    have e1 : (K == 5) = true := by simpa using hk
    clear hk
    go_wp2
    go_ret
    exact ⟨ret_int HR.out.symm, HB2.out⟩
  · have HR : Hid (R = K) := Lib.hid (by rw [← HRR.out, if_neg hk])
    obtain ⟨n1, n2⟩ : (K == 5) = false ∧ (K != 5) = true := ⟨by simpa using hk, by simpa using hk⟩
    go_wp2
    go_ret
    exact ⟨ret_int HR.out.symm, HB2.out⟩
/-- of series alone, for a law -/
def codeCl (m : Int) (t : List (List Int)) (xs : List (Int × Option Addr × Nat × List Int)) : Int := if allS xs = true then (if alkS m t.length xs = true ∧ curS xs = true then 0 else 2) else 1
theorem codeLw_cl {m : Int} {t : List (List Int)} {xs : List (Int × Option Addr × Nat × List Int)} (h : isL m t = true) : codeLw m t xs = codeCl m t xs := by unfold codeLw; rw [if_pos h]; rfl
theorem codeCl_any (g : Nat) (m : Int) (A : Option Addr) (c : Nat) (t : List (List Int)) (xs : List (Int × Option Addr × Nat × List Int)) (w : World) (h : isL m t = true) (hz : szT t ≤ 1048576) (hr : RP w A t) (hx : SL w g xs) (hn : xs.length ≤ 1000) :
    Calls Try.prog 120 #[.agg #[.int .i64 m, .slice A t.length c], .slice (some ⟨g, 0, none⟩) xs.length xs.length] w fun e w' => e = .returned (.int .i64 (codeCl m t xs)) ∧ Below w.heap.size w w' := by
  have := codeCu_any g m A c t xs w hz hr hx hn
  rw [← codeLw_of h, codeLw_cl h] at this
  exact this
set_option maxHeartbeats 8000000 in
set_option maxRecDepth 100000 in
theorem codeLw_any (g : Nat) (m : Int) (A : Option Addr) (c : Nat) (t : List (List Int)) (xs : List (Int × Option Addr × Nat × List Int)) (w : World) (hz : szT t ≤ 1048576) (hr : RP w A t) (hx : SL w g xs) (hn : xs.length ≤ 1000) :
    Calls Try.prog 75 #[.agg #[.int .i64 m, .slice A t.length c], .slice (some ⟨g, 0, none⟩) xs.length xs.length] w fun e w' => e = .returned (.int .i64 (codeLw m t xs)) ∧ Below w.heap.size w w' := by
  obtain ⟨W, hW, b1, hwb⟩ := start1 31 w m A t.length c
  have B1 := Lib.hid b1
  have HB := Lib.hid hwb
  have HW := Lib.hid hW
  have HI := Lib.hid (fun W0 (h : Below W.heap.size W W0) => IsLaw_any m A c t W0 hz ((hr.below hwb).below h))
  by_cases h0 : isL m t = true
  · have HC := Lib.hid (fun W0 (h : Below W.heap.size W W0) => codeCl_any g m A c t xs W0 h0 hz ((hr.below hwb).below h) ((hx.keep hwb).keep h) hn)
    rw [h0] at HI
    rw [codeLw_cl h0]
    obtain ⟨R, hR⟩ : ∃ R, codeCl m t xs = R := ⟨_, rfl⟩
    rw [hR] at HC ⊢
    obtain ⟨n, hxn⟩ : ∃ n, xs.length = n := ⟨_, rfl⟩
    rw [hxn] at hn HC ⊢
    obtain ⟨L, hL⟩ : ∃ L, t.length = L := ⟨_, rfl⟩
    rw [hL] at HI HC HW B1 ⊢
    clear b1 hwb hW hr hz hx hR hxn hL h0
    go_enter Try.func75, Try.ntmps75
    go_wp2_with fail
    rw [HW.out]
    refine (HI.out _ (Below.refl _ _)).mono ?_
    rintro e w1 ⟨rfl, hb1⟩
    obtain ⟨x1, x2, x3⟩ := B1.out.keep hb1
    go_wp2_with fail
    refine (HC.out _ hb1).mono ?_
    rintro e w2 ⟨rfl, hb2⟩
    have HB2 := Lib.hid (below_step HB.out (below_step hb1 hb2))
    clear hb1 hb2 x1 x2 x3
    go_wp2
    go_ret
    exact ⟨rfl, HB2.out⟩
  · have h0' : isL m t = false := by simpa using h0
    rw [h0'] at HI
    rw [show codeLw m t xs = 1 by unfold codeLw; rw [if_neg h0]]
    obtain ⟨n, hxn⟩ : ∃ n, xs.length = n := ⟨_, rfl⟩
    rw [hxn]
    obtain ⟨L, hL⟩ : ∃ L, t.length = L := ⟨_, rfl⟩
    rw [hL] at HI HW B1 ⊢
    clear b1 hwb hW hr hz hx hxn hL h0 h0'
    go_enter Try.func75, Try.ntmps75
    go_wp2_with fail
    rw [HW.out]
    refine (HI.out _ (Below.refl _ _)).mono ?_
    rintro e w1 ⟨rfl, hb1⟩
    have HB1 := Lib.hid (below_step HB.out hb1)
    clear hb1
    go_wp2
    go_ret
    exact ⟨rfl, HB1.out⟩
end Go.Proofs.Ytpmbojbdppbkgaa

/- Contracts of the law of a plane, its lines and sums. -/
namespace Go.Proofs.Ytpmbojbdppbkgaa
open Go.RowKit Go.WideShapes Go.ChangeShapes Go.ChangeAt

/-- a plane's box and a law's variable -/
theorem pro_law (w : World) (m : Int) (A : Option Addr) (n c : Nat) : ∃ W, (w.alloc (.cells #[.int .i64 m, .slice A n c] 31)).alloc (.cells #[.int .i64 0, .int .i64 0, .slice none 0 0] 68) = W ∧
    Box W w.heap.size m A n c ∧ VarC 68 W (w.heap.size + 1) #[.int .i64 0, .int .i64 0, .slice none 0 0] ∧ Below w.heap.size w W := by
  refine ⟨_, rfl, (Box.newT _ _ _ _ _ _).keep (below_one _ _), ?_, below_alloc _ (below_one _ _)⟩
  have := VarC.new 68 (w.alloc (.cells #[.int .i64 m, .slice A n c] 31)) #[.int .i64 0, .int .i64 0, .slice none 0 0]
  simpa using this
set_option maxHeartbeats 2000000 in
set_option maxRecDepth 100000 in
theorem lawOf_nat (m : Int) (A : Option Addr) (n c d : Nat) (w : World) (hn : n = d + 1) (hd : d ≤ 1000) :
    Calls Try.prog 64 #[.agg #[.int .i64 m, .slice A n c]] w fun e w' => e = .returned (.agg #[.int .i64 m, .int .i64 d, .slice A n c]) ∧ Below w.heap.size w w' := by
  obtain ⟨W, hW, b1, v2, hwb⟩ := pro_law w m A n c
  have B1 := Lib.hid b1
  have V2 := Lib.hid v2
  have HB := Lib.hid hwb
  have HW := Lib.hid hW
  have HG := Lib.hid (fun W0 => gridOf_nat m A n c d W0 hn hd)
  clear b1 v2 hwb hW hn
  obtain ⟨x1, x2, x3⟩ := B1.out
  go_enter Try.func64, Try.ntmps64
  go_wp2_with fail
  rw [HW.out]
  refine (HG.out _).mono ?_
  rintro e w1 ⟨rfl, hb1⟩
  have hv := V2.out.keep hb1
  obtain ⟨q0, q1, q2, q3, q4, q5⟩ := hv.tells3
  have hs := hv.set3 (.int .i64 m) (.int .i64 d) (.slice A n c)
  obtain ⟨f0, f1, f2, -⟩ := hs.tells3
  have F4 := Lib.hid (below_set3 (below_step HB.out hb1) (show w.heap.size ≤ w.heap.size + 1 by omega) (.int .i64 m) (.int .i64 d) (.slice A n c))
  unfold set3 at f0 f1 f2 F4
  clear hv hs hb1 x1 x2 x3
  go_wp2
  exact bodyPost_ret (v := .agg #[.int .i64 m, .int .i64 d, .slice A n c]) (by simp [results, Try.results64, go_sem, f0, f1, f2]) rfl ⟨rfl, F4.out⟩
/-- a law's box and a series' variable -/
theorem pro_lawS (w : World) (m : Int) (d : Nat) (A : Option Addr) (n c : Nat) : ∃ W, (w.alloc (.cells #[.int .i64 m, .int .i64 d, .slice A n c] 68)).alloc (.cells #[.int .i64 0, .slice none 0 0] 28) = W ∧
    GBox W w.heap.size m d A n c ∧ VarC 28 W (w.heap.size + 1) #[.int .i64 0, .slice none 0 0] ∧ Below w.heap.size w W := by
  refine ⟨_, rfl, (GBox.new _ _ _ _ _ _ _).keep (below_one _ _), ?_, below_alloc _ (below_one _ _)⟩
  have := VarC.new 28 (w.alloc (.cells #[.int .i64 m, .int .i64 d, .slice A n c] 68)) #[.int .i64 0, .slice none 0 0]
  simpa using this
set_option maxHeartbeats 2000000 in
set_option maxRecDepth 100000 in
theorem line_any (m : Int) (d : Nat) (A : Option Addr) (n c : Nat) (u : Int) (w : World) (m1 : 2 ≤ m) (m2 : m ≤ 10000) (hd : d ≤ 10) (h1 : 0 ≤ u) (h2 : u ≤ 1) :
    Calls Try.prog 84 #[.agg #[.int .i64 m, .int .i64 d, .slice A n c], .int .i64 u] w fun e w' => ∃ v, e = .returned (.agg #[.int .i64 m, v]) ∧ OwnI w' w.heap.size v (Pl.lin m d u) ∧ Below w.heap.size w w' := by
  obtain ⟨W, hW, b1, v2, hwb⟩ := pro_lawS w m d A n c
  have B1 := Lib.hid b1
  have V2 := Lib.hid v2
  have HB := Lib.hid hwb
  have HW := Lib.hid hW
  have HM := Lib.hid (fun W0 => monomial_any m d 1 u W0 (by omega) m2 (by omega) (by omega) (by omega))
  obtain ⟨R, hR⟩ : ∃ R, Pl.lin m d u = R := ⟨_, rfl⟩
  rw [show Ser.cut m d (Ser.mon 1 u) = R from hR] at HM
  rw [hR]
  have hsz : w.heap.size + 1 < W.heap.size := v2.lt
  clear b1 v2 hwb hW hR
  obtain ⟨x1, x2, x3, x4⟩ := B1.out
  go_enter Try.func84, Try.ntmps84
  go_wp2_with fail
  rw [HW.out]
  refine (HM.out _).mono ?_
  rintro e w1 ⟨v, rfl, ho, hb1⟩
  obtain ⟨A1, c1, rfl, -⟩ := ho.form
  have hv := V2.out.keep hb1
  obtain ⟨q0, q1, q2, q3⟩ := hv.tells2
  obtain ⟨f0, f1, f2, f3⟩ := fin_serC (w := w) hv ho hsz (by omega) (below_step HB.out hb1) (.int .i64 m) (.slice A1 R.length c1)
  have F2 := Lib.hid (OwnI.more (b' := w.heap.size) f2 (by omega))
  have F3 := Lib.hid f3
  clear f2 f3 ho hb1 hv x1 x2 x3 x4
  go_wp2
  exact bodyPost_ret (v := .agg #[.int .i64 m, .slice A1 R.length c1]) (by simp [results, Try.results84, go_sem, f0, f1]) rfl ⟨_, rfl, F2.out, F3.out⟩
/-- a law's box, two series' boxes, a series' variable -/
theorem pro_lawSS (w : World) (m : Int) (d : Nat) (A : Option Addr) (n c : Nat) (m1 : Int) (A1 : Option Addr) (n1 c1 : Nat) (m2 : Int) (A2 : Option Addr) (n2 c2 : Nat) :
    ∃ W, (((w.alloc (.cells #[.int .i64 m, .int .i64 d, .slice A n c] 68)).alloc (.cells #[.int .i64 m1, .slice A1 n1 c1] 28)).alloc (.cells #[.int .i64 m2, .slice A2 n2 c2] 28)).alloc (.cells #[.int .i64 0, .slice none 0 0] 28) = W ∧
    GBox W w.heap.size m d A n c ∧ Box W (w.heap.size + 1) m1 A1 n1 c1 ∧ Box W (w.heap.size + 1 + 1) m2 A2 n2 c2 ∧ VarC 28 W (w.heap.size + 1 + 1 + 1) #[.int .i64 0, .slice none 0 0] ∧ Below w.heap.size w W := by
  refine ⟨_, rfl, (((GBox.new _ _ _ _ _ _ _).keep (below_one _ _)).keep (below_one _ _)).keep (below_one _ _), ?_, ?_, ?_, below_alloc _ (below_alloc _ (below_alloc _ (below_one _ _)))⟩
  · have := ((Box.newT 28 (w.alloc (.cells #[.int .i64 m, .int .i64 d, .slice A n c] 68)) m1 A1 n1 c1).keep (below_one _ (.cells #[.int .i64 m2, .slice A2 n2 c2] 28))).keep (below_one _ (.cells #[.int .i64 0, .slice none 0 0] 28))
    simpa using this
  · have := (Box.newT 28 ((w.alloc (.cells #[.int .i64 m, .int .i64 d, .slice A n c] 68)).alloc (.cells #[.int .i64 m1, .slice A1 n1 c1] 28)) m2 A2 n2 c2).keep (below_one _ (.cells #[.int .i64 0, .slice none 0 0] 28))
    simpa using this
  · have := VarC.new 28 (((w.alloc (.cells #[.int .i64 m, .int .i64 d, .slice A n c] 68)).alloc (.cells #[.int .i64 m1, .slice A1 n1 c1] 28)).alloc (.cells #[.int .i64 m2, .slice A2 n2 c2] 28)) #[.int .i64 0, .slice none 0 0]
    simpa using this
set_option maxHeartbeats 4000000 in
set_option maxRecDepth 100000 in
theorem sum_any (m : Int) (d : Nat) (A : Option Addr) (c : Nat) (t : List (List Int)) (A1 : Option Addr) (c1 : Nat) (l1 : List Int) (A2 : Option Addr) (c2 : Nat) (l2 : List Int) (w : World) (hs : Pl.Ok m d t) (s1 : SerOk m d l1) (s2 : SerOk m d l2) (z1 : Ser.co l1 0 = 0) (z2 : Ser.co l2 0 = 0) (hr : RP w A t) (hr1 : RI w A1 l1) (hr2 : RI w A2 l2) :
    Calls Try.prog 76 #[.agg #[.int .i64 m, .int .i64 d, .slice A t.length c], .agg #[.int .i64 m, .slice A1 l1.length c1], .agg #[.int .i64 m, .slice A2 l2.length c2]] w fun e w' => ∃ v, e = .returned (.agg #[.int .i64 m, v]) ∧ OwnI w' w.heap.size v (Pl.putL m d (Pl.pc t) l1 l2) ∧ Below w.heap.size w w' := by
  obtain ⟨W, hW, b1, b2, b3, v4, hwb⟩ := pro_lawSS w m d A t.length c m A1 l1.length c1 m A2 l2.length c2
  have B1 := Lib.hid b1
  have B2 := Lib.hid b2
  have B3 := Lib.hid b3
  have V4 := Lib.hid v4
  have HB := Lib.hid hwb
  have HW := Lib.hid hW
  have HP := Lib.hid (withCurves_any m d A c t A1 c1 l1 A2 c2 l2 W hs s1 s2 z1 z2 (hr.below hwb) (hr1.below hwb) (hr2.below hwb))
  have HD := Lib.hid (fun (W0 : World) (A0 : Option Addr) (c0 : Nat) (h : RP W0 A0 (Pl.botT m d (Pl.pc t) l1 l2)) => by
    have := diagonal_any m d A0 c0 (Pl.botT m d (Pl.pc t) l1 l2) W0 (hs.tab _) h
    rw [show Ser.cut m d (diaF (Pl.botT m d (Pl.pc t) l1 l2)) = Pl.putL m d (Pl.pc t) l1 l2 from Pl.diag_cut m d (Pl.pc t) l1 l2] at this
    exact this)
  obtain ⟨T, hT⟩ : ∃ T, Pl.botT m d (Pl.pc t) l1 l2 = T := ⟨_, rfl⟩
  obtain ⟨R, hR⟩ : ∃ R, Pl.putL m d (Pl.pc t) l1 l2 = R := ⟨_, rfl⟩
  rw [hT] at HP HD
  rw [hR] at HD ⊢
  obtain ⟨L, hL⟩ : ∃ L, t.length = L := ⟨_, rfl⟩
  obtain ⟨n1, hn1⟩ : ∃ L, l1.length = L := ⟨_, rfl⟩
  obtain ⟨n2, hn2⟩ : ∃ L, l2.length = L := ⟨_, rfl⟩
  rw [hL] at HP HW B1 ⊢
  rw [hn1] at HP HW B2 ⊢
  rw [hn2] at HP HW B3 ⊢
  have hsz : w.heap.size + 1 + 1 + 1 < W.heap.size := v4.lt
  clear b1 b2 b3 v4 hwb hW hr hr1 hr2 hs s1 s2 z1 z2 hT hR hL hn1 hn2
  obtain ⟨x1, x2, x3, x4⟩ := B1.out
  obtain ⟨y1, y2, -⟩ := B2.out
  obtain ⟨y3, y4, -⟩ := B3.out
  go_enter Try.func76, Try.ntmps76
  go_wp2_with fail
  rw [HW.out]
  refine HP.out.mono ?_
  rintro e w1 ⟨v1, rfl, ho1, hb1⟩
  obtain ⟨A3, c3, rfl, -⟩ := ho1.len
  clear x1 x2 x3 x4 y1 y2 y3 y4
  go_wp2_with fail
  refine (HD.out _ _ _ ho1.rp).mono ?_
  rintro e w2 ⟨v2, rfl, ho2, hb2⟩
  obtain ⟨A4, c4, rfl, -⟩ := ho2.form
  have hb := below_step hb1 hb2
  have hv := V4.out.keep hb
  obtain ⟨q0, q1, q2, q3⟩ := hv.tells2
  have hsz1 := hb1.size
  obtain ⟨f0, f1, f2, f3⟩ := fin_serC (w := w) hv ho2 (by omega) (by omega) (below_step HB.out hb) (.int .i64 m) (.slice A4 R.length c4)
  have F2 := Lib.hid (OwnI.more (b' := w.heap.size) f2 (by omega))
  have F3 := Lib.hid f3
  clear f2 f3 ho1 ho2 hb1 hb2 hb hv
  go_wp2
  exact bodyPost_ret (v := .agg #[.int .i64 m, .slice A4 R.length c4]) (by simp [results, Try.results76, go_sem, f0, f1]) rfl ⟨_, rfl, F2.out, F3.out⟩
end Go.Proofs.Ytpmbojbdppbkgaa

/- Plain facts of laws: their rows, lines and inverses. -/
namespace Go.Proofs.Ytpmbojbdppbkgaa
open Go.RowKit Go.WideShapes Go.ChangeShapes Go.ChangeAt

namespace Pl
theorem fau_parts {m : Int} {d : Nat} {F : Nat → Nat → Int} (h : fau m d F = none) : fauP d F = none ∧ fauS d F = none := by
  unfold fau at h
  cases h1 : fauP d F with
  | some x => rw [h1] at h; cases h
  | none =>
    rw [h1, orE_none] at h
    cases h2 : fauS d F with
    | some x => rw [h2] at h; cases h
    | none => exact ⟨rfl, rfl⟩
theorem norm_law {m : Int} {d : Nat} {t : List (List Int)} (h : fau m d (pc t) = none) (hs : Ok m d t) : Norm d (pc t) := norm_of (fau_parts h).1 (fau_parts h).2 (fun i j hij => hs.over i j hij)
theorem lin_ok {m : Int} {d : Nat} (m1 : 2 ≤ m) (m2 : m ≤ 10000) (d1 : 1 ≤ d) (d2 : d ≤ 10) (u : Int) : SerOk m d (lin m d u) := ⟨m1, m2, d1, d2, Ser.cut_length _ _ _, Ser.cut_red (by omega) _ _⟩
theorem lin_zero (m : Int) (d : Nat) (u : Int) : Ser.co (lin m d u) 0 = 0 := by
  unfold lin
  rw [Ser.co_cut (Nat.zero_le _)]
  unfold Ser.mon
  simp
theorem invP_ok {m : Int} {d : Nat} (m1 : 2 ≤ m) (m2 : m ≤ 10000) (d1 : 1 ≤ d) (d2 : d ≤ 10) (F : Nat → Nat → Int) (n : Nat) : SerOk m d (invP m d F n) := ⟨m1, m2, d1, d2, invP_length _ _ _ _, invP_red (by omega) _ _ _⟩
end Pl
end Go.Proofs.Ytpmbojbdppbkgaa

