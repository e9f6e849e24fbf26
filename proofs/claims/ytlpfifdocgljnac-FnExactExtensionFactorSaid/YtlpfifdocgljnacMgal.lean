/- Texts of contracts, joined. -/
import Derived.Test.YtlpfifdocgljnacMgac
import Derived.Test.YtlpfifdocgljnacMgak
import Derived.Test.YtlpfifdocgljnacMgai
import Derived.Test.YtlpfifdocgljnacMgaj
import Derived.Test.YtlpfifdocgljnacMgae
import Derived.Test.YtlpfifdocgljnacMgaf
/- Plain facts: the gap of two laws that are equal below a degree fulfils the equations of cocycles there. -/
namespace Go.Proofs.Ytlpfifdocgljnac
open Go.RowKit

namespace Pl
open Ser
theorem psum_at (f : Nat → Int) (j : Nat) : ∀ N, j < N → (∀ i, i < N → i ≠ j → f i = 0) → psum f N = f j
  | 0, h, _ => absurd h (by omega)
  | N + 1, h, hz => by
    show psum f N + f N = f j
    by_cases e : j = N
    · subst e
      rw [psum_low f j (fun i hi => hz i (by omega) (by omega))]; omega
    · rw [psum_at f j N (by omega) (fun i hi => hz i (by omega)), hz N (by omega) (by omega)]; omega
theorem psum_nil (f : Nat → Int) (N : Nat) (h : ∀ i, i < N → f i = 0) : psum f N = 0 := psum_low f N h
/-- the linear part of a law -/
structure Lin (F : Nat → Nat → Int) : Prop where
  zero : F 0 0 = 0
  x : F 1 0 = 1
  y : F 0 1 = 1
theorem pw2_low {F : Nat → Nat → Int} (h : Lin F) : ∀ n i j, i + j < n → pw2 F n i j = 0
  | 0, i, j, hij => absurd hij (by omega)
  | n + 1, i, j, hij => by
    show mul2 (pw2 F n) F i j = 0
    unfold mul2
    refine psum_nil _ _ (fun k hk => psum_nil _ _ (fun l hl => ?_))
    by_cases e : k + l < n
    · rw [pw2_low h n k l e, Int.zero_mul]
    · obtain rfl : k = i := by omega
      obtain rfl : l = j := by omega
      rw [Nat.sub_self, Nat.sub_self, h.zero, Int.mul_zero]
theorem pw2_lead {F : Nat → Nat → Int} (h : Lin F) : ∀ n i j, i + j = n → pw2 F n i j = ((Num.bin n i : Nat) : Int)
  | 0, i, j, hij => by
    obtain rfl : i = 0 := by omega
    obtain rfl : j = 0 := by omega
    rfl
  | n + 1, i, j, hij => by
    show mul2 (pw2 F n) F i j = _
    unfold mul2
    have hrow : ∀ k, k < i + 1 → psum (fun l => pw2 F n k l * F (i - k) (j - l)) (j + 1) = if k = i then (if 0 < j then ((Num.bin n i : Nat) : Int) else 0) else if k + 1 = i then ((Num.bin n k : Nat) : Int) else 0 := by
      intro k hk
      by_cases e : k = i
      · subst e
        rw [if_pos rfl]
        by_cases hj : 0 < j
        · rw [if_pos hj, psum_at _ (j - 1) _ (by omega) (fun l hl hne => ?_)]
          · rw [pw2_lead h n k (j - 1) (by omega), Nat.sub_self, show j - (j - 1) = 1 by omega, h.y, Int.mul_one]
          · by_cases e2 : k + l < n
            · rw [pw2_low h n k l e2, Int.zero_mul]
            · obtain rfl : l = j := by omega
              rw [Nat.sub_self, Nat.sub_self, h.zero, Int.mul_zero]
        · rw [if_neg hj]
          obtain rfl : j = 0 := by omega
          refine psum_nil _ _ (fun l hl => ?_)
          obtain rfl : l = 0 := by omega
          rw [Nat.sub_self, Nat.sub_self, h.zero, Int.mul_zero]
      · rw [if_neg e]
        by_cases e1 : k + 1 = i
        · rw [if_pos e1, psum_at _ j _ (by omega) (fun l hl hne => ?_)]
          · rw [pw2_lead h n k j (by omega), Nat.sub_self, show i - k = 1 by omega, h.x, Int.mul_one]
          · rw [pw2_low h n k l (by omega), Int.zero_mul]
        · rw [if_neg e1]
          exact psum_nil _ _ (fun l hl => by rw [pw2_low h n k l (by omega), Int.zero_mul])
    rw [psum_ext (i + 1) hrow]
    show psum _ i + _ = _
    dsimp only
    rw [if_pos rfl]
    cases i with
    | zero =>
      show (0 : Int) + _ = _
      rw [if_pos (by omega), Num.bin_zero, Num.bin_zero]; rfl
    | succ i =>
      rw [psum_at _ i _ (by omega) (fun k hk hne => by rw [if_neg (by omega), if_neg (by omega)]), if_neg (by omega), if_pos rfl]
      by_cases hj : 0 < j
      · rw [if_pos hj, Num.bin_succ]; omega
      · rw [if_neg hj]
        obtain rfl : j = 0 := by omega
        obtain rfl : n = i := by omega
        have := Num.bin_over n (n + 1) (by omega)
        rw [Num.bin_succ, this]; omega
theorem pw2_same {F G : Nat → Nat → Int} {d : Nat} (h : ∀ i j, i + j < d → F i j = G i j) : ∀ n i j, i + j < d → pw2 F n i j = pw2 G n i j
  | 0, _, _, _ => rfl
  | n + 1, i, j, hij => by
    show mul2 (pw2 F n) F i j = mul2 (pw2 G n) G i j
    unfold mul2
    exact psum_ext _ (fun k hk => psum_ext _ (fun l hl => by rw [pw2_same h n k l (by omega), h (i - k) (j - l) (by omega)]))
/-- the brackets of two laws that are equal below d -/
theorem gap_br {m : Int} {d : Nat} {F G : Nat → Nat → Int} (hF : Lin F) (hG : Lin G) (h : ∀ i j, i + j < d → F i j = G i j) (a b c : Nat) (hc : 0 < c) (habc : a + b + c = d) :
    brS m d G a b c - brS m d F a b c = (G (a + b) c - F (a + b) c) * (((Num.bin (a + b) a : Nat) : Int) % m) := by
  have hp : ∀ (H : Nat → Nat → Int) i, pc (pwT m d H i) a b = pw2 H i a b % m := fun H i => by rw [pwT_tab, pc_tab (by omega)]
  unfold brS
  rw [show d + 1 - c = a + b + 1 by omega]
  show psum _ (a + b) + _ - (psum _ (a + b) + _) = _
  rw [psum_ext (a + b) (f := fun i => G i c * pc (pwT m d G i) a b) (g := fun i => F i c * pc (pwT m d F i) a b) (fun i hi => by
    try dsimp only
    rw [hp, hp, pw2_same h i a b (by omega), h i c (by omega)])]
  dsimp only
  rw [hp, hp, pw2_lead hF _ _ _ rfl, pw2_lead hG _ _ _ rfl, Int.sub_mul]; omega
theorem fauT_none {m : Int} {d : Nat} {F : Nat → Nat → Int} (h : fauT m d F = none) (a b c : Nat) (habc : a + b + c ≤ d) : br m d F a b c = br m d F c b a := by
  have h1 := srch_none _ _ h a (by omega) (by omega)
  have h2 := srch_none _ _ h1 b (by omega) (by omega)
  have h3 := srch_none _ _ h2 c (by omega) (by omega)
  unfold fau2c at h3
  by_cases e : br m d F a b c = br m d F c b a
  · exact e
  · rw [if_neg e] at h3; cases h3
theorem bin_turn : ∀ n : Fin 11, ∀ k : Fin 11, k.val ≤ n.val → Num.bin n.val k.val = Num.bin n.val (n.val - k.val) := by decide +kernel
/-- the gap is a cocycle -/
theorem gap_coc {m : Int} {d : Nat} {F G : Nat → Nat → Int} (hd : d ≤ 10) (hF : Lin F) (hG : Lin G) (h : ∀ i j, i + j < d → F i j = G i j) (sF : Sym d F) (sG : Sym d G) (tF : fauT m d F = none) (tG : fauT m d G = none) (a b : Nat) (h0 : 0 < a) (h1 : 0 < b) (h2 : a + b < d) :
    (((Num.bin (a + b) a : Nat) : Int) * (G (a + b) (d - (a + b)) - F (a + b) (d - (a + b))) - ((Num.bin (d - a) b : Nat) : Int) * (G a (d - a) - F a (d - a))) % m = 0 := by
  obtain ⟨c, hc⟩ : ∃ c, c = d - (a + b) := ⟨_, rfl⟩
  have e1 := gap_br (m := m) hF hG h a b c (by omega) (by omega)
  have e2 := gap_br (m := m) hF hG h c b a (by omega) (by omega)
  have b1 := fauT_none tF a b c (by omega)
  have b2 := fauT_none tG a b c (by omega)
  unfold br at b1 b2
  have hcong : (brS m d G a b c - brS m d F a b c) % m = (brS m d G c b a - brS m d F c b a) % m := by
    rw [Int.sub_emod, b1, b2, ← Int.sub_emod]
  rw [e1, e2, Int.mul_emod, Int.emod_emod, ← Int.mul_emod, Int.mul_emod (G (c + b) a - F (c + b) a), Int.emod_emod, ← Int.mul_emod] at hcong
  have e3 : c + b = d - a := by omega
  have e4 := bin_turn ⟨d - a, by omega⟩ ⟨b, by omega⟩ (by show b ≤ d - a; omega)
  simp only [show d - a - b = c by omega] at e4
  rw [e3, sF (d - a) a (by omega), sG (d - a) a (by omega), ← e4] at hcong
  rw [← hc]
  rw [Int.mul_comm _ (G (a + b) c - F (a + b) c), Int.mul_comm _ (G a (d - a) - F a (d - a)), Int.sub_emod, hcong, ← Int.sub_emod, Int.sub_self]; rfl
end Pl
end Go.Proofs.Ytlpfifdocgljnac

/- Plain facts of laws: their rows, lines and inverses. -/
namespace Go.Proofs.Ytlpfifdocgljnac
open Go.RowKit Go.WideShapes Go.ChangeShapes Go.ChangeAt

namespace Pl
theorem fau_parts {m : Int} {d : Nat} {F : Nat → Nat → Int} (h : fau m d F = none) : fauP d F = none ∧ fauS d F = none := by
  unfold fau at h
  cases h1 : fauP d F with
  | some x => rw [h1] at h; cases h
  | none =>
    rw [h1, orE_none] at h
    cases h2 : fauS d F with
    | some x => rw [h2] at h; cases h
    | none => exact ⟨rfl, rfl⟩
theorem norm_law {m : Int} {d : Nat} {t : List (List Int)} (h : fau m d (pc t) = none) (hs : Ok m d t) : Norm d (pc t) := norm_of (fau_parts h).1 (fau_parts h).2 (fun i j hij => hs.over i j hij)
theorem lin_ok {m : Int} {d : Nat} (m1 : 2 ≤ m) (m2 : m ≤ 10000) (d1 : 1 ≤ d) (d2 : d ≤ 10) (u : Int) : SerOk m d (lin m d u) := ⟨m1, m2, d1, d2, Ser.cut_length _ _ _, Ser.cut_red (by omega) _ _⟩
theorem lin_zero (m : Int) (d : Nat) (u : Int) : Ser.co (lin m d u) 0 = 0 := by
  unfold lin
  rw [Ser.co_cut (Nat.zero_le _)]
  unfold Ser.mon
  simp
theorem invP_ok {m : Int} {d : Nat} (m1 : 2 ≤ m) (m2 : m ≤ 10000) (d1 : 1 ≤ d) (d2 : d ≤ 10) (F : Nat → Nat → Int) (n : Nat) : SerOk m d (invP m d F n) := ⟨m1, m2, d1, d2, invP_length _ _ _ _, invP_red (by omega) _ _ _⟩
end Pl
end Go.Proofs.Ytlpfifdocgljnac

/- Plain facts: two laws that are equal below their degree differ by a cocycle. -/
namespace Go.Proofs.Ytlpfifdocgljnac
open Go.RowKit

/-- the table of the second less the first -/
def gapT (m : Int) (d : Nat) (t t' : List (List Int)) : List (List Int) := Pl.tab m d fun i j => Pl.pc t' i j - Pl.pc t i j
theorem agr_ge (E : Nat → Bool) : ∀ n k, k ≤ agr E n k
  | 0, k => Nat.le_refl _
  | n + 1, k => by
    unfold agr
    split
    · have := agr_ge E n (k + 1); omega
    · exact Nat.le_refl _
theorem agr_all (E : Nat → Bool) : ∀ n k j, k < j → j ≤ agr E n k → E j = true
  | 0, k, j, h1, h2 => absurd h2 (by unfold agr; omega)
  | n + 1, k, j, h1, h2 => by
    unfold agr at h2
    by_cases e : E (k + 1) = true
    · rw [if_pos e] at h2
      by_cases ej : j = k + 1
      · rw [ej]; exact e
      · exact agr_all E n (k + 1) j (by omega) h2
    · rw [if_neg e] at h2; omega
theorem lin_norm {d : Nat} {F : Nat → Nat → Int} (h : Pl.Norm d F) (hd : 1 ≤ d) : Pl.Lin F :=
  ⟨(h.x 0 (by omega)).trans rfl, (h.x 1 hd).trans rfl, (h.y 1 hd).trans rfl⟩
theorem same_below {m : Int} {d : Nat} {t t' : List (List Int)} (ok : Pl.Ok m d t) (ok' : Pl.Ok m d t') (hn : Pl.Norm d (Pl.pc t)) (hn' : Pl.Norm d (Pl.pc t')) (ha : d - 1 ≤ agr (eqL m t t') d 0) :
    ∀ i j, i + j < d → Pl.pc t i j = Pl.pc t' i j := by
  intro i j hij
  by_cases h0 : i + j = 0
  · obtain rfl : i = 0 := by omega
    obtain rfl : j = 0 := by omega
    rw [hn.x 0 (by omega), hn'.x 0 (by omega)]
  · have h := agr_all _ _ _ (i + j) (by omega) (show i + j ≤ agr (eqL m t t') d 0 by omega)
    unfold eqL at h
    have h2 := of_decide_eq_true h
    have e1 := layC_co ok (i + j) i (by omega)
    have e2 := layC_co ok' (i + j) i (by omega)
    rw [show i + j - i = j by omega] at e1 e2
    rw [← e1, ← e2, h2]
theorem gap_some {m : Int} {d : Nat} {t t' : List (List Int)} (ok : Pl.Ok m d t) (ok' : Pl.Ok m d t') (d2 : 2 ≤ d) (hf : Pl.fau m d (Pl.pc t) = none) (hf' : Pl.fau m d (Pl.pc t') = none) (ha : d - 1 ≤ agr (eqL m t t') d 0) :
    (Cyc.facO m (layC m (gapT m d t t') d) d).isSome = true := by
  have hd2 := ok.d2
  have m1 := ok.m1
  have okg : Pl.Ok m d (gapT m d t t') := Pl.Ok.of_tab ok.m1 ok.m2 (by omega) hd2 _
  have hn := Pl.norm_law hf ok
  have hn' := Pl.norm_law hf' ok'
  have hs := same_below ok ok' hn hn' ha
  have p := Pl.fau_parts hf
  have p' := Pl.fau_parts hf'
  have sF := Pl.fauS_none p.2
  have sG := Pl.fauS_none p'.2
  have tF : Pl.fauT m d (Pl.pc t) = none := by
    unfold Pl.fau at hf
    rw [p.1, p.2] at hf
    exact hf
  have tG : Pl.fauT m d (Pl.pc t') = none := by
    unfold Pl.fau at hf'
    rw [p'.1, p'.2] at hf'
    exact hf'
  have hpc : ∀ i j, i + j ≤ d → Pl.pc (gapT m d t t') i j = (Pl.pc t' i j - Pl.pc t i j) % m := fun i j h => by unfold gapT; rw [Pl.pc_tab h]
  have hsym : Cyc.symZ (gapT m d t t') d = true := by
    rw [Cyc.symZ_iff]
    intro i hi
    refine ⟨by rw [hpc _ _ (by omega), hpc _ _ (by omega), sF i (d - i) (by omega), sG i (d - i) (by omega)], fun hx => ?_⟩
    rw [hpc _ _ (by omega)]
    rcases hx with rfl | rfl
    · rw [Nat.sub_zero, hn.y d (Nat.le_refl _), hn'.y d (Nat.le_refl _), Int.sub_self]; rfl
    · rw [Nat.sub_self, hn.x i (Nat.le_refl _), hn'.x i (Nat.le_refl _), Int.sub_self]; rfl
  have hcoc : Cyc.cocZ m (gapT m d t t') d = true := by
    rw [Cyc.cocZ_iff]
    intro a b ha hb hab
    have h := Pl.gap_coc (m := m) hd2 (lin_norm hn (by omega)) (lin_norm hn' (by omega)) hs sF sG tF tG a b ha hb hab
    rw [Cyc.cocN_emod m _ d a b hab, hpc _ _ (by omega), hpc _ _ (by omega)]
    rw [Int.sub_emod, Int.mul_emod, Int.emod_emod, ← Int.mul_emod, Int.mul_emod _ ((Pl.pc t' a (d - a) - Pl.pc t a (d - a)) % m), Int.emod_emod, ← Int.mul_emod, ← Int.sub_emod]
    exact h
  exact (Cyc.isC_iff ok.m1 ok.m2 okg d2 hd2 (l := layC m (gapT m d t t') d) (fun i hi => layC_co okg d i hi)).1 ⟨hsym, hcoc⟩
end Go.Proofs.Ytlpfifdocgljnac

/- Contracts of AddPlanes, of the program and of the model. -/
namespace Go.Proofs.Ytlpfifdocgljnac
open Go.RowKit Go.WideShapes Go.ChangeShapes Go.ChangeAt

theorem add_row {m : Int} {d : Nat} {t t' : List (List Int)} (k : Nat) : Ser.cut m (d - k) (fun j => Pl.pc t k j + Pl.pc t' k j) = addR m (d - k) (Pl.rw' t k) (Pl.rw' t' k) := rfl
set_option maxHeartbeats 2000000 in
set_option maxRecDepth 100000 in
theorem l03Add_any (m : Int) (d : Nat) (A : Option Addr) (c : Nat) (t : List (List Int)) (A' : Option Addr) (c' : Nat) (t' : List (List Int)) (w : World) (hs : Pl.Ok m d t) (hs' : Pl.Ok m d t') (hr : RP w A t) (hr' : RP w A' t') :
    Calls Try.prog 58 #[.int .i64 m, .slice A t.length c, .slice A' t'.length c'] w fun e w' => ∃ v, e = .returned v ∧ OwnR w' w.heap.size w'.heap.size v (Pl.tab m d fun i j => Pl.pc t i j + Pl.pc t' i j) ∧ Below w.heap.size w w' := by
  have HR := Lib.hid hr
  have HR' := Lib.hid hr'
  have HS := Lib.hid hs
  have HS' := Lib.hid hs'
  have hl := hs.len
  have hl' := hs'.len
  have hd2 := hs.d2
  obtain ⟨L, hL⟩ : ∃ L, t.length = L := ⟨_, rfl⟩
  obtain ⟨L', hL'⟩ : ∃ L, t'.length = L := ⟨_, rfl⟩
  have HL := Lib.hid (hL.symm.trans hl)
  have HL' := Lib.hid (hL'.symm.trans hl')
  rw [hL, hL']
  have hLb : L ≤ 11 := by omega
  clear hr hr' hs hs' hL hL' hl hl'
  go_enter Try.func58, Try.ntmps58
  go_wp2
  go_loopw [7, 8] (fun r i wr => ∃ k : Nat, k ≤ L ∧ i = .int .i64 k ∧ OwnR wr w.heap.size wr.heap.size r ((Pl.tab m d fun i j => Pl.pc t i j + Pl.pc t' i j).take k) ∧ Below w.heap.size w wr) (fun _ i _ => L - (intOf i).toNat)
  case atStart => exact ⟨0, Nat.zero_le _, rfl, by simpa using OwnR.none0 w, below_one _ _⟩
  case round =>
    obtain ⟨k, hk, rfl, hown, hbel⟩ := hrel
    have HB := Lib.hid hbel
    have HO := Lib.hid hown
    have hsz := hbel.size
    clear hown
    by_cases hlt : k < L
    · have hLd := HL.out
      have hLd' := HL'.out
      obtain ⟨b, off, A1, c1, rfl, hb, hc, -, hri⟩ := HR.out.at k (by rw [HS.out.len]; omega)
      obtain ⟨b', off', A2, c2, rfl, hb', hc', -, hri'⟩ := HR'.out.at k (by rw [HS'.out.len]; omega)
      have e1 := (hbel.cell (p := ⟨b, off + k, none⟩) hb).trans hc
      have e2 := (hbel.cell (p := ⟨b', off' + k, none⟩) hb').trans hc'
      have HA : Hid (∀ W : World, Below w.heap.size w W → Calls Try.prog 85 #[.int .i64 m, .slice A1 (Pl.rw' t k).length c1, .slice A2 (Pl.rw' t' k).length c2] W fun e w' => ∃ v, e = .returned v ∧ OwnI w' W.heap.size v (addR m (d - k) (Pl.rw' t k) (Pl.rw' t' k)) ∧ Below W.heap.size W w') :=
        Lib.hid (fun W hW => l02AddR_any m (d - k) A1 c1 _ A2 c2 _ W (HS.out.rowOk k (by omega)) (HS'.out.rowOk k (by omega)) (hri.below hW) (hri'.below hW))
      have hst : (Pl.tab m d fun i j => Pl.pc t i j + Pl.pc t' i j).take (k + 1) = (Pl.tab m d fun i j => Pl.pc t i j + Pl.pc t' i j).take k ++ [addR m (d - k) (Pl.rw' t k) (Pl.rw' t' k)] := by rw [Pl.tab_take_succ m d _ k (by omega), add_row]
      have HLEN := Lib.hid (show ((Pl.tab m d fun i j => Pl.pc t i j + Pl.pc t' i j).take k).length ≤ 1000000000000 by rw [List.length_take, Pl.tab_length]; omega)
      obtain ⟨N, hN⟩ : ∃ N, (Pl.rw' t k).length = N := ⟨_, rfl⟩
      obtain ⟨N', hN'⟩ : ∃ N, (Pl.rw' t' k).length = N := ⟨_, rfl⟩
      obtain ⟨row, hrow⟩ : ∃ row, addR m (d - k) (Pl.rw' t k) (Pl.rw' t' k) = row := ⟨_, rfl⟩
      rw [hrow] at HA hst
      rw [hN] at e1 hc HA
      rw [hN'] at e2 hc' HA
      have HST := Lib.hid hst
      have C1 := Lib.hid hc
      have C2 := Lib.hid hc'
      have j0 : (0 : Int) ≤ (k : Int) := by omega
      have j1 : (k : Int) < (L : Int) := by omega
      have j2 : (k : Int) < (L' : Int) := by omega
      clear hst hN hN' hrow hri hri' hc hc' hLd hLd' hbel
      go_wp2
      go_region_held3 (fun w' => w'.cell? ⟨b, off + k, none⟩ = some (.slice A1 N c1) ∧ w'.cell? ⟨b', off' + k, none⟩ = some (.slice A2 N' c2)) (first | exact ⟨e1, e2⟩ | exact kp_call hb5 ⟨e1, e2⟩ | exact ⟨(hB6.cell hb).trans C1.out, (hB6.cell hb').trans C2.out⟩ | exact kp_call (below_one _ _) (by assumption)) (first
        | (go_at_call 85; refine (HA.out _ HB.out.drew).mono ?_; rintro e w5 ⟨u, rfl, hou, hb5⟩; obtain ⟨Au, cu, rfl, -⟩ := hou.form)
        | (refine step_pushU _ _ _ (by rfl) (by rfl) Try.underlying22 w.heap.size wr.heap.size _ _ (by rfl) (HO.out.keep ((below_step (below_drew0 wr) hb5).trans ((below_one w5 _).mono hb5.size))) (Nat.le_trans hb5.size (below_one w5 _).size) _ row ((hou.alloc _).more hsz) (fun g hg => (hou.lt g hg).1) w5.heap.size (by rfl) (by rw [World.cell?_alloc_at _ _ _ _ rfl]; rfl) HLEN.out (Nat.le_trans hsz (Nat.le_trans hb5.size (below_one w5 _).size)) ?_; intro v' w1 ho1 hpb; have hB6 : Below w.heap.size w w1 := ((HB.out.drew.trans (hb5.mono hsz)).trans ((below_one w5 (.cells #[.slice Au row.length cu] 35)).mono (Nat.le_trans hsz hb5.size))).trans hpb))
      all_goals
        have HB1 := Lib.hid hB6
        have HO1 := Lib.hid ho1
        clear hB6 ho1 hpb hou hb5
        go_wp2
        go_roundw
        case rel => exact ⟨k + 1, by omega, by go_num, by rw [HST.out]; exact HO1.out, HB1.out⟩
        case measure => simp only [intOf]; omega
    · obtain rfl : k = L := by omega
      have ho := HO.out
      rw [HL.out, Pl.tab_take_all] at ho
      have HF := Lib.hid ho
      clear ho
      go_wp2
      go_ret
      exact ⟨_, rfl, HF.out, HB.out⟩
def addP := twoP fun m d t t' => Pl.tab m d fun i j => Pl.pc t i j + Pl.pc t' i j
theorem addP_len (m : Int) (t : List (List Int)) (m' : Int) (t' : List (List Int)) : szT (addP m t m' t').2.1 ≤ 1048576 := twoP_len _ m t m' t' (fun _ h _ => szT_ok (h.tab _))
end Go.Proofs.Ytlpfifdocgljnac

/- Contracts of ScalePlane, of the program and of the model. -/
namespace Go.Proofs.Ytlpfifdocgljnac
open Go.RowKit Go.WideShapes Go.ChangeShapes Go.ChangeAt

/-- the model of a function of one plane and a number, which has a code of its own -/
def onePi (cod : Int → List (List Int) → Int → Int) (f : Int → Nat → List (List Int) → Int → List (List Int)) (m : Int) (t : List (List Int)) (k : Int) : Int × List (List Int) × Int :=
  if cod m t k = 0 then (m, f m (t.length - 1) t k, 0) else (0, [], cod m t k)
theorem onePi_len (cod : Int → List (List Int) → Int → Int) (f : Int → Nat → List (List Int) → Int → List (List Int)) (m : Int) (t : List (List Int)) (k : Int) (hc : cod m t k = 0 → isP m t = true) (h : ∀ d, cod m t k = 0 → Pl.Ok m d t → szT (f m d t k) ≤ 1048576) : szT (onePi cod f m t k).2.1 ≤ 1048576 := by
  unfold onePi
  by_cases h0 : cod m t k = 0
  · rw [if_pos h0]
    obtain ⟨d, e, ho⟩ := plOk_of (hc h0)
    rw [e]
    exact h d h0 ho
  · rw [if_neg h0]; exact Nat.zero_le _
def codePN (m : Int) (t : List (List Int)) (k : Int) : Int := if isP m t = true then (if inB k 0 (m - 1) = true then 0 else 2) else 1
def scaP := onePi codePN fun m d t k => Pl.tab m d fun i j => Pl.pc t i j * k
theorem scaP_len (m : Int) (t : List (List Int)) (k : Int) : szT (scaP m t k).2.1 ≤ 1048576 :=
  onePi_len _ _ m t k (fun h => by
    unfold codePN at h
    by_cases h1 : isP m t = true
    · exact h1
    · rw [if_neg h1] at h; exact absurd h (by decide)) (fun _ _ h => szT_ok (h.tab _))

set_option maxHeartbeats 2000000 in
set_option maxRecDepth 100000 in
theorem l03Scale_any (m : Int) (d : Nat) (k : Int) (A : Option Addr) (c : Nat) (t : List (List Int)) (w : World) (hs : Pl.Ok m d t) (hr : RP w A t) (k1 : 0 ≤ k) (k2 : k < m) :
    Calls Try.prog 59 #[.int .i64 m, .int .i64 k, .slice A t.length c] w fun e w' => ∃ v, e = .returned v ∧ OwnR w' w.heap.size w'.heap.size v (Pl.tab m d fun i j => Pl.pc t i j * k) ∧ Below w.heap.size w w' := by
  have HR := Lib.hid hr
  have HS := Lib.hid hs
  have hl := hs.len
  have hd2 := hs.d2
  obtain ⟨L, hL⟩ : ∃ L, t.length = L := ⟨_, rfl⟩
  have HL := Lib.hid (hL.symm.trans hl)
  have hLb : L ≤ 11 := by omega
  rw [hL]
  clear hr hs hL hl
  go_enter Try.func59, Try.ntmps59
  go_wp2
  go_loopw [7, 8] (fun r i wr => ∃ q : Nat, q ≤ L ∧ i = .int .i64 q ∧ OwnR wr w.heap.size wr.heap.size r ((Pl.tab m d fun i j => Pl.pc t i j * k).take q) ∧ Below w.heap.size w wr) (fun _ i _ => L - (intOf i).toNat)
  case atStart => exact ⟨0, Nat.zero_le _, rfl, by simpa using OwnR.none0 w, below_one _ _⟩
  case round =>
    obtain ⟨q, hq, rfl, hown, hbel⟩ := hrel
    have HB := Lib.hid hbel
    have HO := Lib.hid hown
    have hsz := hbel.size
    clear hown
    by_cases hlt : q < L
    · have hLd := HL.out
      obtain ⟨b, off, A1, c1, rfl, hb, hc, -, hri⟩ := HR.out.at q (by rw [HS.out.len]; omega)
      have e1 := (hbel.cell (p := ⟨b, off + q, none⟩) hb).trans hc
      have HA := Lib.hid (l02ScaleR_any m (d - q) k A1 c1 _ wr (HS.out.rowOk q (by omega)) (hri.below hbel) k1 k2)
      have hst : (Pl.tab m d fun i j => Pl.pc t i j * k).take (q + 1) = (Pl.tab m d fun i j => Pl.pc t i j * k).take q ++ [scaR m (d - q) (Pl.rw' t q) k] := Pl.tab_take_succ m d _ q (by omega)
      have HLEN := Lib.hid (show ((Pl.tab m d fun i j => Pl.pc t i j * k).take q).length ≤ 1000000000000 by rw [List.length_take, Pl.tab_length]; omega)
      obtain ⟨N, hN⟩ : ∃ N, (Pl.rw' t q).length = N := ⟨_, rfl⟩
      obtain ⟨row, hrow⟩ : ∃ row, scaR m (d - q) (Pl.rw' t q) k = row := ⟨_, rfl⟩
      rw [hrow] at HA hst
      rw [hN] at e1 HA
      have HST := Lib.hid hst
      have j0 : (0 : Int) ≤ (q : Int) := by omega
      have j1 : (q : Int) < (L : Int) := by omega
      clear hst hN hrow hri hc hLd hbel
      go_wp2_with fail
      refine HA.out.mono ?_
      rintro e w5 ⟨u, rfl, hou, hb5⟩
      obtain ⟨Au, cu, rfl, -⟩ := hou.form
      go_wp2_with (at_builtin; refine wp_pushU _ _ _ (by rfl) (by rfl) Try.underlying22 w.heap.size wr.heap.size _ _ (by rfl) (HO.out.keep hb5) hb5.size (.slice Au row.length cu) row (hou.more hsz) (fun g hg => (hou.lt g hg).1) w5.heap.size rfl (by rfl) HLEN.out (Nat.le_trans hsz hb5.size) ?_; intro v' w1 ho1 hpb)
      have HB1 := Lib.hid ((HB.out.trans (hb5.mono hsz)).trans hpb)
      have HO1 := Lib.hid ho1
      clear ho1 hpb hou hb5
      go_wp2
      go_roundw
      case rel => exact ⟨q + 1, by omega, by go_num, by rw [HST.out]; exact HO1.out, HB1.out⟩
      case measure => simp only [intOf]; omega
    · obtain rfl : q = L := by omega
      have ho := HO.out
      rw [HL.out, Pl.tab_take_all] at ho
      have HF := Lib.hid ho
      clear ho
      go_wp2
      go_ret
      exact ⟨_, rfl, HF.out, HB.out⟩
theorem codePN_bad {m : Int} {t : List (List Int)} (k : Int) (h : isP m t = false) : codePN m t k = 1 := by unfold codePN; rw [h]; rfl
theorem codePN_good {m : Int} {t : List (List Int)} (k : Int) (h : isP m t = true) : codePN m t k = if inB k 0 (m - 1) = true then 0 else 2 := by unfold codePN; rw [if_pos h]
end Go.Proofs.Ytlpfifdocgljnac

/- Contracts of factorTo and of the model's gap. -/
namespace Go.Proofs.Ytlpfifdocgljnac
open Go.RowKit Go.WideShapes Go.ChangeShapes Go.ChangeAt

theorem gap_tab (m : Int) (d : Nat) (t t' : List (List Int)) (k : Int) (hk : (k + 1) % m = 0) :
    (Pl.tab m d fun i j => Pl.pc t' i j + Pl.pc (Pl.tab m d fun i j => Pl.pc t i j * k) i j) = gapT m d t t' := by
  refine Pl.tab_congr (fun i j hij => ?_)
  rw [Pl.pc_tab hij, Int.add_emod, Int.emod_emod, ← Int.add_emod]
  have e : Pl.pc t' i j + Pl.pc t i j * k = (Pl.pc t' i j - Pl.pc t i j) + Pl.pc t i j * (k + 1) := by rw [Int.mul_add, Int.mul_one]; omega
  rw [e, Int.add_emod, Int.mul_emod, hk, Int.mul_zero, Int.zero_emod, Int.add_zero, Int.emod_emod]
set_option maxHeartbeats 4000000 in
set_option maxRecDepth 100000 in
theorem l07Gap_any (m : Int) (d : Nat) (A : Option Addr) (c : Nat) (t : List (List Int)) (A' : Option Addr) (c' : Nat) (t' : List (List Int)) (w : World) (ok : Pl.Ok m d t) (ok' : Pl.Ok m d t') (hr : RP w A t) (hr' : RP w A' t') :
    Calls Try.prog 32 #[.int .i64 m, .slice A t.length c, .slice A' t'.length c'] w fun e w' => ∃ v, e = .returned v ∧ OwnR w' w.heap.size w'.heap.size v (gapT m d t t') ∧ Below w.heap.size w w' := by
  have m1 := ok.m1
  have m2 := ok.m2
  have HS := Lib.hid (l03Scale_any m d (m - 1) A c t w ok hr (by omega) (by omega))
  have okS : Pl.Ok m d (Pl.tab m d fun i j => Pl.pc t i j * (m - 1)) := Pl.Ok.of_tab m1 m2 ok.d1 ok.d2 _
  have hA := fun A1 c1 W0 (h : Below w.heap.size w W0) (h1 : RP W0 A1 (Pl.tab m d fun i j => Pl.pc t i j * (m - 1))) => l03Add_any m d A' c' t' A1 c1 _ W0 ok' okS (hr'.below h) h1
  have hll : (Pl.tab m d fun i j => Pl.pc t i j * (m - 1)).length = d + 1 := Pl.tab_length _ _ _
  rw [gap_tab m d t t' (m - 1) (by rw [show m - 1 + 1 = m by omega, Int.emod_self]), hll] at hA
  have HA := Lib.hid hA
  have HLL := Lib.hid hll
  have n1 : IntKind.i64.wrap (m - 1) = m - 1 := by rw [IntKind.wrap_i64]; omega
  obtain ⟨G, hG⟩ : ∃ G, gapT m d t t' = G := ⟨_, rfl⟩
  rw [hG] at HA ⊢
  obtain ⟨T, hT⟩ : ∃ T, (Pl.tab m d fun i j => Pl.pc t i j * (m - 1)) = T := ⟨_, rfl⟩
  rw [hT] at HA HS HLL
  clear hA hll okS hr hr' ok ok' hG hT
  go_enter Try.func32, Try.ntmps32
  go_wp2_with fail
  refine HS.out.mono ?_
  rintro e w1 ⟨v, rfl, ho1, hb1⟩
  obtain ⟨A1, c1, rfl, -⟩ := ho1.len
  rw [HLL.out] at ho1 ⊢
  go_wp2_with fail
  refine (HA.out _ _ _ hb1 ho1.rp).mono ?_
  rintro e w2 ⟨v, rfl, ho2, hb2⟩
  have hB := below_step hb1 hb2
  have HO := Lib.hid (ho2.low hb1.size)
  have HB := Lib.hid hB
  clear ho1 ho2 hb1 hb2 hB
  go_wp2
  go_ret
  exact ⟨_, rfl, HO.out, HB.out⟩
end Go.Proofs.Ytlpfifdocgljnac

/- Contract of factorTo. -/
namespace Go.Proofs.Ytlpfifdocgljnac
open Go.RowKit Go.WideShapes Go.ChangeShapes Go.ChangeAt

set_option maxHeartbeats 8000000 in
set_option maxRecDepth 100000 in
theorem factorTo_any (m : Int) (d : Nat) (A : Option Addr) (c : Nat) (t : List (List Int)) (A' : Option Addr) (c' : Nat) (t' : List (List Int)) (w : World) (d2 : 2 ≤ d) (ok : Pl.Ok m d t) (ok' : Pl.Ok m d t') (hr : RP w A t) (hr' : RP w A' t') :
    Calls Try.prog 37 #[.agg #[.int .i64 m, .int .i64 d, .slice A t.length c], .agg #[.int .i64 m, .int .i64 d, .slice A' t'.length c']] w fun e w' => e = .returned (.int .i64 (Cyc.facM m (layC m (gapT m d t t') d) d)) ∧ Below w.heap.size w w' := by
  obtain ⟨W, hW, b1, b2, -, hwb⟩ := (⟨_, rfl, (GBox.new 60 w m d A t.length c).keep (below_one _ _), by have := GBox.new 60 (w.alloc (.cells #[.int .i64 m, .int .i64 d, .slice A t.length c] 60)) m d A' t'.length c'; simpa using this, trivial, below_alloc _ (below_one _ _)⟩ :
    ∃ W, (w.alloc (.cells #[.int .i64 m, .int .i64 d, .slice A t.length c] 60)).alloc (.cells #[.int .i64 m, .int .i64 d, .slice A' t'.length c'] 60) = W ∧ GBox W w.heap.size m d A t.length c ∧ GBox W (w.heap.size + 1) m d A' t'.length c' ∧ True ∧ Below w.heap.size w W)
  have m1 := ok.m1
  have m2 := ok.m2
  have hd2 := ok.d2
  have okg : Pl.Ok m d (gapT m d t t') := Pl.Ok.of_tab m1 m2 (by omega) hd2 _
  have HSC := Lib.hid (fun W0 (h : Below W.heap.size W W0) => gscaled_any m d A c t (-1) W0 ok ((hr.below hwb).below h) (by omega) (by omega))
  have hpl := fun A1 c1 W0 (h : Below W.heap.size W W0) (h1 : RP W0 A1 (Pl.tab m d fun i j => Pl.pc t i j * -1)) => gplus_any m d A' c' t' A1 c1 _ W0 ok' (ok.tab _) ((hr'.below hwb).below h) h1
  have hl1 : (Pl.tab m d fun i j => Pl.pc t i j * -1).length = d + 1 := Pl.tab_length _ _ _
  rw [gap_tab m d t t' (-1) (by rfl), hl1] at hpl
  have hl2 : (gapT m d t t').length = d + 1 := Pl.tab_length _ _ _
  have hly := fun A1 c1 W0 (h : RP W0 A1 (gapT m d t t')) => layer_any m d A1 c1 (gapT m d t t') d W0 okg h (Nat.le_refl _)
  rw [hl2] at hly
  have hll := layC_length m (gapT m d t t') d
  have hlb : ∀ i, 0 ≤ Ser.co (layC m (gapT m d t t') d) i ∧ Ser.co (layC m (gapT m d t t') d) i < m := fun i => by
    by_cases hi : i ≤ d
    · rw [layC_co okg d i hi]; exact okg.pc i (d - i)
    · rw [Ser.co_over (by rw [hll]; omega)]; omega
  have hfo := fun A1 c1 W0 (h : RI W0 A1 (layC m (gapT m d t t') d)) => factorOfLayer_any m d A1 c1 (layC m (gapT m d t t') d) W0 m1 m2 d2 hd2 hll hlb h
  rw [hll] at hfo
  obtain ⟨G, hG⟩ : ∃ G, gapT m d t t' = G := ⟨_, rfl⟩
  rw [hG] at hly hll hfo hpl hl2 ⊢
  obtain ⟨C, hC⟩ : ∃ C, layC m G d = C := ⟨_, rfl⟩
  rw [hC] at hly hfo hll ⊢
  obtain ⟨X, hX⟩ : ∃ X, Cyc.facM m C d = X := ⟨_, rfl⟩
  rw [hX] at hfo ⊢
  obtain ⟨T, hT⟩ : ∃ T, (Pl.tab m d fun i j => Pl.pc t i j * -1) = T := ⟨_, rfl⟩
  rw [hT] at hpl HSC hl1
  have HPL := Lib.hid hpl
  have HLY := Lib.hid hly
  have HFO := Lib.hid hfo
  have HL1 := Lib.hid hl1
  have HL2 := Lib.hid hl2
  have HLL := Lib.hid hll
  have HB := Lib.hid hwb
  have HW := Lib.hid hW
  have hn1 : IntKind.i64.wrap (-1) = -1 := by decide
  have HF := Lib.hid (fun w' (h : Below W.heap.size W w') => (⟨⟨(b1.keep h).1, (b1.keep h).2.1, (b1.keep h).2.2.1⟩, (b2.keep h).1, (b2.keep h).2.1, (b2.keep h).2.2.1⟩ :
    (w'.cell? ⟨w.heap.size, 0, none⟩ = some (.int .i64 m) ∧ w'.cell? ⟨w.heap.size, 1, none⟩ = some (.int .i64 d) ∧ w'.cell? ⟨w.heap.size, 2, none⟩ = some (.slice A t.length c)) ∧
    (w'.cell? ⟨w.heap.size + 1, 0, none⟩ = some (.int .i64 m) ∧ w'.cell? ⟨w.heap.size + 1, 1, none⟩ = some (.int .i64 d) ∧ w'.cell? ⟨w.heap.size + 1, 2, none⟩ = some (.slice A' t'.length c'))))
  obtain ⟨L, hL⟩ : ∃ L, t.length = L := ⟨_, rfl⟩
  obtain ⟨L', hL'⟩ : ∃ L, t'.length = L := ⟨_, rfl⟩
  rw [hL] at HSC HW HF ⊢
  rw [hL'] at HPL HW HF ⊢
  have X0 := Lib.hid (keepW HF.out (below_drew0 W))
  have HW0 := Lib.hid (below_drew0 W)
  clear b1 b2 hwb hW hr hr' ok ok' okg hpl hl1 hl2 hly hll hlb hfo hG hC hX hT hL hL'
  go_enter Try.func37, Try.ntmps37
  go_wp2_with fail
  rw [HW.out]
  go_region_held3 (fun w' => ((w'.cell? ⟨w.heap.size, 0, none⟩ = some (.int .i64 m) ∧ w'.cell? ⟨w.heap.size, 1, none⟩ = some (.int .i64 d) ∧ w'.cell? ⟨w.heap.size, 2, none⟩ = some (.slice A L c)) ∧
    (w'.cell? ⟨w.heap.size + 1, 0, none⟩ = some (.int .i64 m) ∧ w'.cell? ⟨w.heap.size + 1, 1, none⟩ = some (.int .i64 d) ∧ w'.cell? ⟨w.heap.size + 1, 2, none⟩ = some (.slice A' L' c'))) ∧ Below W.heap.size W w') (first | exact X0.out | exact keepS HF.out (Nat.le_refl _) (by assumption) hb9 | exact keepS HF.out (Nat.le_refl _) (by assumption) hb8 | exact keepS HF.out (Nat.le_refl _) (by assumption) hb7 | exact keepS HF.out (Nat.le_refl _) (by assumption) hb6) (first
    | (go_at_call 64; with_reducible refine Calls.mono (HSC.out _ HW0.out) ?_; rintro e w6 ⟨s6, rfl, ho6, hb6⟩; obtain ⟨A6, c6, rfl, -⟩ := ho6.len; have hq := below_step HW0.out hb6; rw [HL1.out])
    | (go_at_call 63; with_reducible refine Calls.mono (HPL.out _ _ _ hq ho6.rp) ?_; rintro e w7 ⟨s7, rfl, ho7, hb7⟩; obtain ⟨A7, c7, rfl, -⟩ := ho7.len; have hq := below_step hq hb7; rw [HL2.out])
    | (go_at_call 55; with_reducible refine Calls.mono (HLY.out _ _ _ ho7.rp) ?_; rintro e w8 ⟨s8, rfl, ho8, hb8⟩; obtain ⟨A8, c8, rfl, hri⟩ := ho8.form; have hq := below_step hq hb8; rw [HLL.out])
    | (go_at_call 54; with_reducible refine Calls.mono (HFO.out _ _ _ hri) ?_; rintro e w9 ⟨rfl, hb9⟩; have hq := below_step hq hb9))
  all_goals
    have HB9 := Lib.hid (below_step HB.out hq)
    clear hq
    go_wp2
    go_ret
    exact ⟨rfl, HB9.out⟩
end Go.Proofs.Ytlpfifdocgljnac

/- Contracts of AgreementOf, of the program and of the model. -/
namespace Go.Proofs.Ytlpfifdocgljnac
open Go.RowKit Go.WideShapes Go.ChangeShapes Go.ChangeAt

/-- two grids' boxes and the way from W, in the walk's form, are kept by a call -/
theorem gg_keep {W w w' : World} {g g' : Nat} {x y z x' y' z' : Value} (hb : Below w.heap.size w w')
    (h : (w.cell? ⟨g, 0, none⟩ = some x ∧ w.cell? ⟨g, 1, none⟩ = some y ∧ w.cell? ⟨g, 2, none⟩ = some z ∧ g < w.heap.size) ∧ (w.cell? ⟨g', 0, none⟩ = some x' ∧ w.cell? ⟨g', 1, none⟩ = some y' ∧ w.cell? ⟨g', 2, none⟩ = some z' ∧ g' < w.heap.size) ∧ Below W.heap.size W w) :
    (w'.cell? ⟨g, 0, none⟩ = some x ∧ w'.cell? ⟨g, 1, none⟩ = some y ∧ w'.cell? ⟨g, 2, none⟩ = some z ∧ g < w'.heap.size) ∧ (w'.cell? ⟨g', 0, none⟩ = some x' ∧ w'.cell? ⟨g', 1, none⟩ = some y' ∧ w'.cell? ⟨g', 2, none⟩ = some z' ∧ g' < w'.heap.size) ∧ Below W.heap.size W w' :=
  ⟨gb_keep hb h.1, gb_keep hb h.2.1, below_step h.2.2 hb⟩
set_option maxHeartbeats 8000000 in
set_option maxRecDepth 100000 in
theorem agreement_any (m : Int) (d : Nat) (A : Option Addr) (c : Nat) (t : List (List Int)) (A' : Option Addr) (c' : Nat) (t' : List (List Int)) (w : World) (hs : Pl.Ok m d t) (hs' : Pl.Ok m d t') (h1 : eqL m t t' 1 = true) (hr : RP w A t) (hr' : RP w A' t') :
    Calls Try.prog 36 #[.agg #[.int .i64 m, .int .i64 d, .slice A t.length c], .agg #[.int .i64 m, .int .i64 d, .slice A' t'.length c']] w fun e w' => e = .returned (.int .i64 (agr (eqL m t t') d 0 : Nat)) ∧ Below w.heap.size w w' := by
  obtain ⟨W, hW, b1, b2, -, hwb⟩ := (⟨_, rfl, (GBox.new 60 w m d A t.length c).keep (below_one _ _), by have := GBox.new 60 (w.alloc (.cells #[.int .i64 m, .int .i64 d, .slice A t.length c] 60)) m d A' t'.length c'; simpa using this, trivial, below_alloc _ (below_one _ _)⟩ :
    ∃ W, (w.alloc (.cells #[.int .i64 m, .int .i64 d, .slice A t.length c] 60)).alloc (.cells #[.int .i64 m, .int .i64 d, .slice A' t'.length c'] 60) = W ∧ GBox W w.heap.size m d A t.length c ∧ GBox W (w.heap.size + 1) m d A' t'.length c' ∧ True ∧ Below w.heap.size w W)
  have B1 := Lib.hid b1
  have B2 := Lib.hid b2
  have HB := Lib.hid hwb
  have HW := Lib.hid hW
  have hd1 := hs.d1
  have hd2 := hs.d2
  have HLF := Lib.hid (fun (n : Nat) (W0 : World) (hn : n ≤ d) (h : Below W.heap.size W W0) => layer_any m d A c t n W0 hs ((hr.below hwb).below h) hn)
  have HLG := Lib.hid (fun (n : Nat) (W0 : World) (hn : n ≤ d) (h : Below W.heap.size W W0) => layer_any m d A' c' t' n W0 hs' ((hr'.below hwb).below h) hn)
  obtain ⟨o, ho⟩ : ∃ o, agr (eqL m t t') d 0 = o := ⟨_, rfl⟩
  have HO := Lib.hid (agr_go (d := d) (k := 0) (by omega) ho h1)
  rw [ho]
  obtain ⟨L, hL⟩ : ∃ L, t.length = L := ⟨_, rfl⟩
  rw [hL] at B1 HW HLF ⊢
  obtain ⟨L', hL'⟩ : ∃ L, t'.length = L := ⟨_, rfl⟩
  rw [hL'] at B2 HW HLG ⊢
  clear b1 b2 hwb hW hr hr' hs hs' hL hL' ho h1
  go_enter Try.func36, Try.ntmps36
  go_wp2
  rw [HW.out]
  go_loopw [5] (fun s5 wr => ∃ k : Nat, k ≤ d ∧ 1 ≤ k ∧ s5 = .int .i64 k ∧ agr (eqL m t t') (d - k) k = o ∧ Below W.heap.size W wr) (fun s5 _ => d + 2 - (intOf s5).toNat)
  case atStart => exact ⟨1, hd1, Nat.le_refl _, rfl, HO.out, Below.refl _ _⟩
  case round =>
    clear HO
    obtain ⟨k, hk, hk1, rfl, hag, hbel⟩ := hrel
    have HBE := Lib.hid hbel
    obtain ⟨x1, x2, x3, x4⟩ := B1.out.keep hbel
    obtain ⟨y1, y2, y3, y4⟩ := B2.out.keep hbel
    by_cases hlt : k < d
    · have HAG := Lib.hid hag
      have hf := fun (W0 : World) (h : Below W.heap.size W W0) => HLF.out (k + 1) W0 (by omega) h
      have hg := fun (W0 : World) (h : Below W.heap.size W W0) => HLG.out (k + 1) W0 (by omega) h
      rw [show ((k + 1 : Nat) : Int) = (k : Int) + 1 by omega] at hf hg
      have HF := Lib.hid hf
      have HG := Lib.hid hg
      have HEQ := Lib.hid (fun (Aa : Option Addr) (ca : Nat) (Ab : Option Addr) (cb : Nat) (W0 : World) (h : RI W0 Aa (layC m t (k + 1))) (h' : RI W0 Ab (layC m t' (k + 1))) =>
        eqS_any Aa ca (layC m t (k + 1)) Ab cb (layC m t' (k + 1)) W0 (by rw [layC_length]; omega) h h')
      obtain ⟨e, he⟩ : ∃ e, eqL m t t' (k + 1) = e := ⟨_, rfl⟩
      rw [show decide (layC m t (k + 1) = layC m t' (k + 1)) = e from he] at HEQ
      have HE := Lib.hid he
      obtain ⟨P1, hP1⟩ : ∃ P, layC m t (k + 1) = P := ⟨_, rfl⟩
      obtain ⟨P2, hP2⟩ : ∃ P, layC m t' (k + 1) = P := ⟨_, rfl⟩
      rw [hP1] at HF HEQ
      rw [hP2] at HG HEQ
      have j1 : (k : Int) < (d : Int) := by omega
      have hw1 : IntKind.i64.wrap ((k : Int) + 1) = (k : Int) + 1 := by rw [IntKind.wrap_i64]; omega
      have X0 := Lib.hid (gg_keep (below_drew0 wr) ⟨⟨x1, x2, x3, x4⟩, ⟨y1, y2, y3, y4⟩, hbel⟩)
      clear hf hg he hP1 hP2 hag hbel x1 x2 x3 x4 y1 y2 y3 y4
      cases e with
      | true =>
        have HR := Lib.hid (agr_go hlt HAG.out HE.out)
        go_wp2
        go_region_held3 (fun w' => (w'.cell? ⟨w.heap.size, 0, none⟩ = some (.int .i64 m) ∧ w'.cell? ⟨w.heap.size, 1, none⟩ = some (.int .i64 d) ∧ w'.cell? ⟨w.heap.size, 2, none⟩ = some (.slice A L c) ∧ w.heap.size < w'.heap.size) ∧ (w'.cell? ⟨w.heap.size + 1, 0, none⟩ = some (.int .i64 m) ∧ w'.cell? ⟨w.heap.size + 1, 1, none⟩ = some (.int .i64 d) ∧ w'.cell? ⟨w.heap.size + 1, 2, none⟩ = some (.slice A' L' c') ∧ w.heap.size + 1 < w'.heap.size) ∧ Below W.heap.size W w') (first | exact X0.out | exact gg_keep hbc (by assumption) | exact gg_keep hbb (by assumption) | exact gg_keep hba (by assumption)) (first
          | (go_at_call 55; with_reducible refine Calls.mono (HF.out _ (thr3 (by assumption))) ?_; rintro e wa ⟨va, rfl, oa, hba⟩; obtain ⟨Aa, ca, rfl, -⟩ := oa.form; have ra := oa.ri)
          | (go_at_call 55; with_reducible refine Calls.mono (HG.out _ (thr3 (by assumption))) ?_; rintro e wb ⟨vb, rfl, ob, hbb⟩; obtain ⟨Ab, cb, rfl, -⟩ := ob.form; have rb := ob.ri)
          | (go_at_call 62; with_reducible refine Calls.mono (HEQ.out _ _ _ _ _ (by first | exact ra | exact ra.below hbb) (by first | exact rb | exact rb.below hba)) ?_; rintro e wc ⟨rfl, hbc⟩))
        all_goals
          have HB9 := Lib.hid (show Below W.heap.size W wc from thr3 (by assumption))
          clear ra rb oa ob hba hbb hbc
          go_wp2
          go_roundw
          case rel => exact ⟨k + 1, by omega, by omega, by go_num, HR.out, HB9.out⟩
          case measure => simp only [intOf]; omega
      | false =>
        have HR : Hid (o = k) := Lib.hid (agr_no hlt HAG.out HE.out)
        go_wp2
        go_region_held3 (fun w' => (w'.cell? ⟨w.heap.size, 0, none⟩ = some (.int .i64 m) ∧ w'.cell? ⟨w.heap.size, 1, none⟩ = some (.int .i64 d) ∧ w'.cell? ⟨w.heap.size, 2, none⟩ = some (.slice A L c) ∧ w.heap.size < w'.heap.size) ∧ (w'.cell? ⟨w.heap.size + 1, 0, none⟩ = some (.int .i64 m) ∧ w'.cell? ⟨w.heap.size + 1, 1, none⟩ = some (.int .i64 d) ∧ w'.cell? ⟨w.heap.size + 1, 2, none⟩ = some (.slice A' L' c') ∧ w.heap.size + 1 < w'.heap.size) ∧ Below W.heap.size W w') (first | exact X0.out | exact gg_keep hbc (by assumption) | exact gg_keep hbb (by assumption) | exact gg_keep hba (by assumption)) (first
          | (go_at_call 55; with_reducible refine Calls.mono (HF.out _ (thr3 (by assumption))) ?_; rintro e wa ⟨va, rfl, oa, hba⟩; obtain ⟨Aa, ca, rfl, -⟩ := oa.form; have ra := oa.ri)
          | (go_at_call 55; with_reducible refine Calls.mono (HG.out _ (thr3 (by assumption))) ?_; rintro e wb ⟨vb, rfl, ob, hbb⟩; obtain ⟨Ab, cb, rfl, -⟩ := ob.form; have rb := ob.ri)
          | (go_at_call 62; with_reducible refine Calls.mono (HEQ.out _ _ _ _ _ (by first | exact ra | exact ra.below hbb) (by first | exact rb | exact rb.below hba)) ?_; rintro e wc ⟨rfl, hbc⟩))
        all_goals
          have HB9 := Lib.hid (show Below W.heap.size W wc from thr3 (by assumption))
          clear ra rb oa ob hba hbb hbc
          go_wp2
          go_ret
          exact ⟨ret_int (by rw [HR.out]), below_step HB.out HB9.out⟩
    · obtain rfl : k = d := by omega
      rw [Nat.sub_self] at hag
      have HR : Hid (o = k) := Lib.hid (show o = k from hag.symm)
      clear hag hbel
      go_wp2
      go_quiet (fail)
      go_wp2
      go_ret
      exact ⟨ret_int (by rw [HR.out]), below_drewN (below_step HB.out HBE.out) _⟩
end Go.Proofs.Ytlpfifdocgljnac

/- Contracts of AgreementOf, of the program and of the model. -/
namespace Go.Proofs.Ytlpfifdocgljnac
open Go.RowKit Go.WideShapes Go.ChangeShapes Go.ChangeAt

theorem codeL2_ok {m : Int} {t : List (List Int)} {m' : Int} {t' : List (List Int)} (h : codeL2 m t m' t' = 0) :
    m = m' ∧ ∃ d, t.length = d + 1 ∧ t'.length = d + 1 ∧ Pl.Ok m d t ∧ Pl.Ok m d t' ∧ eqL m t t' 1 = true := by
  unfold codeL2 at h
  by_cases h1 : isL m t = true ∧ isL m' t' = true
  · rw [if_pos h1] at h
    by_cases h2 : m = m' ∧ t.length = t'.length
    · obtain ⟨rfl, h3⟩ := h2
      obtain ⟨_, d, e, ok, hf⟩ := isL_of h1.1
      obtain ⟨_, d', e', ok', hf'⟩ := isL_of h1.2
      obtain rfl : d' = d := by omega
      exact ⟨rfl, d', e, e', ok, ok', law_one ok ok' hf hf'⟩
    · rw [if_neg h2] at h; exact absurd h (by decide)
  · rw [if_neg h1] at h; exact absurd h (by decide)
/-- the model of AgreementOf -/
def agrL (m : Int) (t : List (List Int)) (m' : Int) (t' : List (List Int)) : Int × Int := if codeL2 m t m' t' = 0 then (((agr (eqL m t t') (t.length - 1) 0 : Nat) : Int), 0) else (0, codeL2 m t m' t')
/-- two planes' boxes and the list of both -/
theorem proTT (w : World) (m : Int) (A : Option Addr) (n c : Nat) (m' : Int) (A' : Option Addr) (n' c' : Nat) : ∃ W, ((w.alloc (.cells #[.int .i64 m, .slice A n c] 27)).alloc (.cells #[.int .i64 m', .slice A' n' c'] 27)).alloc (.cells #[.int .i64 m, .slice A n c, .int .i64 m', .slice A' n' c'] 27) = W ∧
    Box W w.heap.size m A n c ∧ Box W (w.heap.size + 1) m' A' n' c' ∧ Box4 W (w.heap.size + 1 + 1) m A n c m' A' n' c' ∧ Below w.heap.size w W := by
  obtain ⟨W0, h0, h1, h2, h4⟩ := start2 27 w m A n c m' A' n' c'
  have hs : W0.heap.size = w.heap.size + 1 + 1 := by rw [← h0]; simp
  rw [h0]
  refine ⟨_, rfl, h1.keep (below_one _ _), h2.keep (below_one _ _), ?_, below_alloc _ h4⟩
  have hv := VarC.new 27 W0 #[.int .i64 m, .slice A n c, .int .i64 m', .slice A' n' c']
  rw [hs] at hv
  exact ⟨⟨hv.cell 0 _ rfl, hv.cell 1 _ rfl, hv.lt⟩, hv.cell 2 _ rfl, hv.cell 3 _ rfl⟩
/-- two planes' boxes and the way from W, in the walk's form, are kept by a call -/
theorem bb_keep {W w w' : World} {g g' : Nat} {x y x' y' : Value} (hb : Below w.heap.size w w')
    (h : (w.cell? ⟨g, 0, none⟩ = some x ∧ w.cell? ⟨g, 1, none⟩ = some y ∧ g < w.heap.size) ∧ (w.cell? ⟨g', 0, none⟩ = some x' ∧ w.cell? ⟨g', 1, none⟩ = some y' ∧ g' < w.heap.size) ∧ Below W.heap.size W w) :
    (w'.cell? ⟨g, 0, none⟩ = some x ∧ w'.cell? ⟨g, 1, none⟩ = some y ∧ g < w'.heap.size) ∧ (w'.cell? ⟨g', 0, none⟩ = some x' ∧ w'.cell? ⟨g', 1, none⟩ = some y' ∧ g' < w'.heap.size) ∧ Below W.heap.size W w' :=
  ⟨⟨(hb.cell (p := ⟨g, 0, none⟩) h.1.2.2).trans h.1.1, (hb.cell (p := ⟨g, 1, none⟩) h.1.2.2).trans h.1.2.1, Nat.lt_of_lt_of_le h.1.2.2 hb.size⟩,
   ⟨(hb.cell (p := ⟨g', 0, none⟩) h.2.1.2.2).trans h.2.1.1, (hb.cell (p := ⟨g', 1, none⟩) h.2.1.2.2).trans h.2.1.2.1, Nat.lt_of_lt_of_le h.2.1.2.2 hb.size⟩, below_step h.2.2 hb⟩
/-! the model -/
set_option maxHeartbeats 8000000 in
set_option maxRecDepth 100000 in
theorem l04Two_any (m : Int) (A : Option Addr) (c : Nat) (t : List (List Int)) (m' : Int) (A' : Option Addr) (c' : Nat) (t' : List (List Int)) (w : World) (hz : szT t ≤ 1048576) (hz' : szT t' ≤ 1048576) (hr : RP w A t) (hr' : RP w A' t') :
    Calls Try.prog 29 #[.agg #[.int .i64 m, .slice A t.length c], .agg #[.int .i64 m', .slice A' t'.length c']] w fun e w' => e = .returned (.int .i64 (codeL2 m t m' t')) ∧ Below w.heap.size w w' := by
  obtain ⟨W, hW, b1, b2, hwb⟩ := start2 27 w m A t.length c m' A' t'.length c'
  have B1 := Lib.hid b1
  have B2 := Lib.hid b2
  have HB := Lib.hid hwb
  have HW := Lib.hid hW
  have HI := Lib.hid (fun W0 (h : Below W.heap.size W W0) => l04Is_any m A c t W0 hz ((hr.below hwb).below h))
  have HI' := Lib.hid (fun W0 (h : Below W.heap.size W W0) => l04Is_any m' A' c' t' W0 hz' ((hr'.below hwb).below h))
  have hlb := lenT hz
  have hlb' := lenT hz'
  unfold codeL2
  obtain ⟨p, hp⟩ : ∃ p, isL m t = p := ⟨_, rfl⟩
  obtain ⟨q, hq⟩ : ∃ q, isL m' t' = q := ⟨_, rfl⟩
  rw [hp] at HI ⊢
  rw [hq] at HI' ⊢
  obtain ⟨L, hL⟩ : ∃ L, t.length = L := ⟨_, rfl⟩
  obtain ⟨L', hL'⟩ : ∃ L, t'.length = L := ⟨_, rfl⟩
  rw [hL] at HI HW B1 hlb ⊢
  rw [hL'] at HI' HW B2 hlb' ⊢
  clear b1 b2 hwb hW hr hr' hz hz' hp hq hL hL'
  cases p with
  | false =>
    rw [if_neg (fun h => absurd h.1 (by decide))]
    go_enter Try.func29, Try.ntmps29
    go_wp2_with fail
    rw [HW.out]
    refine (HI.out _ (Below.refl _ _)).mono ?_
    rintro e w1 ⟨rfl, hb1⟩
    have HB1 := Lib.hid (below_step HB.out hb1)
    clear hb1
    go_wp2
    go_ret
    exact ⟨rfl, HB1.out⟩
  | true =>
    cases q with
    | false =>
      rw [if_neg (fun h => absurd h.2 (by decide))]
      go_enter Try.func29, Try.ntmps29
      go_wp2_with fail
      rw [HW.out]
      refine (HI.out _ (Below.refl _ _)).mono ?_
      rintro e w1 ⟨rfl, hb1⟩
      obtain ⟨y1, y2, -⟩ := B2.out.keep hb1
      go_wp2_with fail
      refine (HI'.out _ hb1).mono ?_
      rintro e w2 ⟨rfl, hb2⟩
      have HB1 := Lib.hid (below_step HB.out (below_step hb1 hb2))
      clear hb1 hb2 y1 y2
      go_wp2
      go_ret
      exact ⟨rfl, HB1.out⟩
    | true =>
      rw [if_pos ⟨rfl, rfl⟩]
      obtain ⟨R, hR⟩ : ∃ R, (if m = m' ∧ L = L' then (0 : Int) else 2) = R := ⟨_, rfl⟩
      rw [hR]
      go_enter Try.func29, Try.ntmps29
      go_wp2_with fail
      rw [HW.out]
      refine (HI.out _ (Below.refl _ _)).mono ?_
      rintro e w1 ⟨rfl, hb1⟩
      obtain ⟨y1, y2, -⟩ := B2.out.keep hb1
      go_wp2_with fail
      refine (HI'.out _ hb1).mono ?_
      rintro e w2 ⟨rfl, hb2⟩
      have hb3 := below_step hb1 hb2
      clear y1 y2
      obtain ⟨x1, x2, -⟩ := B1.out.keep hb3
      obtain ⟨y1, y2, -⟩ := B2.out.keep hb3
      have HB1 := Lib.hid (below_step HB.out hb3)
      clear hb1 hb2 hb3
      by_cases hm : m = m'
      · subst hm
        by_cases hd : L = L'
        · subst hd
          have HR : Hid (R = 0) := Lib.hid (by rw [← hR, if_pos ⟨rfl, rfl⟩])
          clear hR
          go_wp2
          go_ret
          exact ⟨ret_int HR.out.symm, HB1.out⟩
        · have HR : Hid (R = 2) := Lib.hid (by rw [← hR, if_neg (fun h => hd h.2)])
          have hi : ¬ (L : Int) = (L' : Int) := by omega
          obtain ⟨n1, n2⟩ : ((L : Int) == (L' : Int)) = false ∧ ((L : Int) != (L' : Int)) = true := ⟨by simpa using hi, by simpa using hi⟩
          clear hR hd
          go_wp2
          go_ret
          exact ⟨ret_int HR.out.symm, HB1.out⟩
      · have HR : Hid (R = 2) := Lib.hid (by rw [← hR, if_neg (fun h => hm h.1)])
        obtain ⟨n1, n2⟩ : (m == m') = false ∧ (m != m') = true := ⟨by simpa using hm, by simpa using hm⟩
        clear hR
        go_wp2
        go_ret
        exact ⟨ret_int HR.out.symm, HB1.out⟩
end Go.Proofs.Ytlpfifdocgljnac

/- Contract of ExtensionFactor of the program. -/
namespace Go.Proofs.Ytlpfifdocgljnac
open Go.RowKit Go.WideShapes Go.ChangeShapes Go.ChangeAt

/-- the model of ExtensionFactor -/
def extE (m : Int) (t : List (List Int)) (m' : Int) (t' : List (List Int)) : Int × Int :=
  if codeL2 m t m' t' = 0 then (if t.length - 1 = 1 then (0, 2) else if agr (eqL m t t') (t.length - 1) 0 < t.length - 1 - 1 then (0, 5) else (Cyc.facM m (layC m (gapT m (t.length - 1) t t') (t.length - 1)) (t.length - 1), 0)) else (0, codeL2 m t m' t')
set_option maxHeartbeats 8000000 in
set_option maxRecDepth 100000 in
theorem ExtensionFactor_any (m : Int) (A : Option Addr) (c : Nat) (t : List (List Int)) (m' : Int) (A' : Option Addr) (c' : Nat) (t' : List (List Int)) (w : World) (hz : szT t ≤ 1048576) (hz' : szT t' ≤ 1048576) (hr : RP w A t) (hr' : RP w A' t') :
    Calls Try.prog 15 #[.agg #[.int .i64 m, .slice A t.length c], .agg #[.int .i64 m', .slice A' t'.length c']] w fun e w' => e = .returned (.tuple #[.int .i64 (extE m t m' t').1, .int .i64 (extE m t m' t').2]) ∧ Below w.heap.size w w' := by
  obtain ⟨W, hW, b1, b2, b4, hwb⟩ := proTT w m A t.length c m' A' t'.length c'
  have B1 := Lib.hid b1
  have B2 := Lib.hid b2
  have HB := Lib.hid hwb
  have HW := Lib.hid hW
  have hc := codeL2_any (w.heap.size + 1 + 1) m A c t m' A' c' t' W hz hz' (hr.below hwb) (hr'.below hwb) b4
  have hfd := field_frame
  have hfd2 := cyc_fdeg
  by_cases h0 : codeL2 m t m' t' = 0
  · obtain ⟨rfl, d, e1, e2, ok, ok', h1⟩ := codeL2_ok h0
    rw [h0] at hc
    have HC0 := Lib.hid hc
    have hd1 := ok.d1
    have hd2 := ok.d2
    have hE : extE m t m t' = if d = 1 then (0, 2) else if agr (eqL m t t') d 0 < d - 1 then (0, 5) else (Cyc.facM m (layC m (gapT m d t t') d) d, 0) := by
      unfold extE
      rw [if_pos h0, e1]; rfl
    have HG := Lib.hid (fun W0 => gridOf_nat m A t.length c d W0 e1 (by omega))
    have HL1 := Lib.hid (fun W0 => lawOf_nat m A t.length c d W0 e1 (by omega))
    have HL2 := Lib.hid (fun W0 => lawOf_nat m A' t'.length c' d W0 e2 (by omega))
    have HAG := Lib.hid (fun W0 (h : Below W.heap.size W W0) => agreement_any m d A c t A' c' t' W0 ok ok' h1 ((hr.below hwb).below h) ((hr'.below hwb).below h))
    by_cases hd : d = 1
    · rw [if_pos hd] at hE
      have HA := Lib.hid hE
      rw [HA.out]
      subst hd
      obtain ⟨L, hL⟩ : ∃ L, t.length = L := ⟨_, rfl⟩
      obtain ⟨L', hL'⟩ : ∃ L, t'.length = L := ⟨_, rfl⟩
      rw [hL] at HG HW B1 ⊢
      rw [hL'] at HW B2 ⊢
      clear b1 b2 b4 hwb hW hr hr' hc h0 ok ok' e1 e2 hz hz' h1 hL hL' HA HAG HL1 HL2 hE
      go_enter Try.func15, Try.ntmps15
      go_wp2_with fail
      rw [HW.out]
      refine HC0.out.mono ?_
      rintro e w1 ⟨rfl, hb1⟩
      obtain ⟨x1, x2, -⟩ := B1.out.keep hb1
      go_wp2_with fail
      refine (HG.out _).mono ?_
      rintro e w2 ⟨rfl, hb2⟩
      have HB9 := Lib.hid (below_step HB.out (below_step hb1 hb2))
      clear hb1 hb2 x1 x2
      go_wp2
      go_ret2
      exact ⟨rfl, HB9.out⟩
    · rw [if_neg hd] at hE
      have i1 : ¬ (d : Int) = 1 := by omega
      obtain ⟨k1, k2⟩ : ((d : Int) == 1) = false ∧ ((d : Int) != 1) = true := ⟨by simpa using i1, by simpa using i1⟩
      have hob := (agr_le (eqL m t t') d 0).2
      have HFT := Lib.hid (fun W0 (h : Below W.heap.size W W0) => factorTo_any m d A c t A' c' t' W0 (by omega) ok ok' ((hr.below hwb).below h) ((hr'.below hwb).below h))
      obtain ⟨o, ho⟩ : ∃ o, agr (eqL m t t') d 0 = o := ⟨_, rfl⟩
      obtain ⟨X, hX⟩ : ∃ X, Cyc.facM m (layC m (gapT m d t t') d) d = X := ⟨_, rfl⟩
      rw [ho] at HAG hE hob
      rw [hX] at HFT hE
      obtain ⟨L, hL⟩ : ∃ L, t.length = L := ⟨_, rfl⟩
      obtain ⟨L', hL'⟩ : ∃ L, t'.length = L := ⟨_, rfl⟩
      rw [hL] at HG HL1 HAG HW B1 HFT ⊢
      rw [hL'] at HL2 HAG HW B2 HFT ⊢
      have HA := Lib.hid hE
      rw [HA.out]
      have i2 : IntKind.i64.wrap ((d : Int) - 1) = (d : Int) - 1 := by rw [IntKind.wrap_i64]; omega
      clear b1 b2 b4 hwb hW hr hr' hc h0 ok ok' e1 e2 hz hz' h1 ho hX hL hL' HA hE
      by_cases hlt : o < d - 1
      · rw [if_pos hlt]
        have i3 : (o : Int) < (d : Int) - 1 := by omega
        go_enter Try.func15, Try.ntmps15
        go_wp2_with fail
        rw [HW.out]
        refine HC0.out.mono ?_
        rintro e w1 ⟨rfl, hb1⟩
        obtain ⟨x1, x2, -⟩ := B1.out.keep hb1
        go_wp2_with fail
        refine (HG.out _).mono ?_
        rintro e w2 ⟨rfl, hb2⟩
        have hb12 := below_step hb1 hb2
        have X0 := Lib.hid (bb_keep (below_drew0 w2) ⟨B1.out.keep hb12, B2.out.keep hb12, hb12⟩)
        clear hb1 hb2 hb12 x1 x2
        go_wp2
        go_region_held3 (fun w' => (w'.cell? ⟨w.heap.size, 0, none⟩ = some (.int .i64 m) ∧ w'.cell? ⟨w.heap.size, 1, none⟩ = some (.slice A L c) ∧ w.heap.size < w'.heap.size) ∧ (w'.cell? ⟨w.heap.size + 1, 0, none⟩ = some (.int .i64 m) ∧ w'.cell? ⟨w.heap.size + 1, 1, none⟩ = some (.slice A' L' c') ∧ w.heap.size + 1 < w'.heap.size) ∧ Below W.heap.size W w') (first | exact X0.out | exact bb_keep hbc (by assumption) | exact bb_keep hbb (by assumption) | exact bb_keep hba (by assumption)) (first
          | (go_at_call 35; with_reducible refine Calls.mono (HL1.out _) ?_; rintro e wa ⟨rfl, hba⟩)
          | (go_at_call 35; with_reducible refine Calls.mono (HL2.out _) ?_; rintro e wb ⟨rfl, hbb⟩)
          | (go_at_call 36; with_reducible refine Calls.mono (HAG.out _ (thr3 (by assumption))) ?_; rintro e wc ⟨rfl, hbc⟩))
        clear HFT
        all_goals
          have HB9 := Lib.hid (show Below W.heap.size W wc from thr3 (by assumption))
          clear hba hbb hbc
          go_wp2
          go_ret2
          exact ⟨rfl, below_step HB.out HB9.out⟩
      · rw [if_neg hlt]
        have i3 : ¬ (o : Int) < (d : Int) - 1 := by omega
        go_enter Try.func15, Try.ntmps15
        go_wp2_with fail
        rw [HW.out]
        refine HC0.out.mono ?_
        rintro e w1 ⟨rfl, hb1⟩
        obtain ⟨x1, x2, -⟩ := B1.out.keep hb1
        go_wp2_with fail
        refine (HG.out _).mono ?_
        rintro e w2 ⟨rfl, hb2⟩
        have hb12 := below_step hb1 hb2
        have X0 := Lib.hid (bb_keep (below_drew0 w2) ⟨B1.out.keep hb12, B2.out.keep hb12, hb12⟩)
        clear hb1 hb2 hb12 x1 x2
        go_wp2
        go_region_held3 (fun w' => (w'.cell? ⟨w.heap.size, 0, none⟩ = some (.int .i64 m) ∧ w'.cell? ⟨w.heap.size, 1, none⟩ = some (.slice A L c) ∧ w.heap.size < w'.heap.size) ∧ (w'.cell? ⟨w.heap.size + 1, 0, none⟩ = some (.int .i64 m) ∧ w'.cell? ⟨w.heap.size + 1, 1, none⟩ = some (.slice A' L' c') ∧ w.heap.size + 1 < w'.heap.size) ∧ Below W.heap.size W w') (first | exact X0.out | exact bb_keep hbc (by assumption) | exact bb_keep hbb (by assumption) | exact bb_keep hba (by assumption)) (first
          | (go_at_call 35; with_reducible refine Calls.mono (HL1.out _) ?_; rintro e wa ⟨rfl, hba⟩)
          | (go_at_call 35; with_reducible refine Calls.mono (HL2.out _) ?_; rintro e wb ⟨rfl, hbb⟩)
          | (go_at_call 36; with_reducible refine Calls.mono (HAG.out _ (thr3 (by assumption))) ?_; rintro e wc ⟨rfl, hbc⟩))
        all_goals
          obtain ⟨-, -, hq⟩ : _ ∧ _ ∧ Below W.heap.size W wc := by assumption
          have HQ := Lib.hid hq
          clear hba hbb hbc hq
          have X1 := Lib.hid (bb_keep (below_drew0 wc) ⟨B1.out.keep HQ.out, B2.out.keep HQ.out, HQ.out⟩)
          go_wp2
          go_region_held3 (fun w' => (w'.cell? ⟨w.heap.size, 0, none⟩ = some (.int .i64 m) ∧ w'.cell? ⟨w.heap.size, 1, none⟩ = some (.slice A L c) ∧ w.heap.size < w'.heap.size) ∧ (w'.cell? ⟨w.heap.size + 1, 0, none⟩ = some (.int .i64 m) ∧ w'.cell? ⟨w.heap.size + 1, 1, none⟩ = some (.slice A' L' c') ∧ w.heap.size + 1 < w'.heap.size) ∧ Below W.heap.size W w') (first | exact X1.out | exact bb_keep hbg (by assumption) | exact bb_keep hbf (by assumption) | exact bb_keep hbe (by assumption)) (first
            | (go_at_call 35; with_reducible refine Calls.mono (HL1.out _) ?_; rintro e we ⟨rfl, hbe⟩)
            | (go_at_call 35; with_reducible refine Calls.mono (HL2.out _) ?_; rintro e wf ⟨rfl, hbf⟩)
            | (go_at_call 37; with_reducible refine Calls.mono (HFT.out _ (thr3 (by assumption))) ?_; rintro e wg ⟨rfl, hbg⟩))
          all_goals
            have HB9 := Lib.hid (show Below W.heap.size W wg from thr3 (by assumption))
            clear hbe hbf hbg
            go_wp2
            go_ret2
            exact ⟨rfl, below_step HB.out HB9.out⟩
  · have HA : Hid (extE m t m' t' = (0, codeL2 m t m' t')) := Lib.hid (by unfold extE; rw [if_neg h0])
    rw [HA.out]
    obtain ⟨n1, n2⟩ := ne_facts h0
    obtain ⟨C, hC⟩ : ∃ C, codeL2 m t m' t' = C := ⟨_, rfl⟩
    rw [hC] at n1 n2 h0 hc ⊢
    have HC0 := Lib.hid hc
    clear b1 b2 b4 hwb hW hr hr' hz hz' hc hC HA
    go_enter Try.func15, Try.ntmps15
    go_wp2_with fail
    rw [HW.out]
    refine HC0.out.mono ?_
    rintro e w1 ⟨rfl, hb1⟩
    have HB1 := Lib.hid (below_step HB.out hb1)
    clear hb1
    go_wp2
    go_ret2
    exact ⟨rfl, HB1.out⟩
end Go.Proofs.Ytlpfifdocgljnac

/- Contract of ExtensionFactor of the model. -/
namespace Go.Proofs.Ytlpfifdocgljnac
open Go.RowKit Go.WideShapes Go.ChangeShapes Go.ChangeAt

theorem codeL2_laws {m : Int} {t : List (List Int)} {m' : Int} {t' : List (List Int)} {d : Nat} (h : codeL2 m t m' t' = 0) (e : t.length = d + 1) (e' : t'.length = d + 1) : Pl.fau m d (Pl.pc t) = none ∧ Pl.fau m' d (Pl.pc t') = none := by
  unfold codeL2 at h
  by_cases h1 : isL m t = true ∧ isL m' t' = true
  · obtain ⟨_, d1, e1, _, hf⟩ := isL_of h1.1
    obtain ⟨_, d2, e2, _, hf'⟩ := isL_of h1.2
    obtain rfl : d1 = d := by omega
    obtain rfl : d2 = d1 := by omega
    exact ⟨hf, hf'⟩
  · rw [if_neg h1] at h; exact absurd h (by decide)
set_option maxHeartbeats 8000000 in
set_option maxRecDepth 100000 in
theorem sExtensionFactor_any (m : Int) (A : Option Addr) (c : Nat) (t : List (List Int)) (m' : Int) (A' : Option Addr) (c' : Nat) (t' : List (List Int)) (w : World) (hz : szT t ≤ 1048576) (hz' : szT t' ≤ 1048576) (hr : RP w A t) (hr' : RP w A' t') :
    Calls Try.prog 14 #[.agg #[.int .i64 m, .slice A t.length c], .agg #[.int .i64 m', .slice A' t'.length c']] w fun e w' => e = .returned (.tuple #[.int .i64 (extE m t m' t').1, .int .i64 (extE m t m' t').2]) ∧ Below w.heap.size w w' := by
  obtain ⟨W, hW, b1, b2, hwb⟩ := start2 27 w m A t.length c m' A' t'.length c'
  have B1 := Lib.hid b1
  have B2 := Lib.hid b2
  have HB := Lib.hid hwb
  have HW := Lib.hid hW
  have hc := l04Two_any m A c t m' A' c' t' W hz hz' (hr.below hwb) (hr'.below hwb)
  obtain ⟨x1, x2, -⟩ := B1.out
  obtain ⟨y1, y2, -⟩ := B2.out
  by_cases h0 : codeL2 m t m' t' = 0
  · obtain ⟨rfl, d, e1, e2, ok, ok', h1⟩ := codeL2_ok h0
    rw [h0] at hc
    have HC0 := Lib.hid hc
    have hd1 := ok.d1
    have hd2 := ok.d2
    have hE : extE m t m t' = if d = 1 then (0, 2) else if agr (eqL m t t') d 0 < d - 1 then (0, 5) else (Cyc.facM m (layC m (gapT m d t t') d) d, 0) := by
      unfold extE
      rw [if_pos h0, e1]; rfl
    have HG := Lib.hid (fun W0 => l03Degree_any m A t.length c d W0 e1 (by omega))
    have HAG := Lib.hid (fun W0 (h : Below W.heap.size W W0) => l04Agreement_any m d A c t A' c' t' W0 ok ok' ((hr.below hwb).below h) ((hr'.below hwb).below h))
    by_cases hd : d = 1
    · rw [if_pos hd] at hE
      have HA := Lib.hid hE
      rw [HA.out]
      subst hd
      obtain ⟨L, hL⟩ : ∃ L, t.length = L := ⟨_, rfl⟩
      obtain ⟨L', hL'⟩ : ∃ L, t'.length = L := ⟨_, rfl⟩
      rw [hL] at HC0 HG HW B1 x2 ⊢
      rw [hL'] at HC0 HW B2 y2 ⊢
      clear b1 b2 hwb hW hr hr' hc h0 ok ok' e1 e2 hz hz' h1 hL hL' HA HAG hE
      go_enter Try.func14, Try.ntmps14
      go_wp2_with fail
      rw [HW.out]
      refine HC0.out.mono ?_
      rintro e w1 ⟨rfl, hb1⟩
      clear x1 x2 y1 y2
      obtain ⟨x1, x2, -⟩ := B1.out.keep hb1
      go_wp2_with fail
      refine (HG.out _).mono ?_
      rintro e w2 ⟨rfl, hb2⟩
      have HB9 := Lib.hid (below_step HB.out (below_step hb1 hb2))
      clear hb1 hb2 x1 x2
      go_wp2
      go_quiet (fail)
      go_wp2
      go_ret2
      exact ⟨rfl, below_drewN HB9.out _⟩
    · rw [if_neg hd] at hE
      have i1 : ¬ (d : Int) < 2 := by omega
      have hob := (agr_le (eqL m t t') d 0).2
      obtain ⟨hf, hf'⟩ := codeL2_laws h0 e1 e2
      have hgs := gap_some ok ok' (by omega) hf hf'
      have okg : Pl.Ok m d (gapT m d t t') := Pl.Ok.of_tab ok.m1 ok.m2 (by omega) hd2 _
      have hlg : (gapT m d t t').length = d + 1 := Pl.tab_length _ _ _
      have HGP := Lib.hid (fun W0 (h : Below W.heap.size W W0) => l07Gap_any m d A c t A' c' t' W0 ok ok' ((hr.below hwb).below h) ((hr'.below hwb).below h))
      have hfa := fun A1 c1 W0 (h : RP W0 A1 (gapT m d t t')) (ha : d - 1 ≤ agr (eqL m t t') d 0) => l07Factor_any m d A1 c1 (gapT m d t t') W0 (by omega) okg h (hgs ha)
      rw [hlg] at hfa
      obtain ⟨o, ho⟩ : ∃ o, agr (eqL m t t') d 0 = o := ⟨_, rfl⟩
      obtain ⟨X, hX⟩ : ∃ X, Cyc.facM m (layC m (gapT m d t t') d) d = X := ⟨_, rfl⟩
      rw [ho] at HAG hE hob hfa
      rw [hX] at hfa hE
      obtain ⟨G, hG⟩ : ∃ G, gapT m d t t' = G := ⟨_, rfl⟩
      rw [hG] at hfa HGP hlg
      have HFA := Lib.hid hfa
      have HLG := Lib.hid hlg
      obtain ⟨L, hL⟩ : ∃ L, t.length = L := ⟨_, rfl⟩
      obtain ⟨L', hL'⟩ : ∃ L, t'.length = L := ⟨_, rfl⟩
      rw [hL] at HC0 HG HAG HW B1 HGP x2 ⊢
      rw [hL'] at HC0 HAG HW B2 HGP y2 ⊢
      have HA := Lib.hid hE
      rw [HA.out]
      have i2 : IntKind.i64.wrap ((d : Int) - 1) = (d : Int) - 1 := by rw [IntKind.wrap_i64]; omega
      clear b1 b2 hwb hW hr hr' hc h0 ok ok' e1 e2 hz hz' h1 ho hX hL hL' HA hE hf hf' hgs okg hlg hfa hG
      by_cases hlt : o < d - 1
      · rw [if_pos hlt]
        have i3 : (o : Int) < (d : Int) - 1 := by omega
        clear HFA HGP HLG
        go_enter Try.func14, Try.ntmps14
        go_wp2_with fail
        rw [HW.out]
        refine HC0.out.mono ?_
        rintro e w1 ⟨rfl, hb1⟩
        clear x1 x2 y1 y2
        obtain ⟨x1, x2, -⟩ := B1.out.keep hb1
        go_wp2_with fail
        refine (HG.out _).mono ?_
        rintro e w2 ⟨rfl, hb2⟩
        have hb12 := below_step hb1 hb2
        have X0 := Lib.hid (bb_keep (below_drew0 w2) ⟨B1.out.keep hb12, B2.out.keep hb12, hb12⟩)
        clear hb1 hb2 hb12 x1 x2
        go_wp2
        go_region_held3 (fun w' => (w'.cell? ⟨w.heap.size, 0, none⟩ = some (.int .i64 m) ∧ w'.cell? ⟨w.heap.size, 1, none⟩ = some (.slice A L c) ∧ w.heap.size < w'.heap.size) ∧ (w'.cell? ⟨w.heap.size + 1, 0, none⟩ = some (.int .i64 m) ∧ w'.cell? ⟨w.heap.size + 1, 1, none⟩ = some (.slice A' L' c') ∧ w.heap.size + 1 < w'.heap.size) ∧ Below W.heap.size W w') (first | exact X0.out | exact bb_keep hbb (by assumption) | exact bb_keep hba (by assumption)) (first
          | (go_at_call 31; with_reducible refine Calls.mono (HAG.out _ (thr3 (by assumption))) ?_; rintro e wa ⟨rfl, hba⟩)
          | (go_at_call 30; with_reducible refine Calls.mono (HG.out _) ?_; rintro e wb ⟨rfl, hbb⟩))
        all_goals
          have HB9 := Lib.hid (show Below W.heap.size W wb from thr3 (by assumption))
          clear hba hbb
          go_wp2
          go_ret2
          exact ⟨rfl, below_step HB.out HB9.out⟩
      · rw [if_neg hlt]
        have i3 : ¬ (o : Int) < (d : Int) - 1 := by omega
        go_enter Try.func14, Try.ntmps14
        go_wp2_with fail
        rw [HW.out]
        refine HC0.out.mono ?_
        rintro e w1 ⟨rfl, hb1⟩
        clear x1 x2 y1 y2
        obtain ⟨x1, x2, -⟩ := B1.out.keep hb1
        go_wp2_with fail
        refine (HG.out _).mono ?_
        rintro e w2 ⟨rfl, hb2⟩
        have hb12 := below_step hb1 hb2
        have X0 := Lib.hid (bb_keep (below_drew0 w2) ⟨B1.out.keep hb12, B2.out.keep hb12, hb12⟩)
        clear hb1 hb2 hb12 x1 x2
        go_wp2
        go_region_held3 (fun w' => (w'.cell? ⟨w.heap.size, 0, none⟩ = some (.int .i64 m) ∧ w'.cell? ⟨w.heap.size, 1, none⟩ = some (.slice A L c) ∧ w.heap.size < w'.heap.size) ∧ (w'.cell? ⟨w.heap.size + 1, 0, none⟩ = some (.int .i64 m) ∧ w'.cell? ⟨w.heap.size + 1, 1, none⟩ = some (.slice A' L' c') ∧ w.heap.size + 1 < w'.heap.size) ∧ Below W.heap.size W w') (first | exact X0.out | exact bb_keep hbb (by assumption) | exact bb_keep hba (by assumption)) (first
          | (go_at_call 31; with_reducible refine Calls.mono (HAG.out _ (thr3 (by assumption))) ?_; rintro e wa ⟨rfl, hba⟩)
          | (go_at_call 30; with_reducible refine Calls.mono (HG.out _) ?_; rintro e wb ⟨rfl, hbb⟩))
        all_goals
          obtain ⟨-, -, hq⟩ : _ ∧ _ ∧ Below W.heap.size W wb := by assumption
          have HQ := Lib.hid hq
          clear hba hbb hq
          have X1 := Lib.hid (bb_keep (below_drew0 wb) ⟨B1.out.keep HQ.out, B2.out.keep HQ.out, HQ.out⟩)
          go_wp2
          go_region_held3 (fun w' => (w'.cell? ⟨w.heap.size, 0, none⟩ = some (.int .i64 m) ∧ w'.cell? ⟨w.heap.size, 1, none⟩ = some (.slice A L c) ∧ w.heap.size < w'.heap.size) ∧ (w'.cell? ⟨w.heap.size + 1, 0, none⟩ = some (.int .i64 m) ∧ w'.cell? ⟨w.heap.size + 1, 1, none⟩ = some (.slice A' L' c') ∧ w.heap.size + 1 < w'.heap.size) ∧ Below W.heap.size W w') (first | exact X1.out | exact bb_keep hbf (by assumption) | exact bb_keep hbe (by assumption)) (first
            | (go_at_call 32; with_reducible refine Calls.mono (HGP.out _ (thr3 (by assumption))) ?_; rintro e we ⟨v, rfl, hoe, hbe⟩; obtain ⟨Ae, ce, rfl, -⟩ := hoe.len; rw [HLG.out])
            | (go_at_call 28; with_reducible refine Calls.mono (HFA.out _ _ _ hoe.rp (by omega)) ?_; rintro e wf ⟨rfl, hbf⟩))
          all_goals
            have HB9 := Lib.hid (show Below W.heap.size W wf from thr3 (by assumption))
            clear hbe hbf
            go_wp2
            go_ret2
            exact ⟨rfl, below_step HB.out HB9.out⟩
  · have HA : Hid (extE m t m' t' = (0, codeL2 m t m' t')) := Lib.hid (by unfold extE; rw [if_neg h0])
    rw [HA.out]
    obtain ⟨n1, n2⟩ := ne_facts h0
    obtain ⟨C, hC⟩ : ∃ C, codeL2 m t m' t' = C := ⟨_, rfl⟩
    rw [hC] at n1 n2 h0 hc ⊢
    have HC0 := Lib.hid hc
    clear b1 b2 hwb hW hr hr' hz hz' hc hC HA
    go_enter Try.func14, Try.ntmps14
    go_wp2_with fail
    rw [HW.out]
    refine HC0.out.mono ?_
    rintro e w1 ⟨rfl, hb1⟩
    have HB1 := Lib.hid (below_step HB.out hb1)
    clear hb1 x1 x2 y1 y2
    go_wp2
    go_quiet (fail)
    go_wp2
    go_ret2
    exact ⟨rfl, below_drewN HB1.out _⟩
end Go.Proofs.Ytlpfifdocgljnac

