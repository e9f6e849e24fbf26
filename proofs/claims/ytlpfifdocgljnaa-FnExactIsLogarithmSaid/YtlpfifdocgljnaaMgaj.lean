/- Texts of contracts, joined. -/
import Derived.Test.YtlpfifdocgljnaaMgaf
import Derived.Test.YtlpfifdocgljnaaMgai
import Derived.Lib.QuietBelow
import Derived.BigQuiet
import Derived.Test.YtlpfifdocgljnaaMgab
import Derived.Laws.CopyOwn
import Derived.Test.YtlpfifdocgljnaaMgac
import Derived.Test.YtlpfifdocgljnaaMgah
/- Contract of the model's code of a law and series. -/
namespace Go.Proofs.Ytlpfifdocgljnaa
open Go.RowKit Go.WideShapes Go.ChangeShapes Go.ChangeAt

theorem and_mk {p q : Prop} (h : p) (k : q) : p ∧ q := ⟨h, k⟩
set_option maxHeartbeats 16000000 in
set_option maxRecDepth 100000 in
theorem l04Code_any (g : Nat) (m : Int) (A : Option Addr) (c : Nat) (t : List (List Int)) (xs : List (Int × Option Addr × Nat × List Int)) (w : World) (hz : szT t ≤ 1048576) (hr : RP w A t) (hx : SL w g xs) (hn : xs.length ≤ 1000) :
    Calls Try.prog 26 #[.agg #[.int .i64 m, .slice A t.length c], .slice (some ⟨g, 0, none⟩) xs.length xs.length] w fun e w' => e = .returned (.int .i64 (codeLw m t xs)) ∧ Below w.heap.size w w' := by
  obtain ⟨W, hW, b1, hwb⟩ := start1 32 w m A t.length c
  have HX := Lib.hid (hx.keep hwb)
  have B1 := Lib.hid b1
  have HB := Lib.hid hwb
  have HW := Lib.hid hW
  have HIP := Lib.hid (fun W0 (h : Below W.heap.size W W0) => l04Is_any m A c t W0 hz ((hr.below hwb).below h))
  obtain ⟨C, hC⟩ : ∃ C, codeLw m t xs = C := ⟨_, rfl⟩
  have HC := Lib.hid hC
  rw [hC]
  obtain ⟨n, hxn⟩ : ∃ n, xs.length = n := ⟨_, rfl⟩
  have HN := Lib.hid hxn
  rw [hxn] at hn ⊢
  have HLT := Lib.hid (fun k (hk : k < n) => (by
    obtain ⟨⟨m', A', c', l'⟩, hx⟩ : ∃ x, xs[k]? = some x := ⟨_, List.getElem?_eq_getElem (by omega)⟩
    exact ⟨m', A', c', l', hx⟩ : ∃ m' A' c' l', xs[k]? = some (m', A', c', l')))
  have hlb := lenT hz
  unfold codeLw at HC
  obtain ⟨b, hb⟩ : ∃ b, isL m t = b := ⟨_, rfl⟩
  rw [hb] at HIP HC
  obtain ⟨L, hL⟩ : ∃ L, t.length = L := ⟨_, rfl⟩
  rw [hL] at HIP B1 HW HC hlb ⊢
  clear hC hx hwb hW b1 hxn hr hz hb hL
  cases b with
  | false =>
    have HNO : Hid (C = 1) := Lib.hid (by rw [← HC.out, if_neg (by decide)])
    go_enter Try.func26, Try.ntmps26
    go_wp2_with fail
    rw [HW.out]
    refine (HIP.out _ (Below.refl _ _)).mono ?_
    rintro e w1 ⟨rfl, hb1⟩
    go_wp2
    go_ret
    exact ⟨ret_int HNO.out.symm, below_step HB.out hb1⟩
  | true =>
    have HC' : Hid ((if allS xs = true then (if alkS m L xs = true ∧ curS xs = true then (0 : Int) else 2) else 1) = C) := Lib.hid (by have := HC.out; rwa [if_pos rfl] at this)
    clear HC
    go_enter Try.func26, Try.ntmps26
    go_wp2_with fail
    rw [HW.out]
    refine (HIP.out _ (Below.refl _ _)).mono ?_
    rintro e w1 ⟨rfl, hb1⟩
    have HB1 := Lib.hid hb1
    clear hb1
    go_wp2
    go_loopw [5] (fun i wr => ∃ k : Nat, k ≤ n ∧ i = .int .i64 k ∧ allS (xs.take k) = true ∧ Below W.heap.size W wr) (fun i _ => n - (intOf i).toNat)
    case atStart => exact ⟨0, Nat.zero_le _, rfl, rfl, HB1.out⟩
    case round =>
      clear HB1
      obtain ⟨k, hk, rfl, hall, hbel⟩ := hrel
      have HA := Lib.hid hall
      have HBE := Lib.hid hbel
      clear hall
      by_cases hlt : k < n
      · obtain ⟨m', A', c', l', hxk⟩ := HLT.out k hlt
        obtain ⟨x1, x2, x3, x4⟩ := (HX.out.keep hbel).2 k m' A' c' l' hxk
        have HXK := Lib.hid hxk
        have HIS := Lib.hid (fun W0 (h : Below wr.heap.size wr W0) => l02Is_any m' A' c' l' W0 (by omega) (x3.below h))
        obtain ⟨L', hL'⟩ : ∃ L, l'.length = L := ⟨_, rfl⟩
        obtain ⟨b', hb'⟩ : ∃ b, isS m' l' = b := ⟨_, rfl⟩
        have HBB := Lib.hid hb'
        rw [hL', hb'] at HIS
        rw [hL'] at x2
        have j0 : (0 : Int) ≤ (k : Int) := by omega
        have j1 : (k : Int) < (n : Int) := by omega
        clear hbel hxk x3 x4 hL' hb'
        cases b' with
        | true =>
          have HOK := Lib.hid (show allS (xs.take (k + 1)) = true by unfold allS; rw [all_take _ _ _ _ HXK.out]; exact and_t HA.out HBB.out)
          go_wp2_with fail
          refine (HIS.out _ (Below.refl _ _)).mono ?_
          rintro e w2 ⟨rfl, hb2⟩
          have HB2 := Lib.hid (below_step HBE.out hb2)
          clear hb2 x1 x2
          go_wp2
          go_roundw
          case rel => exact ⟨k + 1, by omega, by go_num, HOK.out, HB2.out⟩
          case measure => simp only [intOf]; omega
        | false =>
          have HNO : Hid (C = 1) := Lib.hid (by rw [← HC'.out, if_neg]; unfold allS; rw [all_bad _ _ _ _ HXK.out HBB.out]; decide)
          go_wp2_with fail
          refine (HIS.out _ (Below.refl _ _)).mono ?_
          rintro e w2 ⟨rfl, hb2⟩
          have HB2 := Lib.hid (below_step HBE.out hb2)
          clear hb2 x1 x2
          go_wp2
          go_ret
          exact ⟨ret_int HNO.out.symm, below_step HB.out HB2.out⟩
      · obtain rfl : k = n := by omega
        have HAL : Hid ((if alkS m L xs = true ∧ curS xs = true then (0 : Int) else 2) = C) := Lib.hid (by
          have ha := HA.out
          rw [List.take_of_length_le (by have := HN.out; omega)] at ha
          have := HC'.out
          rwa [if_pos ha] at this)
        clear HA hbel HC'
        go_wp2
        go_loopw [6] (fun i wr => ∃ j : Nat, j ≤ k ∧ i = .int .i64 j ∧ alkS m L (xs.take j) = true ∧ curS (xs.take j) = true ∧ Below W.heap.size W wr) (fun i _ => k - (intOf i).toNat)
        case atStart => exact ⟨0, Nat.zero_le _, rfl, rfl, rfl, HBE.out⟩
        case round =>
          clear HBE
          obtain ⟨j, hj, rfl, hall, hcur, hbel⟩ := hrel
          have HA := Lib.hid hall
          have HU := Lib.hid hcur
          have HBE := Lib.hid hbel
          clear hall hcur
          by_cases hlt : j < k
          · obtain ⟨m', A', c', l', hxk⟩ := HLT.out j hlt
            obtain ⟨x1, x2, x3, x4⟩ := (HX.out.keep hbel).2 j m' A' c' l' hxk
            have HXK := Lib.hid hxk
            have HIS := Lib.hid (fun W0 (h : Below wr.heap.size wr W0) => l02Curve_any m' A' c' l' W0 (by omega) (x3.below h))
            obtain ⟨L', hL'⟩ : ∃ L, l'.length = L := ⟨_, rfl⟩
            obtain ⟨b', hb'⟩ : ∃ b, isC m' l' = b := ⟨_, rfl⟩
            have HBB := Lib.hid hb'
            rw [hL', hb'] at HIS
            rw [hL'] at x2 x4
            have j0 : (0 : Int) ≤ (j : Int) := by omega
            have j1 : (j : Int) < (k : Int) := by omega
            have CQ := Lib.hid (fun (d : Nat) (os : Array Obj) => Calls.regrown_of (HIS.out _ (below_regrown wr d os)))
            have K1 := cell_regrown x1
            have K2 := cell_regrown x2
            obtain ⟨y1, y2, -⟩ := B1.out.keep HBE.out
            have K3 := cell_regrown y1
            have K4 := cell_regrown y2
            have HL2 := Lib.hid hL'
            clear hbel hxk x3 hL' hb' y1 y2
            cases b' with
            | false =>
              have HNO : Hid (C = 2) := Lib.hid (by rw [← HAL.out, if_neg]; rintro ⟨-, h⟩; unfold curS at h; rw [all_bad _ _ _ _ HXK.out HBB.out] at h; exact absurd h (by decide))
              clear x1 x2
              go_wp2
              refine wp_region_quiet_below (by kernel_rfl) (by kernel_rfl) ?_
              repeat (go_big_quiet_step (exact CQ.out _ _))
              refine wpQuiet_nil ?_
              intro _ hw'
              obtain ⟨⟨dq, osq⟩, hw''⟩ := hw'
              subst hw''
              have HB2 := Lib.hid (below_step HBE.out (below_regrown wr dq osq))
              go_wp2
              go_ret
              exact ⟨ret_int HNO.out.symm, below_step HB.out HB2.out⟩
            | true =>
              clear x1 x2
              by_cases hm : m' = m
              · subst hm
                by_cases hl : L' = L
                · subst hl
                  have HOK := Lib.hid (show alkS m' L' (xs.take (j + 1)) = true by unfold alkS; rw [all_take _ _ _ _ HXK.out]; exact and_t HA.out (by simp [HL2.out]))
                  have HCK := Lib.hid (show curS (xs.take (j + 1)) = true by unfold curS; rw [all_take _ _ _ _ HXK.out]; exact and_t HU.out HBB.out)
                  go_wp2
                  refine wp_region_quiet_below (by kernel_rfl) (by kernel_rfl) ?_
                  repeat (go_big_quiet_step (exact CQ.out _ _))
                  refine wpQuiet_nil ?_
                  intro _ hw'
                  obtain ⟨⟨dq, osq⟩, hw''⟩ := hw'
                  subst hw''
                  have HB2 := Lib.hid (below_step HBE.out (below_regrown wr dq osq))
                  go_wp2
                  go_roundw
                  case rel => exact ⟨j + 1, by omega, by go_num, HOK.out, HCK.out, HB2.out⟩
                  case measure => simp only [intOf]; omega
                · have HNO : Hid (C = 2) := Lib.hid (by rw [← HAL.out, if_neg]; rintro ⟨h, -⟩; unfold alkS at h; rw [all_bad _ _ _ _ HXK.out (by simp [HL2.out]; omega)] at h; exact absurd h (by decide))
                  have hl2 : ¬ (L' : Int) = (L : Int) := by omega
                  obtain ⟨n1, n2⟩ : ((L' : Int) == (L : Int)) = false ∧ ((L' : Int) != (L : Int)) = true := ⟨by simpa using hl2, by simpa using hl2⟩
                  go_wp2
                  refine wp_region_quiet_below (by kernel_rfl) (by kernel_rfl) ?_
                  repeat (go_big_quiet_step (exact CQ.out _ _))
                  refine wpQuiet_nil ?_
                  intro _ hw'
                  obtain ⟨⟨dq, osq⟩, hw''⟩ := hw'
                  subst hw''
                  have HB2 := Lib.hid (below_step HBE.out (below_regrown wr dq osq))
                  go_wp2
                  go_ret
                  exact ⟨ret_int HNO.out.symm, below_step HB.out HB2.out⟩
              · have HNO : Hid (C = 2) := Lib.hid (by rw [← HAL.out, if_neg]; rintro ⟨h, -⟩; unfold alkS at h; rw [all_bad _ _ _ _ HXK.out (by simp [hm])] at h; exact absurd h (by decide))
                obtain ⟨n1, n2⟩ : (m' == m) = false ∧ (m' != m) = true := ⟨by simpa using hm, by simpa using hm⟩
                go_wp2
                refine wp_region_quiet_below (by kernel_rfl) (by kernel_rfl) ?_
                repeat (go_big_quiet_step (exact CQ.out _ _))
                refine wpQuiet_nil ?_
                intro _ hw'
                obtain ⟨⟨dq, osq⟩, hw''⟩ := hw'
                subst hw''
                have HB2 := Lib.hid (below_step HBE.out (below_regrown wr dq osq))
                go_wp2
                go_ret
                exact ⟨ret_int HNO.out.symm, below_step HB.out HB2.out⟩
          · obtain rfl : j = k := by omega
            have HYES : Hid (C = 0) := Lib.hid (by
              have ha := HA.out
              have hu := HU.out
              rw [List.take_of_length_le (by have := HN.out; omega)] at ha hu
              rw [← HAL.out, if_pos ⟨ha, hu⟩])
            clear HA HU hbel
            go_wp2
            go_ret
            exact ⟨ret_int HYES.out.symm, below_step HB.out HBE.out⟩
end Go.Proofs.Ytlpfifdocgljnaa

/- Contracts of the law of a plane, its lines and sums. -/
namespace Go.Proofs.Ytlpfifdocgljnaa
open Go.RowKit Go.WideShapes Go.ChangeShapes Go.ChangeAt

end Go.Proofs.Ytlpfifdocgljnaa

/- Plain facts of laws: their rows, lines and inverses. -/
namespace Go.Proofs.Ytlpfifdocgljnaa
open Go.RowKit Go.WideShapes Go.ChangeShapes Go.ChangeAt

namespace Pl
theorem fau_parts {m : Int} {d : Nat} {F : Nat → Nat → Int} (h : fau m d F = none) : fauP d F = none ∧ fauS d F = none := by
  unfold fau at h
  cases h1 : fauP d F with
  | some x => rw [h1] at h; cases h
  | none =>
    rw [h1, orE_none] at h
    cases h2 : fauS d F with
    | some x => rw [h2] at h; cases h
    | none => exact ⟨rfl, rfl⟩
theorem norm_law {m : Int} {d : Nat} {t : List (List Int)} (h : fau m d (pc t) = none) (hs : Ok m d t) : Norm d (pc t) := norm_of (fau_parts h).1 (fau_parts h).2 (fun i j hij => hs.over i j hij)
theorem lin_ok {m : Int} {d : Nat} (m1 : 2 ≤ m) (m2 : m ≤ 10000) (d1 : 1 ≤ d) (d2 : d ≤ 10) (u : Int) : SerOk m d (lin m d u) := ⟨m1, m2, d1, d2, Ser.cut_length _ _ _, Ser.cut_red (by omega) _ _⟩
theorem lin_zero (m : Int) (d : Nat) (u : Int) : Ser.co (lin m d u) 0 = 0 := by
  unfold lin
  rw [Ser.co_cut (Nat.zero_le _)]
  unfold Ser.mon
  simp
theorem invP_ok {m : Int} {d : Nat} (m1 : 2 ≤ m) (m2 : m ≤ 10000) (d1 : 1 ≤ d) (d2 : d ≤ 10) (F : Nat → Nat → Int) (n : Nat) : SerOk m d (invP m d F n) := ⟨m1, m2, d1, d2, invP_length _ _ _ _, invP_red (by omega) _ _ _⟩
end Pl
end Go.Proofs.Ytlpfifdocgljnaa

/- Contracts of CutSeries, of the program and of the model. -/
namespace Go.Proofs.Ytlpfifdocgljnaa
open Go.RowKit Go.WideShapes Go.ChangeShapes Go.ChangeAt

def cutM (m : Int) (l : List Int) (k : Int) : Int × List Int × Int :=
  if isS m l = true then (if inB k 1 ((l.length : Int) - 1) = true then (m, l.take (k.toNat + 1), 0) else (0, [], 2)) else (0, [], 1)
theorem cutM_len (m : Int) (l : List Int) (k : Int) : (cutM m l k).2.1.length ≤ 1048576 := by
  unfold cutM
  split
  · rename_i h
    obtain ⟨d, e, s⟩ := serOk_of h
    have := s.d2
    split
    · dsimp only; rw [List.length_take]; omega
    · simp
  · simp
theorem RI.take {w : World} {A : Option Addr} {l : List Int} (h : RI w A l) (n : Nat) : RI w A (l.take n) := by
  intro hl
  have hl2 : l ≠ [] := by rintro rfl; simp at hl
  obtain ⟨b, off, e, hlt, hc⟩ := h hl2
  refine ⟨b, off, e, hlt, fun k hk => ?_⟩
  rw [List.length_take] at hk
  rw [hc k (by omega), List.getElem?_take_of_lt (by omega)]

theorem OwnI.cap {w : World} {base : Nat} {A : Option Addr} {n c : Nat} {l : List Int} (h : OwnI w base (.slice A n c) l) : l.length ≤ c := by
  unfold OwnI at h
  rcases h.2 with ⟨hv, h0⟩ | ⟨g, cap, cur, hv, _, _, h1, _⟩
  · omega
  · injection hv with _ _ e
    subst e
    exact h1
theorem RI.news {w : World} {A : Option Addr} {l : List Int} (h : RI w A l) (hl : l ≠ []) : ∃ b off, A = some ⟨b, off, none⟩ ∧ ∀ j u, (l.map (Value.int .i64))[j]? = some u → w.cell? ((⟨b, off, none⟩ : Addr).add j) = some u := by
  obtain ⟨b, off, e, hlt, hc⟩ := h hl
  refine ⟨b, off, e, fun j u hj => ?_⟩
  rw [List.getElem?_map] at hj
  by_cases hjl : j < l.length
  · rw [List.getElem?_eq_getElem hjl] at hj
    simp only [Option.map_some, Option.some.injEq] at hj
    subst hj
    rw [add_plain, hc j hjl, List.getElem?_eq_getElem hjl]; rfl
  · rw [List.getElem?_eq_none (by omega)] at hj
    simp at hj
theorem cells1 (l : List Int) : ∀ v ∈ l.map (Value.int .i64), v.oneCell' = true := by
  intro v hv
  obtain ⟨x, _, rfl⟩ := List.mem_map.1 hv
  rfl

end Go.Proofs.Ytlpfifdocgljnaa

/- Contracts of RowOfPlane, of the program and of the model. -/
namespace Go.Proofs.Ytlpfifdocgljnaa
open Go.RowKit Go.WideShapes Go.ChangeShapes Go.ChangeAt

theorem kp3_call {w w' : World} {a1 a2 a3 : Addr} {x y z : Value} (hb : Below w.heap.size w w') (hs : w.cell? a1 = some x ∧ w.cell? a2 = some y ∧ w.cell? a3 = some z) : w'.cell? a1 = some x ∧ w'.cell? a2 = some y ∧ w'.cell? a3 = some z :=
  ⟨(hb.cell (World.block_lt_of_cell? w a1 hs.1)).trans hs.1, (hb.cell (World.block_lt_of_cell? w a2 hs.2.1)).trans hs.2.1, (hb.cell (World.block_lt_of_cell? w a3 hs.2.2)).trans hs.2.2⟩
theorem kp3_store2 {w : World} {a1 a2 a3 : Addr} {g : Nat} {x y z u v : Value} (h1 : a1.block ≠ g) (h2 : a2.block ≠ g) (h3 : a3.block ≠ g) (hs : w.cell? a1 = some x ∧ w.cell? a2 = some y ∧ w.cell? a3 = some z) :
    ((w.setCell ⟨g, 0, none⟩ u).setCell ⟨g, 1, none⟩ v).cell? a1 = some x ∧ ((w.setCell ⟨g, 0, none⟩ u).setCell ⟨g, 1, none⟩ v).cell? a2 = some y ∧ ((w.setCell ⟨g, 0, none⟩ u).setCell ⟨g, 1, none⟩ v).cell? a3 = some z := by
  have k : ∀ (a : Addr), a.block ≠ g → ((w.setCell ⟨g, 0, none⟩ u).setCell ⟨g, 1, none⟩ v).heap[a.block]? = w.heap[a.block]? := fun a ha => (Below.heap_setCell _ _ _ _ ha).trans (Below.heap_setCell _ _ _ _ ha)
  exact ⟨(World.cell?_of_block (w := w) (k a1 h1)).trans hs.1, (World.cell?_of_block (w := w) (k a2 h2)).trans hs.2.1, (World.cell?_of_block (w := w) (k a3 h3)).trans hs.2.2⟩
/-- the model of RowOfPlane -/
def rowP (m : Int) (t : List (List Int)) (i : Int) : Int × List Int × Int :=
  if isP m t = true then (if inB i 0 ((t.length : Int) - 1 - 1) = true then (m, Pl.rw' t i.toNat, 0) else (0, [], 2)) else (0, [], 1)
theorem rowP_len (m : Int) (t : List (List Int)) (i : Int) : (rowP m t i).2.1.length ≤ 1048576 := by
  unfold rowP
  by_cases h : isP m t = true
  · rw [if_pos h]
    obtain ⟨d, e, ok⟩ := plOk_of h
    by_cases hi : inB i 0 ((t.length : Int) - 1 - 1) = true
    · rw [if_pos hi]
      have := (inB_iff _ _ _).1 hi
      have := ok.row i.toNat (by omega)
      have := ok.d2
      dsimp only
      omega
    · rw [if_neg hi]; exact Nat.zero_le _
  · rw [if_neg h]; exact Nat.zero_le _
theorem spro1S (w : World) (m : Int) (A : Option Addr) (n c : Nat) : ∃ W, (w.alloc (.cells #[.int .i64 m, .slice A n c] 32)).alloc (.cells #[.int .i64 0, .slice none 0 0] 34) = W ∧
    Box W w.heap.size m A n c ∧ VarC 34 W (w.heap.size + 1) #[.int .i64 0, .slice none 0 0] ∧ Below w.heap.size w W := by
  refine ⟨_, rfl, (Box.newT _ _ _ _ _ _).keep (below_one _ _), ?_, below_alloc _ (below_one _ _)⟩
  have := VarC.new 34 (w.alloc (.cells #[.int .i64 m, .slice A n c] 32)) #[.int .i64 0, .slice none 0 0]
  simpa using this
end Go.Proofs.Ytlpfifdocgljnaa

/- Contracts of SumUnder, of the program and of the model. -/
namespace Go.Proofs.Ytlpfifdocgljnaa
open Go.RowKit Go.WideShapes Go.ChangeShapes Go.ChangeAt

/-- the codes of a law and one or two curves -/
def codeS1 (m : Int) (t : List (List Int)) (m1 : Int) (l1 : List Int) : Int := codeLw m t [(m1, none, 0, l1)]
def codeS2 (m : Int) (t : List (List Int)) (m1 : Int) (l1 : List Int) (m2 : Int) (l2 : List Int) : Int := codeLw m t [(m1, none, 0, l1), (m2, none, 0, l2)]
theorem codeLw_zero {m : Int} {t : List (List Int)} {xs : List (Int × Option Addr × Nat × List Int)} (h : codeLw m t xs = 0) : isL m t = true ∧ allS xs = true ∧ alkS m t.length xs = true ∧ curS xs = true := by
  unfold codeLw at h
  by_cases h1 : isL m t = true
  · rw [if_pos h1] at h
    by_cases h2 : allS xs = true
    · rw [if_pos h2] at h
      by_cases h3 : alkS m t.length xs = true ∧ curS xs = true
      · exact ⟨h1, h2, h3.1, h3.2⟩
      · rw [if_neg h3] at h; exact absurd h (by decide)
    · rw [if_neg h2] at h; exact absurd h (by decide)
  · rw [if_neg h1] at h; exact absurd h (by decide)
theorem codeS1_ok {m : Int} {t : List (List Int)} {m1 : Int} {l1 : List Int} (h : codeS1 m t m1 l1 = 0) :
    isL m t = true ∧ m1 = m ∧ ∃ d, t.length = d + 1 ∧ l1.length = d + 1 ∧ Pl.Ok m d t ∧ Pl.fau m d (Pl.pc t) = none ∧ SerOk m d l1 ∧ Ser.co l1 0 = 0 := by
  obtain ⟨h0, h1, h2, h3⟩ := codeLw_zero h
  obtain ⟨-, d, e, ok, hf⟩ := isL_of h0
  unfold allS at h1
  unfold alkS at h2
  unfold curS at h3
  simp only [List.all_cons, List.all_nil, Bool.and_true, decide_eq_true_iff] at h1 h2 h3
  obtain ⟨rfl, e1⟩ := h2
  obtain ⟨d1, f1, s1⟩ := serOk_of h1
  obtain rfl : d1 = d := by omega
  exact ⟨h0, rfl, d1, e, f1, ok, hf, s1, (isC_two h3).2⟩
theorem codeS2_ok {m : Int} {t : List (List Int)} {m1 : Int} {l1 : List Int} {m2 : Int} {l2 : List Int} (h : codeS2 m t m1 l1 m2 l2 = 0) :
    isL m t = true ∧ m1 = m ∧ m2 = m ∧ ∃ d, t.length = d + 1 ∧ l1.length = d + 1 ∧ l2.length = d + 1 ∧ Pl.Ok m d t ∧ Pl.fau m d (Pl.pc t) = none ∧ SerOk m d l1 ∧ SerOk m d l2 ∧ Ser.co l1 0 = 0 ∧ Ser.co l2 0 = 0 := by
  obtain ⟨h0, h1, h2, h3⟩ := codeLw_zero h
  obtain ⟨-, d, e, ok, hf⟩ := isL_of h0
  unfold allS at h1
  unfold alkS at h2
  unfold curS at h3
  simp only [List.all_cons, List.all_nil, Bool.and_true, Bool.and_eq_true, decide_eq_true_iff] at h1 h2 h3
  obtain ⟨⟨rfl, e1⟩, rfl, e2⟩ := h2
  obtain ⟨d1, f1, s1⟩ := serOk_of h1.1
  obtain ⟨d2, f2, s2⟩ := serOk_of h1.2
  obtain rfl : d1 = d := by omega
  obtain rfl : d2 = d1 := by omega
  exact ⟨h0, rfl, rfl, d2, e, f1, f2, ok, hf, s1, s2, (isC_two h3.1).2, (isC_two h3.2).2⟩
/-- the model of SumUnder -/
def sumL (m : Int) (t : List (List Int)) (m1 : Int) (l1 : List Int) (m2 : Int) (l2 : List Int) : Int × List Int × Int :=
  if codeS2 m t m1 l1 m2 l2 = 0 then (m, Pl.putL m (t.length - 1) (Pl.pc t) l1 l2, 0) else (0, [], codeS2 m t m1 l1 m2 l2)
theorem sumL_len (m : Int) (t : List (List Int)) (m1 : Int) (l1 : List Int) (m2 : Int) (l2 : List Int) : (sumL m t m1 l1 m2 l2).2.1.length ≤ 1048576 := by
  unfold sumL
  split
  · rename_i h
    obtain ⟨_, _, _, d, e, _, _, ok, _⟩ := codeS2_ok h
    have := ok.d2
    dsimp only
    rw [Pl.putL_length]; omega
  · simp
end Go.Proofs.Ytlpfifdocgljnaa

/- What the walks of regions that draw their order keep: cells below a block. -/
namespace Go.Proofs.Ytlpfifdocgljnaa
open Go.RowKit Go.WideShapes Go.ChangeShapes Go.ChangeAt

/-- F holds of every world in which what lies below block B is as in W -/
theorem keepS {B : Nat} {W w w' : World} {F : World → Prop} (HF : ∀ w', Below B W w' → F w') (hB : B ≤ W.heap.size) (h : F w ∧ Below B W w) (hb : Below w.heap.size w w') : F w' ∧ Below B W w' := by
  have h2 : Below B W w' := h.2.trans (hb.mono (Nat.le_trans hB h.2.size))
  exact ⟨HF _ h2, h2⟩
theorem keepW {B : Nat} {W w' : World} {F : World → Prop} (HF : ∀ w', Below B W w' → F w') (hb : Below B W w') : F w' ∧ Below B W w' := ⟨HF _ hb, hb⟩
theorem keepA {B : Nat} {W w : World} {F : World → Prop} (HF : ∀ w', Below B W w' → F w') (hB : B ≤ W.heap.size) (o : Obj) (h : F w ∧ Below B W w) : F (w.alloc o) ∧ Below B W (w.alloc o) :=
  keepS HF hB h (below_one w o)
theorem keep2 {B : Nat} {W w : World} {F : World → Prop} (HF : ∀ w', Below B W w' → F w') {g : Nat} (hg : B ≤ g) (x y : Value) (h : F w ∧ Below B W w) : F ((w.setCell ⟨g, 0, none⟩ x).setCell ⟨g, 1, none⟩ y) ∧ Below B W ((w.setCell ⟨g, 0, none⟩ x).setCell ⟨g, 1, none⟩ y) := by
  have h2 : Below B W ((w.setCell ⟨g, 0, none⟩ x).setCell ⟨g, 1, none⟩ y) := (h.2.setCell hg x).setCell hg y
  exact ⟨HF _ h2, h2⟩
theorem keep3 {B : Nat} {W w : World} {F : World → Prop} (HF : ∀ w', Below B W w' → F w') {g : Nat} (hg : B ≤ g) (x y z : Value) (h : F w ∧ Below B W w) : F (((w.setCell ⟨g, 0, none⟩ x).setCell ⟨g, 1, none⟩ y).setCell ⟨g, 2, none⟩ z) ∧ Below B W (((w.setCell ⟨g, 0, none⟩ x).setCell ⟨g, 1, none⟩ y).setCell ⟨g, 2, none⟩ z) := by
  have h2 : Below B W (((w.setCell ⟨g, 0, none⟩ x).setCell ⟨g, 1, none⟩ y).setCell ⟨g, 2, none⟩ z) := ((h.2.setCell hg x).setCell hg y).setCell hg z
  exact ⟨HF _ h2, h2⟩
theorem below_less {B : Nat} {W w' : World} (hB : B ≤ W.heap.size) (h : Below W.heap.size W w') : Below B W w' := h.mono hB
end Go.Proofs.Ytlpfifdocgljnaa

