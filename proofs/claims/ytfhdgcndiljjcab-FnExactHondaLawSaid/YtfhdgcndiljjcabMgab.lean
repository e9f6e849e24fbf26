/- Texts of contracts, joined. -/
import Derived.Test.YtfhdgcndiljjcabMgaa
import Derived.Deep.RegionHeld3
import Derived.Deep.QuietTactic
import Derived.BigQuiet
import Derived.StillTailTactics
import Derived.Deep.DeepCutAuto
/- Contract of frame.filled: the table of the remainders of what a function value tells. -/
namespace Go.Proofs.Ytfhdgcndiljjcab
open Go.RowKit Go.WideShapes Go.ChangeShapes Go.ChangeAt

theorem lenRow_any (m : Int) (d i : Nat) (w : World) (hd : d ≤ 1000) (hi : i ≤ d) :
    Calls Try.prog 66 #[.agg #[.int .i64 m, .int .i64 d], .int .i64 i] w fun e w' => e = .returned (.int .i64 ((d - i + 1 : Nat) : Int)) ∧ Below w.heap.size w w' := by
  have HE := Lib.hid (show ((d - i + 1 : Nat) : Int) = (d : Int) - (i : Int) + 1 by omega)
  rw [HE.out]
  go_enter Try.func66, Try.ntmps66
  go_wp2
  go_ret
  exact ⟨rfl, below_one _ _⟩

theorem Span.setCell (lo hi : Nat) (w : World) (g i : Nat) (u : Value) (h1 : lo ≤ g) (h2 : g < hi) : Span lo hi w (w.setCell ⟨g, i, none⟩ u) :=
  Span.of_grown (grown_setCell w g i u) (fun b hb => by injection hb with hb; omega)
/-- the frame's box and the grid's variable of a call of filled -/
def FilV (w W : World) (m : Int) (d : Nat) : Prop :=
  VarC 41 W w.heap.size #[.int .i64 m, .int .i64 d] ∧ VarC 43 W (w.heap.size + 1) #[.int .i64 0, .int .i64 0, .slice none 0 0]
theorem FilV.keep {w W W' : World} {m : Int} {d : Nat} (h : FilV w W m d) (hb : Below W.heap.size W W') : FilV w W' m d := ⟨h.1.keep hb, h.2.keep hb⟩
theorem FilV.far {w W : World} {m : Int} {d : Nat} (h : FilV w W m d) (b i : Nat) (u : Value) (hne : w.heap.size + 2 ≤ b) : FilV w (W.setCell ⟨b, i, none⟩ u) m d := ⟨h.1.far b i u (by omega), h.2.far b i u (by omega)⟩
theorem FilV.c {w W : World} {m : Int} {d : Nat} (h : FilV w W m d) : W.cell? ⟨w.heap.size, 0, none⟩ = some (.int .i64 m) ∧ W.cell? ⟨w.heap.size, 1, none⟩ = some (.int .i64 d) := ⟨h.1.cell 0 _ rfl, h.1.cell 1 _ rfl⟩
theorem cut_stepL (m : Int) (d : Nat) (f : Nat → Int) (k n : Nat) (hn : n = d + 1) (h : k ≤ d) : ((Ser.cut m d f).take k ++ List.replicate (n - k) 0).set k (f k % m) = (Ser.cut m d f).take (k + 1) ++ List.replicate (n - (k + 1)) 0 := by
  subst hn; exact cut_step m d f k h
theorem row_len (m : Int) (d : Nat) (f : Nat → Int) (k : Nat) (h : k ≤ d + 1) : ((Ser.cut m d f).take k ++ List.replicate (d + 1 - k) 0).length = d + 1 := by
  have := Ser.cut_length m d f
  simp; omega

/-- three cells stored -/
def set3 (w : World) (g : Nat) (x y z : Value) : World := ((w.setCell ⟨g, 0, none⟩ x).setCell ⟨g, 1, none⟩ y).setCell ⟨g, 2, none⟩ z
theorem VarC.set3 {t : TypeId} {w : World} {g : Nat} {a b c : Value} (h : VarC t w g #[a, b, c]) (x y z : Value) : VarC t (set3 w g x y z) g #[x, y, z] := ((h.set 0 x).set 1 y).set 2 z
theorem grown_set3 (w : World) (g : Nat) (x y z : Value) : w.grownBy (set3 w g x y z) (some g) := grown_trans (grown_trans (grown_setCell w g 0 x) (grown_setCell _ g 1 y)) (grown_setCell _ g 2 z)
theorem below_set3 {B : Nat} {w w' : World} {g : Nat} (hb : Below B w w') (hg : B ≤ g) (x y z : Value) : Below B w (set3 w' g x y z) := ((hb.setCell hg x).setCell hg y).setCell hg z
/-- a grid is stored into its variable: what the return reads -/
theorem fin_grid {t : TypeId} {w w2 : World} {g lo hi : Nat} {v a b c : Value} {T : List (List Int)} (hv : VarC t w2 g #[a, b, c]) (ho : OwnR w2 lo hi v T) (hg : g < lo ∨ hi ≤ g) (hwg : w.heap.size ≤ g) (hhi : hi ≤ w2.heap.size) (hb : Below w.heap.size w w2) (p q r : Value) :
    (set3 w2 g p q r).cell? ⟨g, 0, none⟩ = some p ∧ (set3 w2 g p q r).cell? ⟨g, 1, none⟩ = some q ∧ (set3 w2 g p q r).cell? ⟨g, 2, none⟩ = some r ∧
    OwnR (set3 w2 g p q r) lo (set3 w2 g p q r).heap.size v T ∧ Below w.heap.size w (set3 w2 g p q r) := by
  have h := hv.set3 p q r
  refine ⟨h.cell 0 _ rfl, h.cell 1 _ rfl, h.cell 2 _ rfl, ?_, below_set3 hb hwg p q r⟩
  exact (ho.far (Span.of_grown (lo := g) (hi := g + 1) (grown_set3 w2 g p q r) (fun b hb => by injection hb with hb; omega)) (by omega)).more (Nat.le_trans hhi (grown_set3 w2 g p q r).size)

theorem kp_call {w w' : World} {a1 a2 : Addr} {x y : Value} (hb : Below w.heap.size w w') (hs : w.cell? a1 = some x ∧ w.cell? a2 = some y) : w'.cell? a1 = some x ∧ w'.cell? a2 = some y :=
  ⟨(hb.cell (World.block_lt_of_cell? w a1 hs.1)).trans hs.1, (hb.cell (World.block_lt_of_cell? w a2 hs.2)).trans hs.2⟩
theorem kp_store {w : World} {a1 a2 b : Addr} {x y u : Value} (h1 : b.block ≠ a1.block) (h2 : b.block ≠ a2.block) (hs : w.cell? a1 = some x ∧ w.cell? a2 = some y) : (w.setCell b u).cell? a1 = some x ∧ (w.setCell b u).cell? a2 = some y :=
  ⟨(World.cell?_of_block (w := w) (Below.heap_setCell w b u a1.block (fun e => h1 e.symm))).trans hs.1, (World.cell?_of_block (w := w) (Below.heap_setCell w b u a2.block (fun e => h2 e.symm))).trans hs.2⟩

set_option maxHeartbeats 4000000 in
set_option maxRecDepth 100000 in
theorem filled_any (m : Int) (d fn : Nat) (cap : Array Value) (f : Nat → Nat → Int) (w : World) (h1 : 1 ≤ m) (h2 : m ≤ 10000) (hd : d ≤ 1000) (hlo : ∀ i j, i + j ≤ d → -1000000000000 ≤ f i j ∧ f i j ≤ 1000000000000)
    (hen : ∀ (args : Array Value) (W : World), (callFunc fn args).run Try.prog W = .ok (.enter fn args) W)
    (hf : ∀ (i j : Nat) (W : World), i + j ≤ d → Below w.heap.size w W → Calls Try.prog fn (#[.int .i64 i, .int .i64 j] ++ cap) W fun e w' => e = .returned (.int .i64 (f i j)) ∧ Below W.heap.size W w') :
    Calls Try.prog 44 #[.agg #[.int .i64 m, .int .i64 d], .func (.func fn) #[] cap] w fun e w' => ∃ v, e = .returned (.agg #[.int .i64 m, .int .i64 d, v]) ∧ OwnR w' w.heap.size w'.heap.size v (Pl.tab m d f) ∧ Below w.heap.size w w' := by
  have HF := Lib.hid hf
  have HL := Lib.hid hlo
  clear hf hlo
  have hmk : ∀ W : World, (Instr.makeSlice 23 (.int .i64 ((d : Int) + 1)) (.int .i64 ((d : Int) + 1))).run Try.prog W = .ok (.slice (some ⟨W.heap.size, 0, none⟩) (d + 1) (d + 1)) (W.alloc (.cells (madeCells #[Value.slice none 0 0] (d + 1)) 22)) := by
    intro W
    have := run_make_row' (P := Try.prog) 23 22 (.slice none 0 0) 24 Try.underlying23 infoRow rfl .i64 .i64 (d + 1) (by omega) (by omega) W
    rwa [show ((d + 1 : Nat) : Int) = (d : Int) + 1 by omega] at this
  have hmk2 : ∀ (n : Nat) (W : World), n ≤ 1001 → (Instr.makeSlice 22 (.int .i64 (n : Int)) (.int .i64 (n : Int))).run Try.prog W = .ok (.slice (some ⟨W.heap.size, 0, none⟩) n n) (W.alloc (.cells (madeCells #[.int .i64 0] n) 2)) := by
    intro n W hn
    exact run_make_row' (P := Try.prog) 22 2 (.int .i64 0) 8 Try.underlying22 info64 rfl .i64 .i64 n (by omega) (by omega) W
  have HM2 := Lib.hid hmk2
  clear hmk2
  go_enter Try.func44, Try.ntmps44
  go_wp2
  go_loopw [15] (fun i wr => ∃ k : Nat, k ≤ d + 1 ∧ i = .int .i64 k ∧ OwnR wr (w.heap.size + 2) wr.heap.size (.slice (some ⟨w.heap.size + 1 + 1, 0, none⟩) (d + 1) (d + 1)) ((Pl.tab m d f).take k ++ List.replicate (d + 1 - k) []) ∧ FilV w wr m d ∧ Below w.heap.size w wr) (fun i _ => d + 1 - (intOf i).toNat)
  case atStart =>
    refine ⟨0, Nat.zero_le _, rfl, ?_, ⟨?_, ?_⟩, below_alloc _ (below_alloc _ (below_one _ _))⟩
    · have h := OwnR.made ((w.alloc (.cells #[.int .i64 m, .int .i64 d] 41)).alloc (.cells #[.int .i64 0, .int .i64 0, .slice none 0 0] 43)) (d + 1) (by unfold maxLen; omega)
      simpa using h
    · exact ((VarC.new 41 w _).keep (below_one _ _)).keep (below_one _ _)
    · have h := (VarC.new 43 (w.alloc (.cells #[.int .i64 m, .int .i64 d] 41)) #[.int .i64 0, .int .i64 0, .slice none 0 0]).keep (below_one _ (.cells (madeCells #[Value.slice none 0 0] (d + 1)) 22))
      simpa using h
  case round =>
    clear hmk
    obtain ⟨k, hk, rfl, hown, hvar, hbel⟩ := hrel
    have HV := Lib.hid hvar
    have HB := Lib.hid hbel
    have HO := Lib.hid hown
    clear hown hbel hvar
    by_cases hlt : k < d + 1
    · obtain ⟨v0, v1⟩ := HV.out.c
      have hkd : (k : Int) < (d : Int) + 1 := by omega
      go_wp2_with fail
      refine (lenRow_any m d k _ hd (by omega)).mono ?_
      rintro e w1 ⟨rfl, hb1⟩
      obtain ⟨N, hN⟩ : ∃ N, d - k + 1 = N := ⟨_, rfl⟩
      have hN1 : N ≤ 1001 := by omega
      have hmk := fun W => HM2.out N W hN1
      rw [hN]
      have HN := Lib.hid hN
      have HB1 := Lib.hid (HB.out.trans (hb1.mono HB.out.size))
      have hb2 := below_one w1 (.cells (madeCells #[.int .i64 0] N) 2)
      have hsz1 := hb1.size
      have ho1 := HO.out.keep (hb1.trans (hb2.mono hsz1))
      have hlen : k < ((Pl.tab m d f).take k ++ List.replicate (d + 1 - k) []).length := by have := Pl.tab_length m d f; simp; omega
      obtain ⟨_, o2, _, o4, _, _, o5, _⟩ := ho1.cell k hlen
      have hput := ho1.put k hlen (.slice (some ⟨w1.heap.size, 0, none⟩) N N) (List.replicate N 0) ((OwnI.made w1 N (by unfold maxLen; omega)).more (by omega))
        (hi' := w1.heap.size + 1) (fun b hb => by have : b = w1.heap.size := by simpa [Value.ownBlock] using hb.symm
                                                  omega) (by omega)
      rw [Pl.tab_step m d f k (by omega)] at hput
      have hv1 := ((HV.out.keep hb1).keep hb2).far (w.heap.size + 1 + 1) k (.slice (some ⟨w1.heap.size, 0, none⟩) N N) (by omega)
      have hbw : Below w.heap.size w ((w1.alloc (.cells (madeCells #[.int .i64 0] N) 2)).setCell ⟨w.heap.size + 1 + 1, k, none⟩ (.slice (some ⟨w1.heap.size, 0, none⟩) N N)) :=
        (below_step HB1.out hb2).setCell (by show w.heap.size ≤ w.heap.size + 1 + 1; omega) _
      obtain ⟨x0, x1⟩ := hv1.c
      obtain ⟨w3, hw3⟩ : ∃ w3, (w1.alloc (.cells (madeCells #[.int .i64 0] N) 2)).setCell ⟨w.heap.size + 1 + 1, k, none⟩ (.slice (some ⟨w1.heap.size, 0, none⟩) N N) = w3 := ⟨_, rfl⟩
      have hs3 : w1.heap.size + 1 = w3.heap.size := by rw [← hw3]; simp [World.setCell]
      rw [hw3] at hput hv1 hbw
      rw [hs3] at hput
      have HP := Lib.hid hput
      have HV3 := Lib.hid hv1
      have HB3 := Lib.hid hbw
      have HW3 := Lib.hid hw3
      clear hN hput hv1 hbw hw3 ho1 hb2 hlen hs3 hsz1 HB1 HV HB HO
      go_wp2_with fail
      rw [HW3.out]
      refine (lenRow_any m d k _ hd (by omega)).mono ?_
      rintro e w4 ⟨rfl, hb4⟩
      rw [HN.out]
      have HP4 := Lib.hid ((HP.out.keep hb4).more hb4.size)
      have HV4 := Lib.hid (HV3.out.keep hb4)
      have HB4 := Lib.hid (below_step HB3.out hb4)
      clear HP HV3 HB3 hb4 HW3 hmk v0 v1 x0 x1 hb1
      go_wp2
      go_loopw [28] (fun i wr => ∃ j : Nat, j ≤ N ∧ i = .int .i64 j ∧ OwnR wr (w.heap.size + 2) wr.heap.size (.slice (some ⟨w.heap.size + 1 + 1, 0, none⟩) (d + 1) (d + 1)) ((Pl.tab m d f).take k ++ (((Ser.cut m (d - k) (f k)).take j ++ List.replicate (N - j) 0) :: List.replicate (d + 1 - (k + 1)) [])) ∧ FilV w wr m d ∧ Below w.heap.size w wr) (fun i _ => N - (intOf i).toNat)
      case atStart => exact ⟨0, Nat.zero_le _, rfl, by simpa using HP4.out, HV4.out, HB4.out⟩
      case round =>
        clear HP4 HV4 HB4
        obtain ⟨j, hj, rfl, hown, hvar, hbel⟩ := hrel
        have HV := Lib.hid hvar
        have HB := Lib.hid hbel
        have HO := Lib.hid hown
        clear hown hbel hvar
        by_cases hjt : j < N
        · obtain ⟨v0, v1⟩ := HV.out.c
          have hNk := HN.out
          obtain ⟨q1, q2⟩ := HL.out k j (by omega)
          obtain ⟨F, hF⟩ : ∃ F, f k j = F := ⟨_, rfl⟩
          have hcl : ∀ W : World, Below wr.heap.size wr W → _ := fun W hW => HF.out k j W (by omega) (HB.out.trans (hW.mono HB.out.size))
          rw [hF] at q1 q2 hcl
          have HC := Lib.hid hcl
          have hTl : k < ((Pl.tab m d f).take k ++ (((Ser.cut m (d - k) (f k)).take j ++ List.replicate (N - j) 0) :: List.replicate (d + 1 - (k + 1)) [])).length := by rw [Pl.tab_mid_length m d f k (by omega)]; omega
          obtain ⟨b, c', g1, g2, g3, g4, hcel⟩ := HO.out.numB k j N hTl (by rw [Pl.tab_mid m d f k (by omega)]; have := row_len m (d - k) (f k) j (by omega); rw [hNk] at this; exact this) hjt
          have hset : ∀ _ : Nat, ((Pl.tab m d f).take k ++ (((Ser.cut m (d - k) (f k)).take j ++ List.replicate (N - j) 0) :: List.replicate (d + 1 - (k + 1)) [])).set k ((Pl.rw' ((Pl.tab m d f).take k ++ (((Ser.cut m (d - k) (f k)).take j ++ List.replicate (N - j) 0) :: List.replicate (d + 1 - (k + 1)) [])) k).set j (F % m)) =
              (Pl.tab m d f).take k ++ (((Ser.cut m (d - k) (f k)).take (j + 1) ++ List.replicate (N - (j + 1)) 0) :: List.replicate (d + 1 - (k + 1)) []) := by
            intro _
            rw [Pl.tab_mid m d f k (by omega), Pl.tab_step2 m d f k (by omega), ← hF, cut_stepL m (d - k) (f k) j N hNk.symm (by omega)]
          have hcell2 : ∀ W, Below wr.heap.size wr W → (W.cell? ⟨w.heap.size + 1 + 1, k, none⟩ = some (.slice (some ⟨b, 0, none⟩) N c') ∧ (∃ y, W.cell? ⟨b, j, none⟩ = some (.int .i64 y)) ∧ W.frozen? ⟨b, j, none⟩ = false ∧
              OwnR (W.setCell ⟨b, j, none⟩ (.int .i64 (F % m))) (w.heap.size + 2) wr.heap.size (.slice (some ⟨w.heap.size + 1 + 1, 0, none⟩) (d + 1) (d + 1)) ((Pl.tab m d f).take k ++ (((Ser.cut m (d - k) (f k)).take (j + 1) ++ List.replicate (N - (j + 1)) 0) :: List.replicate (d + 1 - (k + 1)) []))) := by
            intro W hW
            obtain ⟨c1, c2, c3, c4⟩ := hcel W hW
            have := c4 (F % m)
            rw [hset 0] at this
            exact ⟨c1, ⟨_, c2⟩, c3, this⟩
          have HCE := Lib.hid hcell2
          obtain ⟨c1, _⟩ := hcell2 wr (Below.refl _ _)
          have i1 : (0 : Int) ≤ (j : Int) := by omega
          have i2 : (j : Int) < (N : Int) := by omega
          have i3 : (0 : Int) ≤ (k : Int) := by omega
          have l1 : w.heap.size < wr.heap.size := HV.out.1.lt
          clear hF hcl hTl hcel hset hcell2 hNk
          go_wp2
          go_region_held3 (fun w' => w'.cell? ⟨w.heap.size, 0, none⟩ = some (.int .i64 m) ∧ w'.cell? ⟨w.heap.size + 1 + 1, k, none⟩ = some (.slice (some ⟨b, 0, none⟩) N c')) (first | exact ⟨v0, c1⟩ | exact kp_call hb5 ⟨v0, c1⟩ | exact kp_store (by show b ≠ w.heap.size; omega) g4 (by assumption)) (first
            | (go_at_call 67; refine (remainder_any _ _ _ h1 h2 q1 q2).mono ?_; rintro e w' ⟨rfl, rfl⟩)
            | (refine (HC.out _ (below_drew0 _)).mono ?_; rintro e w5 ⟨rfl, hb5⟩; obtain ⟨_, ⟨y0, s2⟩, s3, s4⟩ := HCE.out w5 (below_step (below_drew0 _) hb5)))
          all_goals
            have k1 := s4.more (show wr.heap.size ≤ (w5.setCell ⟨b, j, none⟩ (.int .i64 (F % m))).heap.size by have := hb5.size; simp only [World.setCell, Array.size_modify]; exact this)
            have k2 := (HV.out.keep (below_step (below_drew0 _) hb5)).far b j (.int .i64 (F % m)) g2
            have k3 := (below_step HB.out (below_step (below_drew0 wr) hb5)).setCell (p := ⟨b, j, none⟩) (by show w.heap.size ≤ b; omega) (.int .i64 (F % m))
            have K1 := Lib.hid k1
            have K2 := Lib.hid k2
            have K3 := Lib.hid k3
            clear k1 k2 k3 s4 HCE HC hb5 s2 s3
            go_wp2
            go_roundw
            case rel => exact ⟨j + 1, by omega, by go_num, K1.out, K2.out, K3.out⟩
            case measure => simp only [intOf]; omega
        · obtain rfl : j = N := by omega
          have ho := HO.out
          have hNk := HN.out
          rw [List.take_of_length_le (l := Ser.cut m (d - k) (f k)) (by rw [Ser.cut_length]; omega), Nat.sub_self, List.replicate_zero, List.append_nil, Pl.tab_done m d f k (by omega)] at ho
          have HO2 := Lib.hid ho
          clear ho HO hNk
          go_wp2
          go_roundw
          case rel => exact ⟨k + 1, by omega, by go_num, HO2.out, HV.out, HB.out⟩
          case measure => simp only [intOf]; omega
    · obtain rfl : k = d + 1 := by omega
      have ho := HO.out
      rw [Pl.tab_take_all, Nat.sub_self, List.replicate_zero, List.append_nil] at ho
      obtain ⟨v0, v1⟩ := HV.out.c
      have hv := HV.out.2
      have q3 := hv.fz 0
      have q4 := hv.fz 1
      have q5 := hv.fz 2
      have q6 := hv.cell 0 _ rfl
      have q7 := hv.cell 1 _ rfl
      have q8 := hv.cell 2 _ rfl
      simp only [List.getElem_toArray, List.getElem_cons_zero, List.getElem_cons_succ] at q6 q7 q8
      obtain ⟨f0, f1, f2, f3, f4⟩ := fin_grid (w := w) hv ho (by omega) (by omega) (Nat.le_refl _) HB.out (.int .i64 m) (.int .i64 d) (.slice (some ⟨w.heap.size + 1 + 1, 0, none⟩) (d + 1) (d + 1))
      have F3 := Lib.hid f3
      have F4 := Lib.hid f4
      unfold set3 at f0 f1 f2
      clear f3 f4 ho hv HO HV HB
      go_wp2
      refine bodyPost_ret (v := .agg #[.int .i64 m, .int .i64 d, .slice (some ⟨w.heap.size + 1 + 1, 0, none⟩) (d + 1) (d + 1)]) (by simp [results, Try.results44, go_sem, f0, f1, f2]) rfl ⟨_, rfl, F3.out.low (by omega), F4.out⟩
end Go.Proofs.Ytfhdgcndiljjcab

/- Contracts of the looks at planes, of the program and of the model. -/
namespace Go.Proofs.Ytfhdgcndiljjcab
open Go.RowKit Go.WideShapes Go.ChangeShapes Go.ChangeAt

/-- row i of a table of n rows is as a plane's -/
def rowOk (m : Int) (n : Nat) (t : List (List Int)) (i : Nat) : Bool := decide ((Pl.rw' t i).length + i = n) && allIn 0 (m - 1) (Pl.rw' t i)
/-- a table with a modulus is a plane -/
def isP (m : Int) (t : List (List Int)) : Bool := isM m && (inB (t.length : Int) 2 11 && (List.range t.length).all (rowOk m t.length t))
theorem all_succ (f : Nat → Bool) (k : Nat) : (List.range (k + 1)).all f = ((List.range k).all f && f k) := by
  rw [List.range_succ, List.all_append]; simp
theorem all_no (f : Nat → Bool) (k n : Nat) (h : k < n) (hf : f k = false) : (List.range n).all f = false := by
  rw [← Bool.not_eq_true, List.all_eq_true]
  intro hh
  have := hh k (List.mem_range.2 h)
  rw [hf] at this
  exact absurd this (by decide)
theorem plOk_of {m : Int} {t : List (List Int)} (h : isP m t = true) : ∃ d, t.length = d + 1 ∧ Pl.Ok m d t := by
  unfold isP at h
  rw [Bool.and_eq_true, Bool.and_eq_true, isM_iff, inB_iff, List.all_eq_true] at h
  obtain ⟨⟨m1, m2⟩, ⟨n1, n2⟩, hr⟩ := h
  obtain ⟨d, hd⟩ : ∃ d, t.length = d + 1 := ⟨t.length - 1, by omega⟩
  have key : ∀ i, i ≤ d → (Pl.rw' t i).length + i = d + 1 ∧ allIn 0 (m - 1) (Pl.rw' t i) = true := by
    intro i hi
    have := hr i (List.mem_range.2 (by omega))
    unfold rowOk at this
    rw [Bool.and_eq_true, decide_eq_true_iff, hd] at this
    exact this
  refine ⟨d, hd, m1, m2, by omega, by omega, hd, fun i hi => by have := (key i hi).1; omega, fun i => ?_⟩
  by_cases hi : i ≤ d
  · intro j
    by_cases hj : j < (Pl.rw' t i).length
    · have h1 := List.all_eq_true.1 (key i hi).2 _ (List.getElem_mem hj)
      have h2 := (inB_iff _ _ _).1 h1
      unfold Ser.co
      rw [List.getElem?_eq_getElem hj]
      simp only [Option.getD_some]
      omega
    · rw [Ser.co_over (by omega)]; omega
  · rw [Pl.rw_over (by omega)]
    intro j; rw [Ser.co_over (Nat.zero_le _)]; omega
theorem isP_len {m : Int} {t : List (List Int)} (h : isP m t = true) : 2 ≤ t.length ∧ t.length ≤ 11 := by
  unfold isP at h
  rw [Bool.and_eq_true, Bool.and_eq_true, inB_iff] at h
  omega

set_option maxHeartbeats 1000000 in
theorem plane_any (m d : Int) (A : Option Addr) (n c : Nat) (w : World) :
    Calls Try.prog 21 #[.agg #[.int .i64 m, .int .i64 d, .slice A n c]] w fun e w' => e = .returned (.agg #[.int .i64 m, .slice A n c]) ∧ Below w.heap.size w w' := by
  go_enter Try.func21, Try.ntmps21
  go_wp2
  exact bodyPost_ret (v := .agg #[.int .i64 m, .slice A n c]) (by simp [results, Try.results21, go_sem]) rfl ⟨rfl, below_alloc _ (below_one _ _)⟩

/-- the frame of a grid's value -/
theorem field_frame (a b c : Value) (W : World) : (Instr.field 43 (.agg #[a, b, c]) 0).run Try.prog W = .ok (.agg #[a, b]) W := by kernel_rfl
theorem frm_in {w w1 : World} {m : Int} {d : Nat} {t1 t2 : TypeId} {A : Option Addr} {n c : Nat} (hb : Below (w.alloc (.cells #[.int .i64 m, .slice A n c] t1)).heap.size (w.alloc (.cells #[.int .i64 m, .slice A n c] t1)) w1) :
    ∃ W, w1.alloc (.cells #[.int .i64 m, .int .i64 d] t2) = W ∧ VarC t2 W w1.heap.size #[.int .i64 m, .int .i64 d] ∧ Box W w.heap.size m A n c ∧ Below w.heap.size w W :=
  ⟨_, rfl, VarC.new _ _ _, ((Box.newT t1 w m A n c).keep hb).keep (below_one _ _), below_alloc _ (below_step (below_one _ _) hb)⟩
end Go.Proofs.Ytfhdgcndiljjcab

/- Contracts of the looks at planes, of the model; of the codes of planes. -/
namespace Go.Proofs.Ytfhdgcndiljjcab
open Go.RowKit Go.WideShapes Go.ChangeShapes Go.ChangeAt

theorem l03Make_any (m : Int) (A : Option Addr) (n c : Nat) (w : World) :
    Calls Try.prog 17 #[.int .i64 m, .slice A n c] w fun e w' => e = .returned (.agg #[.int .i64 m, .slice A n c]) ∧ Below w.heap.size w w' := by
  go_enter Try.func17, Try.ntmps17
  go_wp2
  exact bodyPost_ret (v := .agg #[.int .i64 m, .slice A n c]) (by simp [results, Try.results17, go_sem]) rfl ⟨rfl, below_one _ _⟩

end Go.Proofs.Ytfhdgcndiljjcab

/- Contracts of the exact laws' helpers on planes: size, copying, comparing, marking, looking at the marks. -/
namespace Go.Proofs.Ytfhdgcndiljjcab
open Go.RowKit Go.WideShapes Go.ChangeShapes Go.ChangeAt

/-- the slice of slices at A, wherever they begin, holds the rows -/
def RQ (w : World) (A : Option Addr) (t : List (List Int)) : Prop :=
  t ≠ [] → ∃ ad : Addr, A = some ad ∧ ad.block < w.heap.size ∧ ∀ k, k < t.length → ∃ A' c', w.cell? (ad.add k) = some (.slice A' (Pl.rw' t k).length c') ∧ RA w A' (Pl.rw' t k)
theorem RQ.below {w w' : World} {A : Option Addr} {t : List (List Int)} (h : RQ w A t) (hb : Below w.heap.size w w') : RQ w' A t := by
  intro hl
  obtain ⟨ad, e, hlt, hc⟩ := h hl
  refine ⟨ad, e, Nat.lt_of_lt_of_le hlt hb.size, fun k hk => ?_⟩
  obtain ⟨A', c', h1, h3⟩ := hc k hk
  exact ⟨A', c', (hb.cell (p := ad.add k) (by rw [add_block]; exact hlt)).trans h1, h3.below hb⟩
theorem RQ.at {w : World} {A : Option Addr} {t : List (List Int)} (h : RQ w A t) (k : Nat) (hk : k < t.length) :
    ∃ (ad : Addr) (A' : Option Addr) (c' : Nat), A = some ad ∧ ad.block < w.heap.size ∧ w.cell? (ad.add k) = some (.slice A' (Pl.rw' t k).length c') ∧ RA w A' (Pl.rw' t k) := by
  obtain ⟨ad, e, hlt, hc⟩ := h (by rintro rfl; simp at hk)
  obtain ⟨A', c', h1, h3⟩ := hc k hk
  exact ⟨ad, A', c', e, hlt, h1, h3⟩

theorem take_tot (t : List (List Int)) (j : Nat) (h : j < t.length) : tot (t.take (j + 1)) = tot (t.take j) + (Pl.rw' t j).length := take_succ_tot t j h
/-- how many elements a table has on both levels -/
def szT (t : List (List Int)) : Nat := t.length + tot t
theorem tot_row (t : List (List Int)) (k : Nat) : (Pl.rw' t k).length ≤ tot t := by
  by_cases hk : k < t.length
  · have h1 := take_tot t k hk
    have h2 := tot_take_le t (k + 1)
    omega
  · rw [Pl.rw_over (by omega)]; exact Nat.zero_le _


theorem rows_step (t : List (List Int)) (k : Nat) (h : k < t.length) : (t.take k ++ List.replicate (t.length - k) []).set k (Pl.rw' t k) = t.take (k + 1) ++ List.replicate (t.length - (k + 1)) [] := by
  have e : t[k] = Pl.rw' t k := by unfold Pl.rw'; rw [List.getElem?_eq_getElem h]; rfl
  rw [List.set_append_right _ _ (by simp; omega), List.length_take, Nat.min_eq_left (by omega), Nat.sub_self, show t.length - k = (t.length - (k + 1)) + 1 by omega, List.replicate_succ, List.set_cons_zero, List.take_succ_eq_append_getElem h, e, List.append_assoc]
  rfl


set_option maxHeartbeats 1000000 in
theorem eqPlane_any (m : Int) (v u : Value) (lo hi lo' hi' : Nat) (t : List (List Int)) (w : World) (hl : szT t ≤ 1048576) (ha : OwnR w lo hi v t) (hb : OwnR w lo' hi' u t) (h1 : hi ≤ w.heap.size) (h2 : hi' ≤ w.heap.size) :
    Calls Try.prog 8 #[.agg #[.int .i64 m, v], .agg #[.int .i64 m, u]] w fun e w' => e = .returned (.bool true) ∧ Below w.heap.size w w' := by
  have hb2 := (below_alloc (.cells #[.int .i64 m, u] 25) (below_one w (.cells #[.int .i64 m, v] 25)))
  have HA := Lib.hid (ha.keep (hb2.mono h1))
  have HB := Lib.hid (hb.keep (hb2.mono h2))
  have HE := Lib.hid (fun W0 a b => eqInt64SS_any v u lo hi lo' hi' t W0 (by unfold szT at hl; omega) (fun k => by have := tot_row t k; unfold szT at hl; unfold Pl.rw' at this; omega) a b)
  obtain ⟨A, c, rfl, -⟩ := ha.len
  obtain ⟨B, d, rfl, -⟩ := hb.len
  have H2 := Lib.hid hb2
  clear ha hb hb2
  go_enter Try.func8, Try.ntmps8
  go_wp2_with (go_at_call 22; refine (HE.out _ HA.out HB.out).mono ?_; rintro e w' ⟨rfl, hb3⟩)
  go_ret
  exact ⟨rfl, below_step H2.out hb3⟩

set_option maxHeartbeats 1000000 in
theorem markPlane_any (m : Int) (v : Value) (lo hi : Nat) (t : List (List Int)) (k : Int) (w : World) (hl : szT t ≤ 1048576) (hk : 0 ≤ k) (hk2 : k ≤ 500000000000) (hown : OwnR w lo hi v t) (h1 : hi ≤ w.heap.size) :
    Calls Try.prog 11 #[.agg #[.int .i64 m, v], .int .i64 k] w fun e w' => e = .returned (.int .i64 (k + tot t)) ∧ OwnR w' lo hi v (mkR k t) ∧ Span lo hi w w' := by
  obtain ⟨A, c, rfl, _⟩ := hown.len
  have HO := Lib.hid (hown.keep ((below_one w (.cells #[.int .i64 m, .slice A t.length c] 25)).mono h1))
  have HM := Lib.hid (fun W0 h => markInt64SS_any (.slice A t.length c) lo hi t k W0 (by unfold szT at hl; omega) (by unfold szT at hl; omega) hk hk2 h)
  clear hown
  go_enter Try.func11, Try.ntmps11
  go_wp2_with (go_at_call 23; refine (HM.out _ HO.out).mono ?_; rintro e w' ⟨rfl, ho2, hg2⟩)
  go_ret
  exact ⟨rfl, ho2, (Span.of_grown (grown_alloc w (.cells #[.int .i64 m, .slice A t.length c] 25) none) (fun g hg => by cases hg)).trans hg2⟩

set_option maxHeartbeats 1000000 in
theorem heldPlane_any (m : Int) (v : Value) (lo hi : Nat) (t : List (List Int)) (k : Int) (w : World) (hl : szT t ≤ 1048576) (hk : 0 ≤ k) (hk2 : k ≤ 500000000000) (hown : OwnR w lo hi v (mkR k t)) (h1 : hi ≤ w.heap.size) :
    Calls Try.prog 12 #[.agg #[.int .i64 m, v], .int .i64 k] w fun e w' => e = .returned (.int .i64 (k + tot t)) ∧ Below w.heap.size w w' := by
  obtain ⟨A, c, rfl, _⟩ := hown.len
  have HO := Lib.hid (hown.keep ((below_one w (.cells #[.int .i64 m, .slice A (mkR k t).length c] 25)).mono h1))
  have HM := Lib.hid (fun W0 h => heldInt64SS_any (.slice A (mkR k t).length c) lo hi t k W0 (by unfold szT at hl; omega) (by unfold szT at hl; omega) hk hk2 h)
  clear hown
  go_enter Try.func12, Try.ntmps12
  go_wp2_with (go_at_call 24; refine (HM.out _ HO.out).mono ?_; rintro e w' ⟨rfl, rfl⟩)
  go_ret
  exact ⟨rfl, below_one _ _⟩
end Go.Proofs.Ytfhdgcndiljjcab

/- Helpers of the exact laws over planes and series. -/
namespace Go.Proofs.Ytfhdgcndiljjcab
open Go.RowKit Go.WideShapes Go.ChangeShapes Go.ChangeAt

theorem lenT {t : List (List Int)} (h : szT t ≤ 1048576) : t.length ≤ 9223372036854775807 := by unfold szT at h; omega
theorem rowT {t : List (List Int)} (h : szT t ≤ 1048576) (k : Nat) : (Pl.rw' t k).length ≤ 9223372036854775807 := by have := tot_row t k; unfold szT at h; omega
theorem Box.span {w w' : World} {g lo hi : Nat} {m : Int} {A : Option Addr} {n c : Nat} (hx : Box w g m A n c) (hs : Span lo hi w w') (hd : g < lo ∨ hi ≤ g) : Box w' g m A n c := by
  obtain ⟨h1, h2, h3⟩ := hx
  have hb := hs.block g h3 hd
  exact ⟨by rw [← h1]; simp only [World.cell?, hb], by rw [← h2]; simp only [World.cell?, hb], Nat.lt_of_lt_of_le h3 hs.size⟩
theorem varC_keep {t : TypeId} {cur wd : World} {g : Nat} {cs : Array Value} (h : VarC t cur g cs) (hb : Below cur.heap.size cur wd) : VarC t wd g cs ∧ g < cur.heap.size := ⟨h.keep hb, h.lt⟩
theorem varC_at {t : TypeId} {w : World} {g k : Nat} {cs : Array Value} (_h : VarC t w g cs) (hk : k ≤ g) : k ≤ g := hk
/-- a plane has been stored into a variable that lay there before the call -/
theorem reg_finP {t : TypeId} {wk cur wd : World} {g : Nat} {A : Option Addr} {n c : Nat} {T : List (List Int)} {x y : Value} (hk : wk.heap.size ≤ g) (hgc : g < cur.heap.size) (hv : VarC t wd g #[x, y]) (ho : OwnR wd cur.heap.size wd.heap.size (.slice A n c) T) (hb : Below wk.heap.size wk wd) (M : Int) :
    OwnR ((wd.setCell ⟨g, 0, none⟩ (.int .i64 M)).setCell ⟨g, 1, none⟩ (.slice A n c)) wk.heap.size ((wd.setCell ⟨g, 0, none⟩ (.int .i64 M)).setCell ⟨g, 1, none⟩ (.slice A n c)).heap.size (.slice A n c) T ∧ Box ((wd.setCell ⟨g, 0, none⟩ (.int .i64 M)).setCell ⟨g, 1, none⟩ (.slice A n c)) g M A n c ∧
    Below wk.heap.size wk ((wd.setCell ⟨g, 0, none⟩ (.int .i64 M)).setCell ⟨g, 1, none⟩ (.slice A n c)) := by
  have h2 := (hv.set 0 (.int .i64 M)).set 1 (.slice A n c)
  have hg := grown_set2 wd g (.int .i64 M) (.slice A n c)
  have ho2 := ho.far (Span.of_grown (lo := g) (hi := g + 1) hg (fun b hb => by injection hb with hb; omega)) (.inr (by omega))
  have hlt := hv.lt
  refine ⟨(ho2.low (by omega)).more hg.size, ⟨h2.cell 0 _ rfl, h2.cell 1 _ rfl, h2.lt⟩, (hb.setCell hk _).setCell hk _⟩
/-- a plane has been stored into a new variable -/
theorem reg_newP {wk cur wd : World} {A : Option Addr} {n c : Nat} {T : List (List Int)} (hk : wk.heap.size ≤ cur.heap.size) (ho : OwnR wd cur.heap.size wd.heap.size (.slice A n c) T) (hb : Below wk.heap.size wk wd) (M : Int) (t : TypeId) :
    OwnR (wd.alloc (.cells #[.int .i64 M, .slice A n c] t)) wk.heap.size (wd.alloc (.cells #[.int .i64 M, .slice A n c] t)).heap.size (.slice A n c) T ∧ Box (wd.alloc (.cells #[.int .i64 M, .slice A n c] t)) wd.heap.size M A n c ∧ Below wk.heap.size wk (wd.alloc (.cells #[.int .i64 M, .slice A n c] t)) :=
  ⟨((ho.keep (below_one _ _)).low hk).more (below_one wd _).size, Box.newT _ _ _ _ _ _, below_alloc _ hb⟩
theorem startB2 (t t' : TypeId) (w : World) (m : Int) (A : Option Addr) (n c : Nat) (m' : Int) (A' : Option Addr) (n' c' : Nat) :
    ∃ W, (w.alloc (.cells #[.int .i64 m, .slice A n c] t)).alloc (.cells #[.int .i64 m', .slice A' n' c'] t') = W ∧ Box W w.heap.size m A n c ∧ Box W (w.heap.size + 1) m' A' n' c' ∧ Below w.heap.size w W := by
  refine ⟨_, rfl, (Box.newT t w m A n c).keep (below_one _ _), ?_, below_alloc _ (below_one _ _)⟩
  have := Box.newT t' (w.alloc (.cells #[.int .i64 m, .slice A n c] t)) m' A' n' c'
  simpa using this
theorem startB3 (t t' t'' : TypeId) (w : World) (m : Int) (A : Option Addr) (n c : Nat) (m' : Int) (A' : Option Addr) (n' c' : Nat) (m'' : Int) (A'' : Option Addr) (n'' c'' : Nat) :
    ∃ W, ((w.alloc (.cells #[.int .i64 m, .slice A n c] t)).alloc (.cells #[.int .i64 m', .slice A' n' c'] t')).alloc (.cells #[.int .i64 m'', .slice A'' n'' c''] t'') = W ∧ Box W w.heap.size m A n c ∧ Box W (w.heap.size + 1) m' A' n' c' ∧ Box W (w.heap.size + 1 + 1) m'' A'' n'' c'' ∧ Below w.heap.size w W := by
  obtain ⟨W0, h0, h1, h2, h3⟩ := startB2 t t' w m A n c m' A' n' c'
  have hs : W0.heap.size = w.heap.size + 1 + 1 := by rw [← h0]; simp
  rw [h0]
  refine ⟨_, rfl, h1.keep (below_one _ _), h2.keep (below_one _ _), ?_, below_alloc _ h3⟩
  rw [← hs]
  exact Box.newT _ _ _ _ _ _
theorem frth {p q r s : Prop} (h : p ∧ q ∧ r ∧ s) : s := h.2.2.2
theorem reg_end2 {wk cur wd : World} {p q : Prop} (hs : p ∧ q ∧ Below wk.heap.size wk cur) (hb : Below cur.heap.size cur wd) : Below wk.heap.size wk wd ∧ wk.heap.size ≤ cur.heap.size := reg_end hs hb
theorem reg_end3 {wk cur wd : World} {p q r : Prop} (hs : p ∧ q ∧ r ∧ Below wk.heap.size wk cur) (hb : Below cur.heap.size cur wd) : Below wk.heap.size wk wd ∧ wk.heap.size ≤ cur.heap.size :=
  ⟨below_step hs.2.2.2 hb, hs.2.2.2.size⟩
theorem box3_in {W w' : World} {g g' g'' : Nat} {m m' m'' : Int} {A A' A'' : Option Addr} {n c n' c' n'' c'' : Nat} (h : Box W g m A n c) (h' : Box W g' m' A' n' c') (h'' : Box W g'' m'' A'' n'' c'') (hb : Below W.heap.size W w') :
    (w'.cell? ⟨g, 0, none⟩ = some (.int .i64 m) ∧ w'.cell? ⟨g, 1, none⟩ = some (.slice A n c)) ∧ (w'.cell? ⟨g', 0, none⟩ = some (.int .i64 m') ∧ w'.cell? ⟨g', 1, none⟩ = some (.slice A' n' c')) ∧ (w'.cell? ⟨g'', 0, none⟩ = some (.int .i64 m'') ∧ w'.cell? ⟨g'', 1, none⟩ = some (.slice A'' n'' c'')) ∧ Below W.heap.size W w' :=
  ⟨box_in h hb, box_in h' hb, box_in h'' hb, hb⟩
theorem box3_alloc {W w : World} {g g' g'' : Nat} {m m' m'' : Int} {A A' A'' : Option Addr} {n c n' c' n'' c'' : Nat} {p q r : Prop} {o : Obj} (h : Box W g m A n c) (h' : Box W g' m' A' n' c') (h'' : Box W g'' m'' A'' n'' c'') (hs : p ∧ q ∧ r ∧ Below W.heap.size W w) :
    ((w.alloc o).cell? ⟨g, 0, none⟩ = some (.int .i64 m) ∧ (w.alloc o).cell? ⟨g, 1, none⟩ = some (.slice A n c)) ∧ ((w.alloc o).cell? ⟨g', 0, none⟩ = some (.int .i64 m') ∧ (w.alloc o).cell? ⟨g', 1, none⟩ = some (.slice A' n' c')) ∧ ((w.alloc o).cell? ⟨g'', 0, none⟩ = some (.int .i64 m'') ∧ (w.alloc o).cell? ⟨g'', 1, none⟩ = some (.slice A'' n'' c'')) ∧ Below W.heap.size W (w.alloc o) :=
  box3_in h h' h'' (below_alloc _ hs.2.2.2)
end Go.Proofs.Ytfhdgcndiljjcab

/- Contracts of IsPlane at planes of bounded size. -/
namespace Go.Proofs.Ytfhdgcndiljjcab
open Go.RowKit Go.WideShapes Go.ChangeShapes Go.ChangeAt

end Go.Proofs.Ytfhdgcndiljjcab

/- Contracts of the codes of planes: one, two; of the program and of the model. -/
namespace Go.Proofs.Ytfhdgcndiljjcab
open Go.RowKit Go.WideShapes Go.ChangeShapes Go.ChangeAt

/-- the code of one plane, of two -/
def codeP1 (m : Int) (t : List (List Int)) : Int := if isP m t = true then 0 else 1
def codeP2 (m : Int) (t : List (List Int)) (m' : Int) (t' : List (List Int)) : Int := if isP m t = true ∧ isP m' t' = true then (if m = m' ∧ t.length = t'.length then 0 else 2) else 1
theorem var_inT {T : TypeId} {w w' : World} {g : Nat} {m m' : Int} {A A' : Option Addr} {n c n' c' : Nat} (hx : Box w g m A n c) (hb : Below w.heap.size w w') :
    ∃ W, (w'.alloc (.cells #[.int .i64 m', .slice A' n' c'] T)) = W ∧ Box W w'.heap.size m' A' n' c' ∧ Box W g m A n c ∧ Below w.heap.size w W :=
  ⟨_, rfl, Box.newT _ _ _ _ _ _, hx.keep (below_alloc _ hb), below_alloc _ hb⟩


theorem codeP1_zero {m : Int} {t : List (List Int)} (h : codeP1 m t = 0) : isP m t = true := by
  unfold codeP1 at h
  by_cases h1 : isP m t = true
  · exact h1
  · rw [if_neg h1] at h; exact absurd h (by decide)
theorem codeP1_yes {m : Int} {t : List (List Int)} (h : isP m t = true) : codeP1 m t = 0 := by unfold codeP1; rw [if_pos h]
theorem codeP1_no {m : Int} {t : List (List Int)} (h : isP m t = false) : codeP1 m t = 1 := by unfold codeP1; rw [h]; rfl
theorem codeP2_ok {m : Int} {t : List (List Int)} {m' : Int} {t' : List (List Int)} (h : codeP2 m t m' t' = 0) : m = m' ∧ ∃ d, t.length = d + 1 ∧ t'.length = d + 1 ∧ Pl.Ok m d t ∧ Pl.Ok m d t' := by
  unfold codeP2 at h
  by_cases h1 : isP m t = true ∧ isP m' t' = true
  · rw [if_pos h1] at h
    by_cases h2 : m = m' ∧ t.length = t'.length
    · obtain ⟨rfl, h2⟩ := h2
      obtain ⟨d, e, s⟩ := plOk_of h1.1
      obtain ⟨d', e', s'⟩ := plOk_of h1.2
      obtain rfl : d' = d := by omega
      exact ⟨rfl, d', e, e', s, s'⟩
    · rw [if_neg h2] at h; exact absurd h (by decide)
  · rw [if_neg h1] at h; exact absurd h (by decide)
end Go.Proofs.Ytfhdgcndiljjcab

/- What the methods of grids share: their boxes, their results; planes with one code. -/
namespace Go.Proofs.Ytfhdgcndiljjcab
open Go.RowKit Go.WideShapes Go.ChangeShapes Go.ChangeAt

/-- the block of a grid in a variable of its own -/
def GBox (w : World) (g : Nat) (m : Int) (d : Nat) (A : Option Addr) (n c : Nat) : Prop :=
  w.cell? ⟨g, 0, none⟩ = some (.int .i64 m) ∧ w.cell? ⟨g, 1, none⟩ = some (.int .i64 d) ∧ w.cell? ⟨g, 2, none⟩ = some (.slice A n c) ∧ g < w.heap.size
theorem GBox.new (T : TypeId) (w : World) (m : Int) (d : Nat) (A : Option Addr) (n c : Nat) : GBox (w.alloc (.cells #[.int .i64 m, .int .i64 d, .slice A n c] T)) w.heap.size m d A n c := by
  have h := VarC.new T w #[.int .i64 m, .int .i64 d, .slice A n c]
  exact ⟨h.cell 0 _ rfl, h.cell 1 _ rfl, h.cell 2 _ rfl, h.lt⟩
theorem GBox.keep {w w' : World} {g : Nat} {m : Int} {d : Nat} {A : Option Addr} {n c : Nat} (h : GBox w g m d A n c) (hb : Below w.heap.size w w') : GBox w' g m d A n c :=
  ⟨(hb.cell (p := ⟨g, 0, none⟩) h.2.2.2).trans h.1, (hb.cell (p := ⟨g, 1, none⟩) h.2.2.2).trans h.2.1, (hb.cell (p := ⟨g, 2, none⟩) h.2.2.2).trans h.2.2.1, Nat.lt_of_lt_of_le h.2.2.2 hb.size⟩
/-- a grid's box and its result's variable -/
theorem gpro1 (w : World) (m : Int) (d : Nat) (A : Option Addr) (n c : Nat) : ∃ W, (w.alloc (.cells #[.int .i64 m, .int .i64 d, .slice A n c] 43)).alloc (.cells #[.int .i64 0, .int .i64 0, .slice none 0 0] 43) = W ∧
    GBox W w.heap.size m d A n c ∧ VarC 43 W (w.heap.size + 1) #[.int .i64 0, .int .i64 0, .slice none 0 0] ∧ Below w.heap.size w W := by
  refine ⟨_, rfl, (GBox.new _ _ _ _ _ _ _).keep (below_one _ _), ?_, below_alloc _ (below_one _ _)⟩
  have := VarC.new 43 (w.alloc (.cells #[.int .i64 m, .int .i64 d, .slice A n c] 43)) #[.int .i64 0, .int .i64 0, .slice none 0 0]
  simpa using this
/-- two grids' boxes and the result's variable -/
theorem gpro2 (w : World) (m : Int) (d : Nat) (A : Option Addr) (n c : Nat) (m' : Int) (d' : Nat) (A' : Option Addr) (n' c' : Nat) : ∃ W, ((w.alloc (.cells #[.int .i64 m, .int .i64 d, .slice A n c] 43)).alloc (.cells #[.int .i64 m', .int .i64 d', .slice A' n' c'] 43)).alloc (.cells #[.int .i64 0, .int .i64 0, .slice none 0 0] 43) = W ∧
    GBox W w.heap.size m d A n c ∧ GBox W (w.heap.size + 1) m' d' A' n' c' ∧ VarC 43 W (w.heap.size + 1 + 1) #[.int .i64 0, .int .i64 0, .slice none 0 0] ∧ Below w.heap.size w W := by
  refine ⟨_, rfl, ((GBox.new _ _ _ _ _ _ _).keep (below_one _ _)).keep (below_one _ _), ?_, ?_, below_alloc _ (below_alloc _ (below_one _ _))⟩
  · have := (GBox.new 43 (w.alloc (.cells #[.int .i64 m, .int .i64 d, .slice A n c] 43)) m' d' A' n' c').keep (below_one _ (.cells #[.int .i64 0, .int .i64 0, .slice none 0 0] 43))
    simpa using this
  · have := VarC.new 43 ((w.alloc (.cells #[.int .i64 m, .int .i64 d, .slice A n c] 43)).alloc (.cells #[.int .i64 m', .int .i64 d', .slice A' n' c'] 43)) #[.int .i64 0, .int .i64 0, .slice none 0 0]
    simpa using this
/-- what a grid's variable tells the walk -/
theorem VarC.tells3 {T : TypeId} {w : World} {g : Nat} {a b c : Value} (h : VarC T w g #[a, b, c]) : w.cell? ⟨g, 0, none⟩ = some a ∧ w.cell? ⟨g, 1, none⟩ = some b ∧ w.cell? ⟨g, 2, none⟩ = some c ∧ w.frozen? ⟨g, 0, none⟩ = false ∧ w.frozen? ⟨g, 1, none⟩ = false ∧ w.frozen? ⟨g, 2, none⟩ = false :=
  ⟨h.cell 0 _ rfl, h.cell 1 _ rfl, h.cell 2 _ rfl, h.fz 0, h.fz 1, h.fz 2⟩
theorem VarC.tells2 {T : TypeId} {w : World} {g : Nat} {a b : Value} (h : VarC T w g #[a, b]) : w.cell? ⟨g, 0, none⟩ = some a ∧ w.cell? ⟨g, 1, none⟩ = some b ∧ w.frozen? ⟨g, 0, none⟩ = false ∧ w.frozen? ⟨g, 1, none⟩ = false :=
  ⟨h.cell 0 _ rfl, h.cell 1 _ rfl, h.fz 0, h.fz 1⟩
/-- a plane is stored into its variable: what the return reads -/
theorem fin_plane {T : TypeId} {w w2 : World} {g lo hi : Nat} {v x y : Value} {t : List (List Int)} (hv : VarC T w2 g #[x, y]) (ho : OwnR w2 lo hi v t) (hg : g < lo ∨ hi ≤ g) (hwg : w.heap.size ≤ g) (hhi : hi ≤ w2.heap.size) (hb : Below w.heap.size w w2) (p q : Value) :
    ((w2.setCell ⟨g, 0, none⟩ p).setCell ⟨g, 1, none⟩ q).cell? ⟨g, 0, none⟩ = some p ∧ ((w2.setCell ⟨g, 0, none⟩ p).setCell ⟨g, 1, none⟩ q).cell? ⟨g, 1, none⟩ = some q ∧
    OwnR ((w2.setCell ⟨g, 0, none⟩ p).setCell ⟨g, 1, none⟩ q) lo ((w2.setCell ⟨g, 0, none⟩ p).setCell ⟨g, 1, none⟩ q).heap.size v t ∧ Below w.heap.size w ((w2.setCell ⟨g, 0, none⟩ p).setCell ⟨g, 1, none⟩ q) := by
  have h := (hv.set 0 p).set 1 q
  refine ⟨h.cell 0 _ rfl, h.cell 1 _ rfl, ?_, (hb.setCell hwg _).setCell hwg _⟩
  exact (ho.far (Span.of_grown (lo := g) (hi := g + 1) (grown_set2 w2 g p q) (fun b hb => by injection hb with hb; omega)) (by omega)).more (Nat.le_trans hhi (grown_set2 w2 g p q).size)
/-- a series is -/
theorem fin_serC {T : TypeId} {w w2 : World} {g base : Nat} {v x y : Value} {l : List Int} (hv : VarC T w2 g #[x, y]) (ho : OwnI w2 base v l) (hg : g < base) (hwg : w.heap.size ≤ g) (hb : Below w.heap.size w w2) (p q : Value) :
    ((w2.setCell ⟨g, 0, none⟩ p).setCell ⟨g, 1, none⟩ q).cell? ⟨g, 0, none⟩ = some p ∧ ((w2.setCell ⟨g, 0, none⟩ p).setCell ⟨g, 1, none⟩ q).cell? ⟨g, 1, none⟩ = some q ∧
    OwnI ((w2.setCell ⟨g, 0, none⟩ p).setCell ⟨g, 1, none⟩ q) base v l ∧ Below w.heap.size w ((w2.setCell ⟨g, 0, none⟩ p).setCell ⟨g, 1, none⟩ q) := by
  have h := (hv.set 0 p).set 1 q
  refine ⟨h.cell 0 _ rfl, h.cell 1 _ rfl, ho.other (grown_set2 w2 g p q) ?_, (hb.setCell hwg _).setCell hwg _⟩
  rcases hc : v.ownBlock with _ | b
  · exact .inl rfl
  · refine .inr (fun e => ?_)
    injection e with e
    have := (ho.lt b hc).1
    omega
/-- a plane's box, its result's variable, the list of the one plane -/
theorem pro1P (w : World) (m : Int) (A : Option Addr) (n c : Nat) : ∃ W, ((w.alloc (.cells #[.int .i64 m, .slice A n c] 25)).alloc (.cells #[.int .i64 0, .slice none 0 0] 25)).alloc (.cells #[.int .i64 m, .slice A n c] 25) = W ∧
    Box W w.heap.size m A n c ∧ VarC 25 W (w.heap.size + 1) #[.int .i64 0, .slice none 0 0] ∧ Box W (w.heap.size + 1 + 1) m A n c ∧ Below w.heap.size w W := by
  refine ⟨_, rfl, ((Box.newT _ _ _ _ _ _).keep (below_one _ _)).keep (below_one _ _), ?_, ?_, below_alloc _ (below_alloc _ (below_one _ _))⟩
  · have := (VarC.new 25 (w.alloc (.cells #[.int .i64 m, .slice A n c] 25)) #[.int .i64 0, .slice none 0 0]).keep (below_one _ (.cells #[.int .i64 m, .slice A n c] 25))
    simpa using this
  · have := Box.newT 25 ((w.alloc (.cells #[.int .i64 m, .slice A n c] 25)).alloc (.cells #[.int .i64 0, .slice none 0 0] 25)) m A n c
    simpa using this
/-- .. of a series -/
theorem pro1S (w : World) (m : Int) (A : Option Addr) (n c : Nat) : ∃ W, ((w.alloc (.cells #[.int .i64 m, .slice A n c] 25)).alloc (.cells #[.int .i64 0, .slice none 0 0] 62)).alloc (.cells #[.int .i64 m, .slice A n c] 25) = W ∧
    Box W w.heap.size m A n c ∧ VarC 62 W (w.heap.size + 1) #[.int .i64 0, .slice none 0 0] ∧ Box W (w.heap.size + 1 + 1) m A n c ∧ Below w.heap.size w W := by
  refine ⟨_, rfl, ((Box.newT _ _ _ _ _ _).keep (below_one _ _)).keep (below_one _ _), ?_, ?_, below_alloc _ (below_alloc _ (below_one _ _))⟩
  · have := (VarC.new 62 (w.alloc (.cells #[.int .i64 m, .slice A n c] 25)) #[.int .i64 0, .slice none 0 0]).keep (below_one _ (.cells #[.int .i64 m, .slice A n c] 25))
    simpa using this
  · have := Box.newT 25 ((w.alloc (.cells #[.int .i64 m, .slice A n c] 25)).alloc (.cells #[.int .i64 0, .slice none 0 0] 62)) m A n c
    simpa using this
/-- the model's: a plane's box and its result's variable -/
theorem spro1P (w : World) (m : Int) (A : Option Addr) (n c : Nat) : ∃ W, (w.alloc (.cells #[.int .i64 m, .slice A n c] 25)).alloc (.cells #[.int .i64 0, .slice none 0 0] 25) = W ∧
    Box W w.heap.size m A n c ∧ VarC 25 W (w.heap.size + 1) #[.int .i64 0, .slice none 0 0] ∧ Below w.heap.size w W := by
  refine ⟨_, rfl, (Box.newT _ _ _ _ _ _).keep (below_one _ _), ?_, below_alloc _ (below_one _ _)⟩
  have := VarC.new 25 (w.alloc (.cells #[.int .i64 m, .slice A n c] 25)) #[.int .i64 0, .slice none 0 0]
  simpa using this
/-- two planes' boxes, the result's variable, the list of both -/
theorem pro2P (w : World) (m : Int) (A : Option Addr) (n c : Nat) (m' : Int) (A' : Option Addr) (n' c' : Nat) : ∃ W, (((w.alloc (.cells #[.int .i64 m, .slice A n c] 25)).alloc (.cells #[.int .i64 m', .slice A' n' c'] 25)).alloc (.cells #[.int .i64 0, .slice none 0 0] 25)).alloc (.cells #[.int .i64 m, .slice A n c, .int .i64 m', .slice A' n' c'] 25) = W ∧
    Box W w.heap.size m A n c ∧ Box W (w.heap.size + 1) m' A' n' c' ∧ VarC 25 W (w.heap.size + 1 + 1) #[.int .i64 0, .slice none 0 0] ∧ Box4 W (w.heap.size + 1 + 1 + 1) m A n c m' A' n' c' ∧ Below w.heap.size w W := by
  obtain ⟨W0, h0, h1, h2, h3⟩ := startB2 25 25 w m A n c m' A' n' c'
  have hs : W0.heap.size = w.heap.size + 1 + 1 := by rw [← h0]; simp
  rw [h0]
  refine ⟨_, rfl, (h1.keep (below_one _ _)).keep (below_one _ _), (h2.keep (below_one _ _)).keep (below_one _ _), ?_, ?_, below_alloc _ (below_alloc _ h3)⟩
  · have := (VarC.new 25 W0 #[.int .i64 0, .slice none 0 0]).keep (below_one _ (.cells #[.int .i64 m, .slice A n c, .int .i64 m', .slice A' n' c'] 25))
    rwa [hs] at this
  · have hv := VarC.new 25 (W0.alloc (.cells #[.int .i64 0, .slice none 0 0] 25)) #[.int .i64 m, .slice A n c, .int .i64 m', .slice A' n' c']
    have e : (W0.alloc (.cells #[.int .i64 0, .slice none 0 0] 25)).heap.size = w.heap.size + 1 + 1 + 1 := by simp [hs]
    rw [e] at hv
    exact ⟨⟨hv.cell 0 _ rfl, hv.cell 1 _ rfl, hv.lt⟩, hv.cell 2 _ rfl, hv.cell 3 _ rfl⟩
/-- .. of the model -/
theorem spro2P (w : World) (m : Int) (A : Option Addr) (n c : Nat) (m' : Int) (A' : Option Addr) (n' c' : Nat) : ∃ W, ((w.alloc (.cells #[.int .i64 m, .slice A n c] 25)).alloc (.cells #[.int .i64 m', .slice A' n' c'] 25)).alloc (.cells #[.int .i64 0, .slice none 0 0] 25) = W ∧
    Box W w.heap.size m A n c ∧ Box W (w.heap.size + 1) m' A' n' c' ∧ VarC 25 W (w.heap.size + 1 + 1) #[.int .i64 0, .slice none 0 0] ∧ Below w.heap.size w W := by
  obtain ⟨W0, h0, h1, h2, h3⟩ := startB2 25 25 w m A n c m' A' n' c'
  have hs : W0.heap.size = w.heap.size + 1 + 1 := by rw [← h0]; simp
  rw [h0]
  refine ⟨_, rfl, h1.keep (below_one _ _), h2.keep (below_one _ _), ?_, below_alloc _ h3⟩
  have := VarC.new 25 W0 #[.int .i64 0, .slice none 0 0]
  rwa [hs] at this
/-- a table of a function's, cut to a degree: how many elements -/
theorem szT_ok {m : Int} {d : Nat} {t : List (List Int)} (h : Pl.Ok m d t) : szT t ≤ 1048576 := by
  have key : ∀ k, k ≤ d + 1 → tot (t.take k) ≤ k * 11 := by
    intro k
    induction k with
    | zero => intro _; simp [tot]
    | succ k ih =>
      intro hk
      have h1 := take_tot t k (by rw [h.len]; omega)
      have h2 := h.row k (by omega)
      have h3 := ih (by omega)
      have h4 := h.d2
      omega
  have h1 := key (d + 1) (Nat.le_refl _)
  rw [List.take_of_length_le (by rw [h.len]; omega)] at h1
  have := h.d2
  have := h.len
  unfold szT
  omega
/-- the model of a function of one plane -/
def oneP (f : Int → Nat → List (List Int) → List (List Int)) (m : Int) (t : List (List Int)) : Int × List (List Int) × Int := if codeP1 m t = 0 then (m, f m (t.length - 1) t, 0) else (0, [], codeP1 m t)
theorem oneP_len (f : Int → Nat → List (List Int) → List (List Int)) (m : Int) (t : List (List Int)) (h : ∀ d, Pl.Ok m d t → szT (f m d t) ≤ 1048576) : szT (oneP f m t).2.1 ≤ 1048576 := by
  unfold oneP
  by_cases hc : codeP1 m t = 0
  · rw [if_pos hc]
    obtain ⟨d, e, ho⟩ := plOk_of (codeP1_zero hc)
    rw [e]
    exact h d ho
  · rw [if_neg hc]; exact Nat.zero_le _
/-- .. of two planes -/
def twoP (f : Int → Nat → List (List Int) → List (List Int) → List (List Int)) (m : Int) (t : List (List Int)) (m' : Int) (t' : List (List Int)) : Int × List (List Int) × Int := if codeP2 m t m' t' = 0 then (m, f m (t.length - 1) t t', 0) else (0, [], codeP2 m t m' t')
theorem twoP_len (f : Int → Nat → List (List Int) → List (List Int) → List (List Int)) (m : Int) (t : List (List Int)) (m' : Int) (t' : List (List Int)) (h : ∀ d, Pl.Ok m d t → Pl.Ok m d t' → szT (f m d t t') ≤ 1048576) : szT (twoP f m t m' t').2.1 ≤ 1048576 := by
  unfold twoP
  by_cases hc : codeP2 m t m' t' = 0
  · rw [if_pos hc]
    obtain ⟨rfl, d, e, _, ho, ho'⟩ := codeP2_ok hc
    rw [e]
    exact h d ho ho'
  · rw [if_neg hc]; exact Nat.zero_le _
end Go.Proofs.Ytfhdgcndiljjcab

/- Contracts of sums and multiples of series, of the program. -/
namespace Go.Proofs.Ytfhdgcndiljjcab
open Go.RowKit Go.WideShapes Go.ChangeShapes Go.ChangeAt

set_option maxHeartbeats 1000000 in
theorem plusC_any (n : Nat) (g g' : Nat) (m : Int) (A : Option Addr) (c : Nat) (l : List Int) (m' : Int) (A' : Option Addr) (c' : Nat) (l' : List Int) (W : World)
    (hb : Box W g m A l.length c) (hb' : Box W g' m' A' l'.length c') (hr : RI W A l) (hr' : RI W A' l') (h1 : n < l.length) (h2 : n < l'.length)
    (h3 : 0 ≤ Ser.co l n) (h4 : Ser.co l n ≤ 10000) (h5 : 0 ≤ Ser.co l' n) (h6 : Ser.co l' n ≤ 10000) :
    Calls Try.prog 79 #[.int .i64 n, .pointer (some ⟨g, 0, none⟩), .pointer (some ⟨g', 0, none⟩)] W fun e w' => e = .returned (.int .i64 (Ser.co l n + Ser.co l' n)) ∧ Below W.heap.size W w' := by
  obtain ⟨b, off, rfl, hlt, hc⟩ := hr.at n h1
  obtain ⟨b', off', rfl, hlt', hc'⟩ := hr'.at n h2
  obtain ⟨x1, x2, _⟩ := hb
  obtain ⟨y1, y2, _⟩ := hb'
  obtain ⟨X, hX⟩ : ∃ X, Ser.co l n = X := ⟨_, rfl⟩
  obtain ⟨Y, hY⟩ : ∃ Y, Ser.co l' n = Y := ⟨_, rfl⟩
  rw [hX] at hc h3 h4 ⊢
  rw [hY] at hc' h5 h6 ⊢
  have j1 : (0 : Int) ≤ (n : Int) := by omega
  have j2 : (n : Int) < (l.length : Int) := by omega
  have j3 : (n : Int) < (l'.length : Int) := by omega
  clear hr hr' hX hY
  go_enter Try.func79, Try.ntmps79
  go_wp2
  go_quiet (fail)
  go_wp2
  go_ret
  exact ⟨rfl, below_drewN (Below.refl _ _) _⟩

/-- the world behind the boxes and the result's variable -/
theorem box3_new (w : World) (m m' : Int) (A A' : Option Addr) (n c n' c' : Nat) (W : World) (hW : (((w.alloc (.cells #[.int .i64 m, .slice A n c] 62)).alloc (.cells #[.int .i64 m', .slice A' n' c'] 62)).alloc (.cells #[.int .i64 0, .slice none 0 0] 62)) = W) :
    Box W w.heap.size m A n c ∧ Box W (w.heap.size + 1) m' A' n' c' ∧ Var2 W (w.heap.size + 1 + 1) (.int .i64 0) (.slice none 0 0) ∧ Below w.heap.size w W := by
  subst hW
  obtain ⟨h1, h2, h3⟩ := box2_new w m m' A A' n c n' c' _ rfl
  refine ⟨h1.keep (below_one _ _), h2.keep (below_one _ _), ?_, below_alloc _ h3⟩
  have := Var2.new ((w.alloc (.cells #[.int .i64 m, .slice A n c] 62)).alloc (.cells #[.int .i64 m', .slice A' n' c'] 62)) (.int .i64 0) (.slice none 0 0)
  simpa using this

set_option maxHeartbeats 2000000 in
set_option maxRecDepth 100000 in
theorem plus_any (m : Int) (d : Nat) (A : Option Addr) (c : Nat) (l : List Int) (m' : Int) (A' : Option Addr) (c' : Nat) (l' : List Int) (w : World) (hs : SerOk m d l) (hs' : SerOk m d l') (hr : RI w A l) (hr' : RI w A' l') :
    Calls Try.prog 59 #[.agg #[.int .i64 m, .slice A l.length c], .agg #[.int .i64 m', .slice A' l'.length c']] w fun e w' => ∃ v, e = .returned (.agg #[.int .i64 m, v]) ∧ OwnI w' w.heap.size v (Ser.cut m d fun n => Ser.co l n + Ser.co l' n) ∧ Below w.heap.size w w' := by
  obtain ⟨W, hW⟩ : ∃ W, (((w.alloc (.cells #[.int .i64 m, .slice A l.length c] 62)).alloc (.cells #[.int .i64 m', .slice A' l'.length c'] 62)).alloc (.cells #[.int .i64 0, .slice none 0 0] 62)) = W := ⟨_, rfl⟩
  obtain ⟨b1, b2, v3, hwb⟩ := box3_new w m m' A A' l.length c l'.length c' W hW
  have B1 := Lib.hid b1
  have B2 := Lib.hid b2
  have V3 := Lib.hid v3
  have HB := Lib.hid hwb
  have HW := Lib.hid hW
  have R1 := Lib.hid (hr.below hwb)
  have R2 := Lib.hid (hr'.below hwb)
  have HS := Lib.hid (fun W0 (h0 : Below W.heap.size W W0) => seriesOf_any m d 79 #[.pointer (some ⟨w.heap.size, 0, none⟩), .pointer (some ⟨w.heap.size + 1, 0, none⟩)] (fun n => Ser.co l n + Ser.co l' n) W0 (by have := hs.m1; omega) hs.m2 (by have := hs.d2; omega)
    (fun n _ => by have h1 := hs.red n; have h2 := hs'.red n; have h3 := hs.m2; omega)
    (enters_fn Try.func79 (of_decide_eq_true (by kernel_rfl)) rfl)
    (fun n W1 hn hb => by
      have h1 := hs.red n
      have h2 := hs'.red n
      have h3 := hs.m2
      have hb2 := h0.trans (hb.mono h0.size)
      exact plusC_any n _ _ m A c l m' A' c' l' W1 (B1.out.keep hb2) (B2.out.keep hb2) (R1.out.below hb2) (R2.out.below hb2) (by rw [hs.len]; omega) (by rw [hs'.len]; omega) (by omega) (by omega) (by omega) (by omega)))
  have HL := Lib.hid hs.len
  have HD := Lib.hid hs.d2
  clear b1 b2 v3 hwb hW hr hr' hs hs'
  go_enter Try.func59, Try.ntmps59
  go_wp2
  rw [HW.out]
  obtain ⟨x1, x2, x3⟩ := B1.out
  go_region_held3 (fun w' => w'.cell? ⟨w.heap.size, 0, none⟩ = some (.int .i64 m) ∧ w'.cell? ⟨w.heap.size, 1, none⟩ = some (.slice A l.length c) ∧ w.heap.size < w'.heap.size) (first | exact ⟨x1, x2, x3⟩ | exact box_store (by omega) (by assumption) | exact box_call (by assumption) (by assumption)) (first
    | (go_at_call 74; refine (degree_nat _ _ _ _ d _ HL.out (by have := HD.out; omega)).mono ?_; rintro e1 w1 ⟨rfl, hb1⟩)
    | (go_at_call 72; refine (HS.out _ ((below_drew0 W).trans hb1)).mono ?_; rintro e2 w2 ⟨v, rfl, ho2, hb2⟩; obtain ⟨A2, c2, rfl, _⟩ := ho2.form; have hv := V3.out.keep (((below_drew0 W).trans hb1).trans (hb2.mono ((below_drew0 W).trans hb1).size)); have q0 := hv.c0; have q1 := hv.c1; have q2 := hv.fz 0; have q3 := hv.fz 1))
  all_goals
    have hz := ((below_drew0 W).trans hb1).size
    have hg := x3
    have hw2 : Below w.heap.size w w2 := (HB.out.trans (((below_drew0 W).trans hb1).mono HB.out.size)).trans (hb2.mono (by have := HB.out.size; omega))
    obtain ⟨f0, f1, f2, f3⟩ := fin_var (w := w) hv ho2 (by have := V3.out.lt; omega) (by omega) hw2 (.int .i64 m) (.slice A2 (Ser.cut m d fun n => Ser.co l n + Ser.co l' n).length c2)
    have F2 := Lib.hid f2
    have F3 := Lib.hid f3
    clear f2 f3 hw2 ho2 hb2 hb1
    go_wp2
    refine bodyPost_ret (v := .agg #[.int .i64 m, .slice A2 (Ser.cut m d fun n => Ser.co l n + Ser.co l' n).length c2]) (by simp [results, Try.results59, go_sem, f0, f1]) rfl ⟨_, rfl, F2.out, F3.out⟩
end Go.Proofs.Ytfhdgcndiljjcab

