/- Texts of contracts, joined. -/
import Derived.Test.YtfhdgcndiljjcaaGreatDoorMgaa
import Derived.Deep.RegionHeld3
import Derived.Deep.QuietTactic
import Derived.BigQuiet
import Derived.StillTailTactics
import Derived.Deep.DeepCutAuto
import Derived.Maps.AppendAt
/- Contract of frame.filled: the table of the remainders of what a function value tells. -/
namespace Go.Proofs.YtfhdgcndiljjcaaGreatDoor
open Go.RowKit Go.WideShapes Go.ChangeShapes Go.ChangeAt

theorem lenRow_any (m : Int) (d i : Nat) (w : World) (hd : d ≤ 1000) (hi : i ≤ d) :
    Calls Tryz.prog 81 #[.agg #[.int .i64 m, .int .i64 d], .int .i64 i] w fun e w' => e = .returned (.int .i64 ((d - i + 1 : Nat) : Int)) ∧ Below w.heap.size w w' := by
  have HE := Lib.hid (show ((d - i + 1 : Nat) : Int) = (d : Int) - (i : Int) + 1 by omega)
  rw [HE.out]
  go_enter Tryz.func81, Tryz.ntmps81
  go_wp2
  go_ret
  exact ⟨rfl, below_one _ _⟩

theorem Span.setCell (lo hi : Nat) (w : World) (g i : Nat) (u : Value) (h1 : lo ≤ g) (h2 : g < hi) : Span lo hi w (w.setCell ⟨g, i, none⟩ u) :=
  Span.of_grown (grown_setCell w g i u) (fun b hb => by injection hb with hb; omega)
/-- the frame's box and the grid's variable of a call of filled -/
def FilV (w W : World) (m : Int) (d : Nat) : Prop :=
  VarC 61 W w.heap.size #[.int .i64 m, .int .i64 d] ∧ VarC 63 W (w.heap.size + 1) #[.int .i64 0, .int .i64 0, .slice none 0 0]
theorem FilV.keep {w W W' : World} {m : Int} {d : Nat} (h : FilV w W m d) (hb : Below W.heap.size W W') : FilV w W' m d := ⟨h.1.keep hb, h.2.keep hb⟩
theorem FilV.far {w W : World} {m : Int} {d : Nat} (h : FilV w W m d) (b i : Nat) (u : Value) (hne : w.heap.size + 2 ≤ b) : FilV w (W.setCell ⟨b, i, none⟩ u) m d := ⟨h.1.far b i u (by omega), h.2.far b i u (by omega)⟩
theorem FilV.c {w W : World} {m : Int} {d : Nat} (h : FilV w W m d) : W.cell? ⟨w.heap.size, 0, none⟩ = some (.int .i64 m) ∧ W.cell? ⟨w.heap.size, 1, none⟩ = some (.int .i64 d) := ⟨h.1.cell 0 _ rfl, h.1.cell 1 _ rfl⟩
theorem cut_stepL (m : Int) (d : Nat) (f : Nat → Int) (k n : Nat) (hn : n = d + 1) (h : k ≤ d) : ((Ser.cut m d f).take k ++ List.replicate (n - k) 0).set k (f k % m) = (Ser.cut m d f).take (k + 1) ++ List.replicate (n - (k + 1)) 0 := by
  subst hn; exact cut_step m d f k h
theorem row_len (m : Int) (d : Nat) (f : Nat → Int) (k : Nat) (h : k ≤ d + 1) : ((Ser.cut m d f).take k ++ List.replicate (d + 1 - k) 0).length = d + 1 := by
  have := Ser.cut_length m d f
  simp; omega

/-- three cells stored -/
def set3 (w : World) (g : Nat) (x y z : Value) : World := ((w.setCell ⟨g, 0, none⟩ x).setCell ⟨g, 1, none⟩ y).setCell ⟨g, 2, none⟩ z
theorem VarC.set3 {t : TypeId} {w : World} {g : Nat} {a b c : Value} (h : VarC t w g #[a, b, c]) (x y z : Value) : VarC t (set3 w g x y z) g #[x, y, z] := ((h.set 0 x).set 1 y).set 2 z
theorem grown_set3 (w : World) (g : Nat) (x y z : Value) : w.grownBy (set3 w g x y z) (some g) := grown_trans (grown_trans (grown_setCell w g 0 x) (grown_setCell _ g 1 y)) (grown_setCell _ g 2 z)
theorem below_set3 {B : Nat} {w w' : World} {g : Nat} (hb : Below B w w') (hg : B ≤ g) (x y z : Value) : Below B w (set3 w' g x y z) := ((hb.setCell hg x).setCell hg y).setCell hg z
/-- a grid is stored into its variable: what the return reads -/
theorem fin_grid {t : TypeId} {w w2 : World} {g lo hi : Nat} {v a b c : Value} {T : List (List Int)} (hv : VarC t w2 g #[a, b, c]) (ho : OwnR w2 lo hi v T) (hg : g < lo ∨ hi ≤ g) (hwg : w.heap.size ≤ g) (hhi : hi ≤ w2.heap.size) (hb : Below w.heap.size w w2) (p q r : Value) :
    (set3 w2 g p q r).cell? ⟨g, 0, none⟩ = some p ∧ (set3 w2 g p q r).cell? ⟨g, 1, none⟩ = some q ∧ (set3 w2 g p q r).cell? ⟨g, 2, none⟩ = some r ∧
    OwnR (set3 w2 g p q r) lo (set3 w2 g p q r).heap.size v T ∧ Below w.heap.size w (set3 w2 g p q r) := by
  have h := hv.set3 p q r
  refine ⟨h.cell 0 _ rfl, h.cell 1 _ rfl, h.cell 2 _ rfl, ?_, below_set3 hb hwg p q r⟩
  exact (ho.far (Span.of_grown (lo := g) (hi := g + 1) (grown_set3 w2 g p q r) (fun b hb => by injection hb with hb; omega)) (by omega)).more (Nat.le_trans hhi (grown_set3 w2 g p q r).size)

theorem kp_call {w w' : World} {a1 a2 : Addr} {x y : Value} (hb : Below w.heap.size w w') (hs : w.cell? a1 = some x ∧ w.cell? a2 = some y) : w'.cell? a1 = some x ∧ w'.cell? a2 = some y :=
  ⟨(hb.cell (World.block_lt_of_cell? w a1 hs.1)).trans hs.1, (hb.cell (World.block_lt_of_cell? w a2 hs.2)).trans hs.2⟩
theorem kp_store {w : World} {a1 a2 b : Addr} {x y u : Value} (h1 : b.block ≠ a1.block) (h2 : b.block ≠ a2.block) (hs : w.cell? a1 = some x ∧ w.cell? a2 = some y) : (w.setCell b u).cell? a1 = some x ∧ (w.setCell b u).cell? a2 = some y :=
  ⟨(World.cell?_of_block (w := w) (Below.heap_setCell w b u a1.block (fun e => h1 e.symm))).trans hs.1, (World.cell?_of_block (w := w) (Below.heap_setCell w b u a2.block (fun e => h2 e.symm))).trans hs.2⟩

set_option maxHeartbeats 4000000 in
set_option maxRecDepth 100000 in
theorem filled_any (m : Int) (d fn : Nat) (cap : Array Value) (f : Nat → Nat → Int) (w : World) (h1 : 1 ≤ m) (h2 : m ≤ 10000) (hd : d ≤ 1000) (hlo : ∀ i j, i + j ≤ d → -1000000000000 ≤ f i j ∧ f i j ≤ 1000000000000)
    (hen : ∀ (args : Array Value) (W : World), (callFunc fn args).run Tryz.prog W = .ok (.enter fn args) W)
    (hf : ∀ (i j : Nat) (W : World), i + j ≤ d → Below w.heap.size w W → Calls Tryz.prog fn (#[.int .i64 i, .int .i64 j] ++ cap) W fun e w' => e = .returned (.int .i64 (f i j)) ∧ Below W.heap.size W w') :
    Calls Tryz.prog 121 #[.agg #[.int .i64 m, .int .i64 d], .func (.func fn) #[] cap] w fun e w' => ∃ v, e = .returned (.agg #[.int .i64 m, .int .i64 d, v]) ∧ OwnR w' w.heap.size w'.heap.size v (Pl.tab m d f) ∧ Below w.heap.size w w' := by
  have HF := Lib.hid hf
  have HL := Lib.hid hlo
  clear hf hlo
  have hmk : ∀ W : World, (Instr.makeSlice 22 (.int .i64 ((d : Int) + 1)) (.int .i64 ((d : Int) + 1))).run Tryz.prog W = .ok (.slice (some ⟨W.heap.size, 0, none⟩) (d + 1) (d + 1)) (W.alloc (.cells (madeCells #[Value.slice none 0 0] (d + 1)) 32)) := by
    intro W
    have := run_make_row' (P := Tryz.prog) 22 32 (.slice none 0 0) 24 Tryz.underlying22 infoRow rfl .i64 .i64 (d + 1) (by omega) (by omega) W
    rwa [show ((d + 1 : Nat) : Int) = (d : Int) + 1 by omega] at this
  have hmk2 : ∀ (n : Nat) (W : World), n ≤ 1001 → (Instr.makeSlice 32 (.int .i64 (n : Int)) (.int .i64 (n : Int))).run Tryz.prog W = .ok (.slice (some ⟨W.heap.size, 0, none⟩) n n) (W.alloc (.cells (madeCells #[.int .i64 0] n) 2)) := by
    intro n W hn
    exact run_make_row' (P := Tryz.prog) 32 2 (.int .i64 0) 8 Tryz.underlying32 info64 rfl .i64 .i64 n (by omega) (by omega) W
  have HM2 := Lib.hid hmk2
  clear hmk2
  go_enter Tryz.func121, Tryz.ntmps121
  go_wp2
  go_loopw [15] (fun i wr => ∃ k : Nat, k ≤ d + 1 ∧ i = .int .i64 k ∧ OwnR wr (w.heap.size + 2) wr.heap.size (.slice (some ⟨w.heap.size + 1 + 1, 0, none⟩) (d + 1) (d + 1)) ((Pl.tab m d f).take k ++ List.replicate (d + 1 - k) []) ∧ FilV w wr m d ∧ Below w.heap.size w wr) (fun i _ => d + 1 - (intOf i).toNat)
  case atStart =>
    refine ⟨0, Nat.zero_le _, rfl, ?_, ⟨?_, ?_⟩, below_alloc _ (below_alloc _ (below_one _ _))⟩
    · have h := OwnR.made ((w.alloc (.cells #[.int .i64 m, .int .i64 d] 61)).alloc (.cells #[.int .i64 0, .int .i64 0, .slice none 0 0] 63)) (d + 1) (by unfold maxLen; omega)
      simpa using h
    · exact ((VarC.new 61 w _).keep (below_one _ _)).keep (below_one _ _)
    · have h := (VarC.new 63 (w.alloc (.cells #[.int .i64 m, .int .i64 d] 61)) #[.int .i64 0, .int .i64 0, .slice none 0 0]).keep (below_one _ (.cells (madeCells #[Value.slice none 0 0] (d + 1)) 32))
      simpa using h
  case round =>
    clear hmk
    obtain ⟨k, hk, rfl, hown, hvar, hbel⟩ := hrel
    have HV := Lib.hid hvar
    have HB := Lib.hid hbel
    have HO := Lib.hid hown
    clear hown hbel hvar
    by_cases hlt : k < d + 1
    · obtain ⟨v0, v1⟩ := HV.out.c
      have hkd : (k : Int) < (d : Int) + 1 := by omega
      go_wp2_with fail
      refine (lenRow_any m d k _ hd (by omega)).mono ?_
      rintro e w1 ⟨rfl, hb1⟩
      obtain ⟨N, hN⟩ : ∃ N, d - k + 1 = N := ⟨_, rfl⟩
      have hN1 : N ≤ 1001 := by omega
      have hmk := fun W => HM2.out N W hN1
      rw [hN]
      have HN := Lib.hid hN
      have HB1 := Lib.hid (HB.out.trans (hb1.mono HB.out.size))
      have hb2 := below_one w1 (.cells (madeCells #[.int .i64 0] N) 2)
      have hsz1 := hb1.size
      have ho1 := HO.out.keep (hb1.trans (hb2.mono hsz1))
      have hlen : k < ((Pl.tab m d f).take k ++ List.replicate (d + 1 - k) []).length := by have := Pl.tab_length m d f; simp; omega
      obtain ⟨_, o2, _, o4, _, _, o5, _⟩ := ho1.cell k hlen
      have hput := ho1.put k hlen (.slice (some ⟨w1.heap.size, 0, none⟩) N N) (List.replicate N 0) ((OwnI.made w1 N (by unfold maxLen; omega)).more (by omega))
        (hi' := w1.heap.size + 1) (fun b hb => by have : b = w1.heap.size := by simpa [Value.ownBlock] using hb.symm
                                                  omega) (by omega)
      rw [Pl.tab_step m d f k (by omega)] at hput
      have hv1 := ((HV.out.keep hb1).keep hb2).far (w.heap.size + 1 + 1) k (.slice (some ⟨w1.heap.size, 0, none⟩) N N) (by omega)
      have hbw : Below w.heap.size w ((w1.alloc (.cells (madeCells #[.int .i64 0] N) 2)).setCell ⟨w.heap.size + 1 + 1, k, none⟩ (.slice (some ⟨w1.heap.size, 0, none⟩) N N)) :=
        (below_step HB1.out hb2).setCell (by show w.heap.size ≤ w.heap.size + 1 + 1; omega) _
      obtain ⟨x0, x1⟩ := hv1.c
      obtain ⟨w3, hw3⟩ : ∃ w3, (w1.alloc (.cells (madeCells #[.int .i64 0] N) 2)).setCell ⟨w.heap.size + 1 + 1, k, none⟩ (.slice (some ⟨w1.heap.size, 0, none⟩) N N) = w3 := ⟨_, rfl⟩
      have hs3 : w1.heap.size + 1 = w3.heap.size := by rw [← hw3]; simp [World.setCell]
      rw [hw3] at hput hv1 hbw
      rw [hs3] at hput
      have HP := Lib.hid hput
      have HV3 := Lib.hid hv1
      have HB3 := Lib.hid hbw
      have HW3 := Lib.hid hw3
      clear hN hput hv1 hbw hw3 ho1 hb2 hlen hs3 hsz1 HB1 HV HB HO
      go_wp2_with fail
      rw [HW3.out]
      refine (lenRow_any m d k _ hd (by omega)).mono ?_
      rintro e w4 ⟨rfl, hb4⟩
      rw [HN.out]
      have HP4 := Lib.hid ((HP.out.keep hb4).more hb4.size)
      have HV4 := Lib.hid (HV3.out.keep hb4)
      have HB4 := Lib.hid (below_step HB3.out hb4)
      clear HP HV3 HB3 hb4 HW3 hmk v0 v1 x0 x1 hb1
      go_wp2
      go_loopw [28] (fun i wr => ∃ j : Nat, j ≤ N ∧ i = .int .i64 j ∧ OwnR wr (w.heap.size + 2) wr.heap.size (.slice (some ⟨w.heap.size + 1 + 1, 0, none⟩) (d + 1) (d + 1)) ((Pl.tab m d f).take k ++ (((Ser.cut m (d - k) (f k)).take j ++ List.replicate (N - j) 0) :: List.replicate (d + 1 - (k + 1)) [])) ∧ FilV w wr m d ∧ Below w.heap.size w wr) (fun i _ => N - (intOf i).toNat)
      case atStart => exact ⟨0, Nat.zero_le _, rfl, by simpa using HP4.out, HV4.out, HB4.out⟩
      case round =>
        clear HP4 HV4 HB4
        obtain ⟨j, hj, rfl, hown, hvar, hbel⟩ := hrel
        have HV := Lib.hid hvar
        have HB := Lib.hid hbel
        have HO := Lib.hid hown
        clear hown hbel hvar
        by_cases hjt : j < N
        · obtain ⟨v0, v1⟩ := HV.out.c
          have hNk := HN.out
          obtain ⟨q1, q2⟩ := HL.out k j (by omega)
          obtain ⟨F, hF⟩ : ∃ F, f k j = F := ⟨_, rfl⟩
          have hcl : ∀ W : World, Below wr.heap.size wr W → _ := fun W hW => HF.out k j W (by omega) (HB.out.trans (hW.mono HB.out.size))
          rw [hF] at q1 q2 hcl
          have HC := Lib.hid hcl
          have hTl : k < ((Pl.tab m d f).take k ++ (((Ser.cut m (d - k) (f k)).take j ++ List.replicate (N - j) 0) :: List.replicate (d + 1 - (k + 1)) [])).length := by rw [Pl.tab_mid_length m d f k (by omega)]; omega
          obtain ⟨b, c', g1, g2, g3, g4, hcel⟩ := HO.out.numB k j N hTl (by rw [Pl.tab_mid m d f k (by omega)]; have := row_len m (d - k) (f k) j (by omega); rw [hNk] at this; exact this) hjt
          have hset : ∀ _ : Nat, ((Pl.tab m d f).take k ++ (((Ser.cut m (d - k) (f k)).take j ++ List.replicate (N - j) 0) :: List.replicate (d + 1 - (k + 1)) [])).set k ((Pl.rw' ((Pl.tab m d f).take k ++ (((Ser.cut m (d - k) (f k)).take j ++ List.replicate (N - j) 0) :: List.replicate (d + 1 - (k + 1)) [])) k).set j (F % m)) =
              (Pl.tab m d f).take k ++ (((Ser.cut m (d - k) (f k)).take (j + 1) ++ List.replicate (N - (j + 1)) 0) :: List.replicate (d + 1 - (k + 1)) []) := by
            intro _
            rw [Pl.tab_mid m d f k (by omega), Pl.tab_step2 m d f k (by omega), ← hF, cut_stepL m (d - k) (f k) j N hNk.symm (by omega)]
          have hcell2 : ∀ W, Below wr.heap.size wr W → (W.cell? ⟨w.heap.size + 1 + 1, k, none⟩ = some (.slice (some ⟨b, 0, none⟩) N c') ∧ (∃ y, W.cell? ⟨b, j, none⟩ = some (.int .i64 y)) ∧ W.frozen? ⟨b, j, none⟩ = false ∧
              OwnR (W.setCell ⟨b, j, none⟩ (.int .i64 (F % m))) (w.heap.size + 2) wr.heap.size (.slice (some ⟨w.heap.size + 1 + 1, 0, none⟩) (d + 1) (d + 1)) ((Pl.tab m d f).take k ++ (((Ser.cut m (d - k) (f k)).take (j + 1) ++ List.replicate (N - (j + 1)) 0) :: List.replicate (d + 1 - (k + 1)) []))) := by
            intro W hW
            obtain ⟨c1, c2, c3, c4⟩ := hcel W hW
            have := c4 (F % m)
            rw [hset 0] at this
            exact ⟨c1, ⟨_, c2⟩, c3, this⟩
          have HCE := Lib.hid hcell2
          obtain ⟨c1, _⟩ := hcell2 wr (Below.refl _ _)
          have i1 : (0 : Int) ≤ (j : Int) := by omega
          have i2 : (j : Int) < (N : Int) := by omega
          have i3 : (0 : Int) ≤ (k : Int) := by omega
          have l1 : w.heap.size < wr.heap.size := HV.out.1.lt
          clear hF hcl hTl hcel hset hcell2 hNk
          go_wp2
          go_region_held3 (fun w' => w'.cell? ⟨w.heap.size, 0, none⟩ = some (.int .i64 m) ∧ w'.cell? ⟨w.heap.size + 1 + 1, k, none⟩ = some (.slice (some ⟨b, 0, none⟩) N c')) (first | exact ⟨v0, c1⟩ | exact kp_call hb5 ⟨v0, c1⟩ | exact kp_store (by show b ≠ w.heap.size; omega) g4 (by assumption)) (first
            | (go_at_call 114; refine (remainder_any _ _ _ h1 h2 q1 q2).mono ?_; rintro e w' ⟨rfl, rfl⟩)
            | (refine (HC.out _ (below_drew0 _)).mono ?_; rintro e w5 ⟨rfl, hb5⟩; obtain ⟨_, ⟨y0, s2⟩, s3, s4⟩ := HCE.out w5 (below_step (below_drew0 _) hb5)))
          all_goals
            have k1 := s4.more (show wr.heap.size ≤ (w5.setCell ⟨b, j, none⟩ (.int .i64 (F % m))).heap.size by have := hb5.size; simp only [World.setCell, Array.size_modify]; exact this)
            have k2 := (HV.out.keep (below_step (below_drew0 _) hb5)).far b j (.int .i64 (F % m)) g2
            have k3 := (below_step HB.out (below_step (below_drew0 wr) hb5)).setCell (p := ⟨b, j, none⟩) (by show w.heap.size ≤ b; omega) (.int .i64 (F % m))
            have K1 := Lib.hid k1
            have K2 := Lib.hid k2
            have K3 := Lib.hid k3
            clear k1 k2 k3 s4 HCE HC hb5 s2 s3
            go_wp2
            go_roundw
            case rel => exact ⟨j + 1, by omega, by go_num, K1.out, K2.out, K3.out⟩
            case measure => simp only [intOf]; omega
        · obtain rfl : j = N := by omega
          have ho := HO.out
          have hNk := HN.out
          rw [List.take_of_length_le (l := Ser.cut m (d - k) (f k)) (by rw [Ser.cut_length]; omega), Nat.sub_self, List.replicate_zero, List.append_nil, Pl.tab_done m d f k (by omega)] at ho
          have HO2 := Lib.hid ho
          clear ho HO hNk
          go_wp2
          go_roundw
          case rel => exact ⟨k + 1, by omega, by go_num, HO2.out, HV.out, HB.out⟩
          case measure => simp only [intOf]; omega
    · obtain rfl : k = d + 1 := by omega
      have ho := HO.out
      rw [Pl.tab_take_all, Nat.sub_self, List.replicate_zero, List.append_nil] at ho
      obtain ⟨v0, v1⟩ := HV.out.c
      have hv := HV.out.2
      have q3 := hv.fz 0
      have q4 := hv.fz 1
      have q5 := hv.fz 2
      have q6 := hv.cell 0 _ rfl
      have q7 := hv.cell 1 _ rfl
      have q8 := hv.cell 2 _ rfl
      simp only [List.getElem_toArray, List.getElem_cons_zero, List.getElem_cons_succ] at q6 q7 q8
      obtain ⟨f0, f1, f2, f3, f4⟩ := fin_grid (w := w) hv ho (by omega) (by omega) (Nat.le_refl _) HB.out (.int .i64 m) (.int .i64 d) (.slice (some ⟨w.heap.size + 1 + 1, 0, none⟩) (d + 1) (d + 1))
      have F3 := Lib.hid f3
      have F4 := Lib.hid f4
      unfold set3 at f0 f1 f2
      clear f3 f4 ho hv HO HV HB
      go_wp2
      refine bodyPost_ret (v := .agg #[.int .i64 m, .int .i64 d, .slice (some ⟨w.heap.size + 1 + 1, 0, none⟩) (d + 1) (d + 1)]) (by simp [results, Tryz.results121, go_sem, f0, f1, f2]) rfl ⟨_, rfl, F3.out.low (by omega), F4.out⟩
end Go.Proofs.YtfhdgcndiljjcaaGreatDoor

/- Contracts of the looks at planes, of the program and of the model. -/
namespace Go.Proofs.YtfhdgcndiljjcaaGreatDoor
open Go.RowKit Go.WideShapes Go.ChangeShapes Go.ChangeAt

/-- row i of a table of n rows is as a plane's -/
def rowOk (m : Int) (n : Nat) (t : List (List Int)) (i : Nat) : Bool := decide ((Pl.rw' t i).length + i = n) && allIn 0 (m - 1) (Pl.rw' t i)
/-- a table with a modulus is a plane -/
def isP (m : Int) (t : List (List Int)) : Bool := isM m && (inB (t.length : Int) 2 11 && (List.range t.length).all (rowOk m t.length t))
theorem all_succ (f : Nat → Bool) (k : Nat) : (List.range (k + 1)).all f = ((List.range k).all f && f k) := by
  rw [List.range_succ, List.all_append]; simp
theorem all_no (f : Nat → Bool) (k n : Nat) (h : k < n) (hf : f k = false) : (List.range n).all f = false := by
  rw [← Bool.not_eq_true, List.all_eq_true]
  intro hh
  have := hh k (List.mem_range.2 h)
  rw [hf] at this
  exact absurd this (by decide)
theorem plOk_of {m : Int} {t : List (List Int)} (h : isP m t = true) : ∃ d, t.length = d + 1 ∧ Pl.Ok m d t := by
  unfold isP at h
  rw [Bool.and_eq_true, Bool.and_eq_true, isM_iff, inB_iff, List.all_eq_true] at h
  obtain ⟨⟨m1, m2⟩, ⟨n1, n2⟩, hr⟩ := h
  obtain ⟨d, hd⟩ : ∃ d, t.length = d + 1 := ⟨t.length - 1, by omega⟩
  have key : ∀ i, i ≤ d → (Pl.rw' t i).length + i = d + 1 ∧ allIn 0 (m - 1) (Pl.rw' t i) = true := by
    intro i hi
    have := hr i (List.mem_range.2 (by omega))
    unfold rowOk at this
    rw [Bool.and_eq_true, decide_eq_true_iff, hd] at this
    exact this
  refine ⟨d, hd, m1, m2, by omega, by omega, hd, fun i hi => by have := (key i hi).1; omega, fun i => ?_⟩
  by_cases hi : i ≤ d
  · intro j
    by_cases hj : j < (Pl.rw' t i).length
    · have h1 := List.all_eq_true.1 (key i hi).2 _ (List.getElem_mem hj)
      have h2 := (inB_iff _ _ _).1 h1
      unfold Ser.co
      rw [List.getElem?_eq_getElem hj]
      simp only [Option.getD_some]
      omega
    · rw [Ser.co_over (by omega)]; omega
  · rw [Pl.rw_over (by omega)]
    intro j; rw [Ser.co_over (Nat.zero_le _)]; omega
theorem isP_len {m : Int} {t : List (List Int)} (h : isP m t = true) : 2 ≤ t.length ∧ t.length ≤ 11 := by
  unfold isP at h
  rw [Bool.and_eq_true, Bool.and_eq_true, inB_iff] at h
  omega

set_option maxHeartbeats 1000000 in
theorem gridOf_any (m : Int) (A : Option Addr) (n c : Nat) (w : World) (hn : n ≤ 9223372036854775807) :
    Calls Tryz.prog 53 #[.agg #[.int .i64 m, .slice A n c]] w fun e w' => e = .returned (.agg #[.int .i64 m, .int .i64 ((n : Int) - 1), .slice A n c]) ∧ Below w.heap.size w w' := by
  go_enter Tryz.func53, Tryz.ntmps53
  go_wp2
  exact bodyPost_ret (v := .agg #[.int .i64 m, .int .i64 ((n : Int) - 1), .slice A n c]) (by simp [results, Tryz.results53, go_sem]) rfl ⟨rfl, below_alloc _ (below_one _ _)⟩
theorem gridOf_nat (m : Int) (A : Option Addr) (n c d : Nat) (w : World) (hn : n = d + 1) (hd : d ≤ 1000) :
    Calls Tryz.prog 53 #[.agg #[.int .i64 m, .slice A n c]] w fun e w' => e = .returned (.agg #[.int .i64 m, .int .i64 d, .slice A n c]) ∧ Below w.heap.size w w' :=
  (gridOf_any m A n c w (by omega)).mono fun e w' ⟨h1, h2⟩ => ⟨by rw [h1, show (n : Int) - 1 = (d : Int) by omega], h2⟩

/-- the frame of a grid's value -/
theorem field_frame (a b c : Value) (W : World) : (Instr.field 63 (.agg #[a, b, c]) 0).run Tryz.prog W = .ok (.agg #[a, b]) W := by kernel_rfl
theorem frm_in {w w1 : World} {m : Int} {d : Nat} {t1 t2 : TypeId} {A : Option Addr} {n c : Nat} (hb : Below (w.alloc (.cells #[.int .i64 m, .slice A n c] t1)).heap.size (w.alloc (.cells #[.int .i64 m, .slice A n c] t1)) w1) :
    ∃ W, w1.alloc (.cells #[.int .i64 m, .int .i64 d] t2) = W ∧ VarC t2 W w1.heap.size #[.int .i64 m, .int .i64 d] ∧ Box W w.heap.size m A n c ∧ Below w.heap.size w W :=
  ⟨_, rfl, VarC.new _ _ _, ((Box.newT t1 w m A n c).keep hb).keep (below_one _ _), below_alloc _ (below_step (below_one _ _) hb)⟩
set_option maxHeartbeats 2000000 in
set_option maxRecDepth 100000 in
theorem IsPlane_c (m : Int) (A : Option Addr) (c : Nat) (t : List (List Int)) (w : World) (hl : t.length ≤ 9223372036854775807) (hrl : ∀ k, (Pl.rw' t k).length ≤ 9223372036854775807) (hr : RP w A t) :
    Calls Tryz.prog 63 #[.agg #[.int .i64 m, .slice A t.length c]] w fun e w' => e = .returned (.bool (isP m t)) ∧ Below w.heap.size w w' := by
  have HR := Lib.hid hr
  have HRL := Lib.hid hrl
  clear hr hrl
  obtain ⟨R, hR⟩ : ∃ R, isP m t = R := ⟨_, rfl⟩
  rw [hR]
  have HRR := Lib.hid hR
  clear hR
  by_cases h1 : inB ((t.length : Int) - 1) 1 10 = true
  · obtain ⟨d, hd⟩ : ∃ d, t.length = d + 1 := ⟨t.length - 1, by have := (inB_iff _ _ _).1 h1; omega⟩
    have hd2 : d ≤ 10 := by have := (inB_iff _ _ _).1 h1; omega
    have HG := Lib.hid (fun W => gridOf_nat m A t.length c d W hd (by omega))
    have hw1 : inB (d : Int) 1 10 = true := by rw [← h1]; congr 1; omega
    have HD := Lib.hid hd
    have HI := Lib.hid h1
    obtain ⟨L, hL⟩ : ∃ L, t.length = L := ⟨_, rfl⟩
    rw [hL] at HG ⊢
    have HL := Lib.hid hL
    have HLd : Hid ((L : Int) = (d : Int) + 1) := Lib.hid (by omega)
    clear h1 hd hL hl
    go_enter Tryz.func63, Tryz.ntmps63
    go_wp2_with fail
    refine (HG.out _).mono ?_
    rintro e w1 ⟨rfl, hb1⟩
    obtain ⟨W, hW, v, hx, hwb⟩ := frm_in (d := d) (t2 := 61) hb1
    have HW := Lib.hid hW
    have HV := Lib.hid v
    have HX := Lib.hid hx
    have HB := Lib.hid hwb
    have hfd := field_frame
    clear hW v hx hwb hb1
    go_wp2_with fail
    rw [HW.out]
    refine (isWithin_any _ _ _ _).mono ?_
    rintro e w' ⟨rfl, rfl⟩
    rw [hw1]
    obtain ⟨g, hg⟩ : ∃ g, w1.heap.size = g := ⟨_, rfl⟩
    rw [hg] at HV ⊢
    clear hg HW hfd
    have v1 : W.cell? ⟨g, 1, none⟩ = some (.int .i64 d) := HV.out.cell 1 _ rfl
    go_wp2
    go_loopw [16] (fun i wr => ∃ k : Nat, k ≤ d + 1 ∧ i = .int .i64 k ∧ (List.range k).all (rowOk m (d + 1) t) = true ∧ (0 < k → isM m = true) ∧ VarC 61 wr g #[.int .i64 m, .int .i64 d] ∧ Box wr w.heap.size m A L c ∧ Below w.heap.size w wr) (fun i _ => d + 1 - (intOf i).toNat)
    case atStart => exact ⟨0, Nat.zero_le _, rfl, rfl, fun h => absurd h (Nat.lt_irrefl _), HV.out, HX.out, HB.out⟩
    case round =>
      clear HV HX HB v1
      obtain ⟨k, hk, rfl, hall, hmk, hv, hx, hb⟩ := hrel
      have HV := Lib.hid hv
      have HX := Lib.hid hx
      have HB := Lib.hid hb
      have HA := Lib.hid hall
      have HMK := Lib.hid hmk
      clear hmk
      by_cases hlt : k < d + 1
      · obtain ⟨bb, off, A', c', rfl, hbb, hc, _, hri⟩ := HR.out.at k (by have := HD.out; omega)
        have hck := (hb.cell (p := ⟨bb, off + k, none⟩) hbb).trans hc
        have hrl := HRL.out k
        have hst : rowOk m (d + 1) t k = (decide ((Pl.rw' t k).length + k = d + 1) && allIn 0 (m - 1) (Pl.rw' t k)) := rfl
        obtain ⟨r, hr⟩ : ∃ r, Pl.rw' t k = r := ⟨_, rfl⟩
        rw [hr] at hck hrl hst hri
        have HST := Lib.hid hst
        obtain ⟨N, hN⟩ : ∃ N, d - k + 1 = N := ⟨_, rfl⟩
        have HLR : Hid (∀ W, Calls Tryz.prog 81 #[.agg #[.int .i64 m, .int .i64 d], .int .i64 k] W fun e w' => e = .returned (.int .i64 (N : Int)) ∧ Below W.heap.size W w') := Lib.hid (fun W => by have := lenRow_any m d k W (by omega) (by omega); rw [hN] at this; exact this)
        have HRI := Lib.hid (hri.below hb)
        have hx1 : wr.cell? ⟨w.heap.size, 1, none⟩ = some (.slice (some ⟨bb, off, none⟩) L c) := hx.2.1
        have v0 : wr.cell? ⟨g, 0, none⟩ = some (.int .i64 m) := hv.cell 0 _ rfl
        have v1 : wr.cell? ⟨g, 1, none⟩ = some (.int .i64 d) := hv.cell 1 _ rfl
        have hkd : (k : Int) < (d : Int) + 1 := by omega
        have hk0 : (0 : Int) ≤ (k : Int) := by omega
        have hkL : (k : Int) < (L : Int) := by have := HLd.out; omega
        clear hall hv hx hb hc hri hst hbb
        by_cases hlen : r.length = N
        · obtain ⟨C, hC⟩ : ∃ C, codeN m r = C := ⟨_, rfl⟩
          have HC : Hid (∀ W, Below wr.heap.size wr W → Calls Tryz.prog 82 #[.int .i64 m, .slice A' r.length c'] W fun e w' => e = .returned (.int .i64 C) ∧ W = w') := Lib.hid (fun W hW => by have := codeOfNumbers_any m A' c' r W hrl (HRI.out.below hW); rw [hC] at this; exact this)
          rw [hlen] at hck HC
          have HN := Lib.hid hN
          have HLN := Lib.hid hlen
          by_cases hC0 : C = 0
          · subst hC0
            have hm : isM m = true := by
              by_cases hm : isM m = true
              · exact hm
              · unfold codeN at hC; rw [if_neg hm] at hC; exact absurd hC (by decide)
            have HMM := Lib.hid hm
            have hok : rowOk m (d + 1) t k = true := by
              have ha : allIn 0 (m - 1) r = true := by
                by_cases ha : allIn 0 (m - 1) r = true
                · exact ha
                · unfold codeN at hC; rw [if_pos hm, if_neg ha] at hC; exact absurd hC (by decide)
              rw [HST.out, ha, decide_eq_true (by omega)]; rfl
            have HOK := Lib.hid (show (List.range (k + 1)).all (rowOk m (d + 1) t) = true by rw [all_succ, HA.out, hok]; rfl)
            clear hC hok hlen hr hN hm
            go_wp2_with fail
            refine (HLR.out _).mono ?_
            rintro e w2 ⟨rfl, hb2⟩
            have x0 : w2.cell? ⟨g, 0, none⟩ = some (.int .i64 m) := (HV.out.keep hb2).cell 0 _ rfl
            go_wp2_with fail
            refine (HC.out _ hb2).mono ?_
            rintro e w3 ⟨rfl, rfl⟩
            go_wp2
            go_roundw
            case rel => exact ⟨k + 1, by omega, by go_num, HOK.out, fun _ => HMM.out, HV.out.keep hb2, HX.out.keep hb2, below_step HB.out hb2⟩
            case measure => simp only [intOf]; omega
          · obtain ⟨n1, n2⟩ := ne_facts hC0
            have hno : R = false := by
              rw [← HRR.out]
              unfold isP
              by_cases hm : isM m = true
              · have hf : rowOk m t.length t k = false := by
                  rw [HD.out, HST.out]
                  unfold codeN at hC
                  rw [if_pos hm] at hC
                  by_cases ha : allIn 0 (m - 1) r = true
                  · rw [if_pos ha] at hC; exact absurd hC.symm hC0
                  · rw [Bool.eq_false_iff.2 ha, Bool.and_false]
                rw [all_no _ k t.length (by have := HD.out; omega) hf, Bool.and_false, Bool.and_false]
              · rw [Bool.eq_false_iff.2 hm]; rfl
            have HNO := Lib.hid hno
            clear hC hno hlen hr hN hC0
            go_wp2_with fail
            refine (HLR.out _).mono ?_
            rintro e w2 ⟨rfl, hb2⟩
            have x0 : w2.cell? ⟨g, 0, none⟩ = some (.int .i64 m) := (HV.out.keep hb2).cell 0 _ rfl
            go_wp2_with fail
            refine (HC.out _ hb2).mono ?_
            rintro e w3 ⟨rfl, rfl⟩
            go_wp2
            go_ret
            exact ⟨ret_bool HNO.out.symm, below_step HB.out hb2⟩
        · have hlen2 : ¬ (r.length : Int) = (N : Int) := by omega
          obtain ⟨n1, n2⟩ : ((r.length : Int) == (N : Int)) = false ∧ ((r.length : Int) != (N : Int)) = true := ⟨by simpa using hlen2, by simpa using hlen2⟩
          have hno : R = false := by
            rw [← HRR.out]
            unfold isP
            have hf : rowOk m t.length t k = false := by rw [HD.out, HST.out, decide_eq_false (by omega)]; rfl
            rw [all_no _ k t.length (by have := HD.out; omega) hf, Bool.and_false, Bool.and_false]
          have HNO := Lib.hid hno
          obtain ⟨rl, hrl2⟩ : ∃ q, r.length = q := ⟨_, rfl⟩
          rw [hrl2] at hck n1 n2 hlen2 hrl
          clear hno hr hN hlen HRI hrl2
          go_wp2_with fail
          refine (HLR.out _).mono ?_
          rintro e w2 ⟨rfl, hb2⟩
          go_wp2
          go_ret
          exact ⟨ret_bool HNO.out.symm, below_step HB.out hb2⟩
      · obtain rfl : k = d + 1 := by omega
        have hyes : R = true := by
          rw [← HRR.out]
          unfold isP
          have := HI.out
          rw [inB_iff] at this
          rw [HMK.out (by omega), (inB_iff _ _ _).2 (show (2 : Int) ≤ t.length ∧ (t.length : Int) ≤ 11 by omega), HD.out, hall]; rfl
        have HY := Lib.hid hyes
        clear hyes hall hv hx hb
        go_wp2
        go_ret
        exact ⟨ret_bool HY.out.symm, HB.out⟩
  · have hw1 : inB ((t.length : Int) - 1) 1 10 = false := by simpa using h1
    have hno : R = false := by
      rw [← HRR.out]
      unfold isP
      rw [inB_no (show ¬ ((2 : Int) ≤ t.length ∧ (t.length : Int) ≤ 11) by intro h; exact h1 ((inB_iff _ _ _).2 (by omega))), Bool.false_and, Bool.and_false]
    have HNO := Lib.hid hno
    have HG := Lib.hid (fun W => gridOf_any m A t.length c W hl)
    have hfd := field_frame
    obtain ⟨D, hD⟩ : ∃ D, (t.length : Int) - 1 = D := ⟨_, rfl⟩
    rw [hD] at HG hw1
    clear h1 hno hD
    go_enter Tryz.func63, Tryz.ntmps63
    go_wp2_with fail
    refine (HG.out _).mono ?_
    rintro e w1 ⟨rfl, hb1⟩
    go_wp2_with fail
    refine (isWithin_any _ _ _ _).mono ?_
    rintro e w' ⟨rfl, rfl⟩
    rw [hw1]
    go_wp2
    go_ret
    exact ⟨ret_bool HNO.out.symm, below_alloc _ (below_step (below_one _ _) hb1)⟩
end Go.Proofs.YtfhdgcndiljjcaaGreatDoor

/- Contracts of the looks at planes, of the model; of the codes of planes. -/
namespace Go.Proofs.YtfhdgcndiljjcaaGreatDoor
open Go.RowKit Go.WideShapes Go.ChangeShapes Go.ChangeAt


set_option maxHeartbeats 2000000 in
set_option maxRecDepth 100000 in
theorem l03Is_any (m : Int) (A : Option Addr) (c : Nat) (t : List (List Int)) (w : World) (hl : t.length ≤ 9223372036854775807) (hrl : ∀ k, (Pl.rw' t k).length ≤ 9223372036854775807) (hr : RP w A t) :
    Calls Tryz.prog 60 #[.agg #[.int .i64 m, .slice A t.length c]] w fun e w' => e = .returned (.bool (isP m t)) ∧ Below w.heap.size w w' := by
  obtain ⟨W, hW, hx, hwb⟩ := start1 28 w m A t.length c
  have HR := Lib.hid (hr.below hwb)
  have HRL := Lib.hid hrl
  have HX := Lib.hid hx
  have HB := Lib.hid hwb
  have HW := Lib.hid hW
  clear hr hrl hwb hx hW
  obtain ⟨R, hR⟩ : ∃ R, isP m t = R := ⟨_, rfl⟩
  rw [hR]
  have HRR := Lib.hid hR
  clear hR
  by_cases hm : isM m = true
  · obtain ⟨m1, m2⟩ := (isM_iff m).1 hm
    have HM := Lib.hid hm
    have hlm := fun W => l01Modulus_any m W
    rw [hm] at hlm
    have HLM := Lib.hid hlm
    clear hm hlm
    by_cases h1 : 2 ≤ t.length ∧ t.length ≤ 11
    · obtain ⟨L, hL⟩ : ∃ L, t.length = L := ⟨_, rfl⟩
      have HL := Lib.hid hL
      rw [hL] at h1 HW HX ⊢
      obtain ⟨h1, h2⟩ := h1
      have z1 : (2 : Int) ≤ (L : Int) := by omega
      have z2 : (L : Int) ≤ 11 := by omega
      clear hL hl
      go_enter Tryz.func60, Tryz.ntmps60
      go_wp2_with fail
      rw [HW.out]
      refine (HLM.out _).mono ?_
      rintro e w' ⟨rfl, rfl⟩
      go_wp2
      go_loopw [4] (fun i wr => ∃ k : Nat, k ≤ L ∧ i = .int .i64 k ∧ (List.range k).all (rowOk m L t) = true ∧ Box wr w.heap.size m A L c ∧ Below W.heap.size W wr) (fun i _ => L - (intOf i).toNat)
      case atStart => exact ⟨0, Nat.zero_le _, rfl, rfl, HX.out, Below.refl _ _⟩
      case round =>
        obtain ⟨k, hk, rfl, hall, hx, hb⟩ := hrel
        have HB' := Lib.hid hb
        have HX' := Lib.hid hx
        have HA := Lib.hid hall
        by_cases hlt : k < L
        · obtain ⟨bb, off, A', c', rfl, hbb, hc, _, hri⟩ := HR.out.at k (by have := HL.out; omega)
          have hck := (hb.cell (p := ⟨bb, off + k, none⟩) hbb).trans hc
          have hrl := HRL.out k
          have hst : rowOk m L t k = (decide ((Pl.rw' t k).length + k = L) && allIn 0 (m - 1) (Pl.rw' t k)) := rfl
          obtain ⟨r, hr⟩ : ∃ r, Pl.rw' t k = r := ⟨_, rfl⟩
          rw [hr] at hck hrl hst hri
          have HST := Lib.hid hst
          have HRI := Lib.hid (hri.below hb)
          obtain ⟨x1, x2, _⟩ := hx
          have j0 : (0 : Int) ≤ (k : Int) := by omega
          have j1 : (k : Int) < (L : Int) := by omega
          clear hall hb hc hri hst hbb hr
          by_cases hlen : r.length + k = L
          · have hle : (L : Int) - (k : Int) = (r.length : Int) := by omega
            obtain ⟨q, hq⟩ : ∃ q, allIn 0 (m - 1) r = q := ⟨_, rfl⟩
            have HN : Hid (∀ n, Calls Tryz.prog 77 #[.int .i64 m, .slice A' r.length c'] (wr.drewN n) fun e w' => e = .returned (.bool q) ∧ w' = wr.drewN n) :=
              Lib.hid (fun n => by have := l01Numbers_any m A' c' r (wr.drewN n) m1 m2 hrl HRI.out; rw [hq] at this; exact this.mono fun e w' ⟨p1, p2⟩ => ⟨p1, p2.symm⟩)
            obtain ⟨rl, hrl2⟩ : ∃ q, r.length = q := ⟨_, rfl⟩
            have HQ := Lib.hid hq
            have HLN := Lib.hid hlen
            have HR2 := Lib.hid hrl2
            rw [hrl2] at hck hrl hle HN
            clear hq hlen hrl2
            cases q with
            | true =>
              have HOK := Lib.hid (show (List.range (k + 1)).all (rowOk m L t) = true by rw [all_succ, HA.out, HST.out, HQ.out, decide_eq_true HLN.out]; rfl)
              go_wp2
              go_quiet ((go_at_call 77; exact Calls.quiet_of_same (HN.out _)))
              go_wp2
              go_roundw
              case rel => exact ⟨k + 1, by omega, by go_num, HOK.out, HX'.out, below_drewN HB'.out _⟩
              case measure => simp only [intOf]; omega
            | false =>
              have hno : R = false := by
                rw [← HRR.out]
                unfold isP
                have hf : rowOk m t.length t k = false := by rw [HL.out, HST.out, HQ.out, Bool.and_false]
                rw [all_no _ k t.length (by have := HL.out; omega) hf, Bool.and_false, Bool.and_false]
              have HNO := Lib.hid hno
              clear hno
              go_wp2
              go_quiet ((go_at_call 77; exact Calls.quiet_of_same (HN.out _)))
              go_wp2
              go_ret
              exact ⟨ret_bool HNO.out.symm, below_drewN (below_step HB.out HB'.out) _⟩
          · have hno : R = false := by
              rw [← HRR.out]
              unfold isP
              have hf : rowOk m t.length t k = false := by rw [HL.out, HST.out, decide_eq_false hlen, Bool.false_and]
              rw [all_no _ k t.length (by have := HL.out; omega) hf, Bool.and_false, Bool.and_false]
            have HNO := Lib.hid hno
            obtain ⟨rl, hrl2⟩ : ∃ q, r.length = q := ⟨_, rfl⟩
            have hle : ¬ (r.length : Int) = (L : Int) - (k : Int) := by omega
            rw [hrl2] at hck hrl hle
            obtain ⟨n1, n2⟩ : ((rl : Int) == (L : Int) - (k : Int)) = false ∧ ((rl : Int) != (L : Int) - (k : Int)) = true := ⟨by simpa using hle, by simpa using hle⟩
            clear hno hlen hrl2 HRI
            go_wp2
            go_quiet (fail)
            go_wp2
            go_ret
            exact ⟨ret_bool HNO.out.symm, below_drewN (below_step HB.out HB'.out) _⟩
        · obtain rfl : k = L := by omega
          have hyes : R = true := by
            rw [← HRR.out]
            unfold isP
            rw [HM.out, HL.out, (inB_iff _ _ _).2 ⟨z1, z2⟩, hall]; rfl
          have HY := Lib.hid hyes
          clear hyes hall hx hb
          go_wp2
          go_ret
          exact ⟨ret_bool HY.out.symm, below_step HB.out HB'.out⟩
    · have hno : R = false := by
        rw [← HRR.out]
        unfold isP
        rw [inB_no (show ¬ ((2 : Int) ≤ t.length ∧ (t.length : Int) ≤ 11) by omega), Bool.false_and, Bool.and_false]
      have HNO := Lib.hid hno
      clear hno
      by_cases h2 : t.length < 2
      · go_enter Tryz.func60, Tryz.ntmps60
        go_wp2_with fail
        rw [HW.out]
        refine (HLM.out _).mono ?_
        rintro e w' ⟨rfl, rfl⟩
        go_wp2
        go_ret
        exact ⟨ret_bool HNO.out.symm, HB.out⟩
      · have h3 : (11 : Int) < (t.length : Int) := by omega
        clear h1
        go_enter Tryz.func60, Tryz.ntmps60
        go_wp2_with fail
        rw [HW.out]
        refine (HLM.out _).mono ?_
        rintro e w' ⟨rfl, rfl⟩
        go_wp2
        go_ret
        exact ⟨ret_bool HNO.out.symm, HB.out⟩
  · have hm' : isM m = false := by simpa using hm
    have HNO := Lib.hid (show R = false by rw [← HRR.out]; unfold isP; rw [hm']; rfl)
    have hlm := fun W => l01Modulus_any m W
    rw [hm'] at hlm
    have HLM := Lib.hid hlm
    clear hm hm' hlm
    go_enter Tryz.func60, Tryz.ntmps60
    go_wp2_with fail
    rw [HW.out]
    refine (HLM.out _).mono ?_
    rintro e w' ⟨rfl, rfl⟩
    go_wp2
    go_ret
    exact ⟨ret_bool HNO.out.symm, HB.out⟩
end Go.Proofs.YtfhdgcndiljjcaaGreatDoor

/- Contracts of the exact laws' helpers on planes: size, copying, comparing, marking, looking at the marks. -/
namespace Go.Proofs.YtfhdgcndiljjcaaGreatDoor
open Go.RowKit Go.WideShapes Go.ChangeShapes Go.ChangeAt

/-- the slice of slices at A, wherever they begin, holds the rows -/
def RQ (w : World) (A : Option Addr) (t : List (List Int)) : Prop :=
  t ≠ [] → ∃ ad : Addr, A = some ad ∧ ad.block < w.heap.size ∧ ∀ k, k < t.length → ∃ A' c', w.cell? (ad.add k) = some (.slice A' (Pl.rw' t k).length c') ∧ RA w A' (Pl.rw' t k)
theorem RQ.below {w w' : World} {A : Option Addr} {t : List (List Int)} (h : RQ w A t) (hb : Below w.heap.size w w') : RQ w' A t := by
  intro hl
  obtain ⟨ad, e, hlt, hc⟩ := h hl
  refine ⟨ad, e, Nat.lt_of_lt_of_le hlt hb.size, fun k hk => ?_⟩
  obtain ⟨A', c', h1, h3⟩ := hc k hk
  exact ⟨A', c', (hb.cell (p := ad.add k) (by rw [add_block]; exact hlt)).trans h1, h3.below hb⟩
theorem RQ.at {w : World} {A : Option Addr} {t : List (List Int)} (h : RQ w A t) (k : Nat) (hk : k < t.length) :
    ∃ (ad : Addr) (A' : Option Addr) (c' : Nat), A = some ad ∧ ad.block < w.heap.size ∧ w.cell? (ad.add k) = some (.slice A' (Pl.rw' t k).length c') ∧ RA w A' (Pl.rw' t k) := by
  obtain ⟨ad, e, hlt, hc⟩ := h (by rintro rfl; simp at hk)
  obtain ⟨A', c', h1, h3⟩ := hc k hk
  exact ⟨ad, A', c', e, hlt, h1, h3⟩

theorem take_tot (t : List (List Int)) (j : Nat) (h : j < t.length) : tot (t.take (j + 1)) = tot (t.take j) + (Pl.rw' t j).length := take_succ_tot t j h
/-- how many elements a table has on both levels -/
def szT (t : List (List Int)) : Nat := t.length + tot t
theorem tot_row (t : List (List Int)) (k : Nat) : (Pl.rw' t k).length ≤ tot t := by
  by_cases hk : k < t.length
  · have h1 := take_tot t k hk
    have h2 := tot_take_le t (k + 1)
    omega
  · rw [Pl.rw_over (by omega)]; exact Nat.zero_le _

set_option maxHeartbeats 1000000 in
theorem szInt64SS_any (A : Option Addr) (c : Nat) (t : List (List Int)) (left : Int) (w : World) (h1 : 0 ≤ left) (h2 : left ≤ 1048576) (hq : RQ w A t) (hl : t.length ≤ 9223372036854775807) (hrl : ∀ k, (Pl.rw' t k).length ≤ 9223372036854775807) :
    Calls Tryz.prog 28 #[.slice A t.length c, .int .i64 left] w fun e w' => e = .returned (.int .i64 (if ((szT t : Nat) : Int) ≤ left then left - (szT t : Nat) else -1)) ∧ w = w' := by
  obtain ⟨R, hR⟩ : ∃ R, (if ((szT t : Nat) : Int) ≤ left then left - (szT t : Nat) else -1) = R := ⟨_, rfl⟩
  rw [hR]
  have HRR := Lib.hid hR
  clear hR
  by_cases hz : (t.length : Int) ≤ left
  · have HR := Lib.hid hrl
    clear hrl
    go_enter Tryz.func28, Tryz.ntmps28
    go_wp2
    go_loop [5, 1] (fun i m => ∃ k : Nat, k ≤ t.length ∧ i = .int .i64 k ∧ m = .int .i64 (left - t.length - tot (t.take k)) ∧ 0 ≤ left - t.length - tot (t.take k)) (fun i _ => t.length - (intOf i).toNat)
    case atStart => exact ⟨0, Nat.zero_le _, rfl, by simp [tot], by simp [tot]; omega⟩
    case round =>
      obtain ⟨k, hk, rfl, rfl, hnn⟩ := hrel
      by_cases hlt : k < t.length
      · obtain ⟨ad, A', c', rfl, hb, hc, -⟩ := hq.at k hlt
        have hT := take_tot t k hlt
        have hT2 := tot_take_le t (k + 1)
        have hr := HR.out k
        obtain ⟨n, hn⟩ : ∃ n, (Pl.rw' t k).length = n := ⟨_, rfl⟩
        obtain ⟨T, hTT⟩ : ∃ T, tot (t.take k) = T := ⟨_, rfl⟩
        obtain ⟨T2, hTT2⟩ : ∃ T, tot (t.take (k + 1)) = T := ⟨_, rfl⟩
        rw [hn] at hc hT hr
        rw [hTT] at hT hnn ⊢
        rw [hTT2] at hT hT2
        have HTT2 := Lib.hid hTT2
        have HT := Lib.hid hT
        have HT2 := Lib.hid hT2
        have hj0 : (0 : Int) ≤ (k : Int) := by omega
        have hj1 : (k : Int) < (t.length : Int) := by omega
        have HS := Lib.hid (fun W => szInt64S_any A' n c' (left - t.length - T) W hnn (by omega) hr)
        by_cases hfit : (n : Int) ≤ left - t.length - T
        · rw [if_pos hfit] at HS
          clear hn hTT hTT2 hT hT2 hq
          go_wp2_with (go_at_call 49; refine (HS.out _).mono ?_; rintro e w2 ⟨rfl, rfl⟩)
          go_round
          case rel => exact ⟨k + 1, by omega, by go_num, by have := HT.out; rw [HTT2.out, this]; congr 1; push_cast; omega, by have := HT.out; rw [HTT2.out, this]; push_cast; omega⟩
          case measure => simp only [intOf]; omega
        · rw [if_neg hfit] at HS
          have hno : ¬ ((szT t : Nat) : Int) ≤ left := by unfold szT; omega
          have HNO := Lib.hid (show R = -1 by rw [← HRR.out, if_neg hno])
          clear hn hTT hTT2 hT hT2 hq hno
          go_wp2_with (go_at_call 49; refine (HS.out _).mono ?_; rintro e w2 ⟨rfl, rfl⟩)
          go_ret
          exact ⟨ret_int HNO.out.symm, rfl⟩
      · obtain rfl : k = t.length := by omega
        have hyes : ((szT t : Nat) : Int) ≤ left := by unfold szT; rw [List.take_length] at hnn; push_cast; omega
        have HY := Lib.hid (show R = left - t.length - tot (t.take t.length) by rw [← HRR.out, if_pos hyes, List.take_length]; unfold szT; push_cast; omega)
        clear hyes
        go_wp2
        go_ret
        exact ⟨ret_int (by have := HY.out; rw [List.take_length] at this; exact this.symm), rfl⟩
  · have hno : ¬ ((szT t : Nat) : Int) ≤ left := by unfold szT; omega
    have HNO := Lib.hid (show R = -1 by rw [← HRR.out, if_neg hno])
    clear hno
    go_enter Tryz.func28, Tryz.ntmps28
    go_wp2
    go_ret
    exact ⟨ret_int HNO.out.symm, rfl⟩
theorem szPlane_any (m : Int) (A : Option Addr) (c : Nat) (t : List (List Int)) (left : Int) (w : World) (h1 : 0 ≤ left) (h2 : left ≤ 1048576) (hq : RQ w A t) (hl : t.length ≤ 9223372036854775807) (hrl : ∀ k, (Pl.rw' t k).length ≤ 9223372036854775807) :
    Calls Tryz.prog 9 #[.agg #[.int .i64 m, .slice A t.length c], .int .i64 left] w fun e w' => e = .returned (.int .i64 (if ((szT t : Nat) : Int) ≤ left then left - (szT t : Nat) else -1)) ∧ Below w.heap.size w w' := by
  have hsz := fun W (h : Below w.heap.size w W) => szInt64SS_any A c t left W h1 h2 (hq.below h) hl hrl
  by_cases h : ((szT t : Nat) : Int) ≤ left
  · rw [if_pos h] at hsz ⊢
    have HS := Lib.hid hsz
    clear hsz
    go_enter Tryz.func9, Tryz.ntmps9
    go_wp2_with (go_at_call 28; refine (HS.out _ (below_one _ _)).mono ?_; rintro e w' ⟨rfl, rfl⟩)
    go_ret
    exact ⟨rfl, below_one _ _⟩
  · rw [if_neg h] at hsz ⊢
    have HS := Lib.hid hsz
    clear hsz
    go_enter Tryz.func9, Tryz.ntmps9
    go_wp2_with (go_at_call 28; refine (HS.out _ (below_one _ _)).mono ?_; rintro e w' ⟨rfl, rfl⟩)
    go_ret
    exact ⟨rfl, below_one _ _⟩
theorem szPlane_ok (m : Int) (A : Option Addr) (c : Nat) (t : List (List Int)) (left : Int) (w : World) (h : ((szT t : Nat) : Int) ≤ left) (h2 : left ≤ 1048576) (hq : RQ w A t) :
    Calls Tryz.prog 9 #[.agg #[.int .i64 m, .slice A t.length c], .int .i64 left] w fun e w' => e = .returned (.int .i64 (left - (szT t : Nat))) ∧ Below w.heap.size w w' := by
  have := szPlane_any m A c t left w (by omega) h2 hq (by unfold szT at h; omega) (fun k => by have := tot_row t k; unfold szT at h; omega)
  rwa [if_pos h] at this
theorem szPlane_no (m : Int) (A : Option Addr) (c : Nat) (t : List (List Int)) (left : Int) (w : World) (h : ¬ ((szT t : Nat) : Int) ≤ left) (h1 : 0 ≤ left) (h2 : left ≤ 1048576) (hq : RQ w A t) (hl : t.length ≤ 9223372036854775807) (hrl : ∀ k, (Pl.rw' t k).length ≤ 9223372036854775807) :
    Calls Tryz.prog 9 #[.agg #[.int .i64 m, .slice A t.length c], .int .i64 left] w fun e w' => e = .returned (.int .i64 (-1)) ∧ Below w.heap.size w w' := by
  have := szPlane_any m A c t left w h1 h2 hq hl hrl
  rwa [if_neg h] at this

theorem rows_step (t : List (List Int)) (k : Nat) (h : k < t.length) : (t.take k ++ List.replicate (t.length - k) []).set k (Pl.rw' t k) = t.take (k + 1) ++ List.replicate (t.length - (k + 1)) [] := by
  have e : t[k] = Pl.rw' t k := by unfold Pl.rw'; rw [List.getElem?_eq_getElem h]; rfl
  rw [List.set_append_right _ _ (by simp; omega), List.length_take, Nat.min_eq_left (by omega), Nat.sub_self, show t.length - k = (t.length - (k + 1)) + 1 by omega, List.replicate_succ, List.set_cons_zero, List.take_succ_eq_append_getElem h, e, List.append_assoc]
  rfl

set_option maxHeartbeats 1000000 in
theorem toInt64SS_any (A : Option Addr) (c : Nat) (t : List (List Int)) (w : World) (hl : t.length ≤ 1048576) (hrl : ∀ k, (Pl.rw' t k).length ≤ 1048576) (hq : RQ w A t) :
    Calls Tryz.prog 31 #[.slice A t.length c] w fun e w' => ∃ v, e = .returned v ∧ OwnR w' w.heap.size w'.heap.size v t ∧ Below w.heap.size w w' := by
  have hmk := fun W => run_make_row' (P := Tryz.prog) 22 32 (.slice none 0 0) 24 Tryz.underlying22 infoRow rfl .i64 .i64 t.length (by omega) (by omega) W
  have HR := Lib.hid hrl
  have HQ := Lib.hid hq
  clear hrl hq
  go_enter Tryz.func31, Tryz.ntmps31
  go_wp2
  go_loopw [4] (fun i wr => ∃ k : Nat, k ≤ t.length ∧ i = .int .i64 k ∧ OwnR wr w.heap.size wr.heap.size (.slice (some ⟨w.heap.size, 0, none⟩) t.length t.length) (t.take k ++ List.replicate (t.length - k) []) ∧ Below w.heap.size w wr) (fun i _ => t.length - (intOf i).toNat)
  case atStart => exact ⟨0, Nat.zero_le _, rfl, by simpa using OwnR.made w t.length (by unfold maxLen; omega), (Below.refl _ _).alloc (Nat.le_refl _) _⟩
  case round =>
    clear hmk
    obtain ⟨k, hk, rfl, hown, hbel⟩ := hrel
    have HB := Lib.hid hbel
    have HO := Lib.hid hown
    clear hown hbel
    by_cases hlt : k < t.length
    · obtain ⟨ad, A', c', rfl, hb, hc, hra⟩ := HQ.out.at k hlt
      have hck := (HB.out.cell (p := ad.add k) (by rw [add_block]; exact hb)).trans hc
      have hr := HR.out k
      have HST := Lib.hid (rows_step t k hlt)
      obtain ⟨r, hrr⟩ : ∃ r, Pl.rw' t k = r := ⟨_, rfl⟩
      rw [hrr] at hck hra hr HST
      have HA := Lib.hid (hra.below HB.out)
      have hj0 : (0 : Int) ≤ (k : Int) := by omega
      have hj1 : (k : Int) < (t.length : Int) := by omega
      have hlen : k < (t.take k ++ List.replicate (t.length - k) ([] : List Int)).length := by simp; omega
      clear hc hra hrr hb
      go_wp2_with fail
      refine (toInt64S_any _ _ r _ hr HA.out).mono ?_
      rintro e w1 ⟨u0, rfl, ho1, hb1⟩
      obtain ⟨Au, cu, rfl, _⟩ := ho1.form
      obtain ⟨u, hu⟩ : ∃ u, Value.slice Au r.length cu = u := ⟨_, rfl⟩
      rw [hu] at ho1
      have ho2 := HO.out.keep hb1
      obtain ⟨l0, _, _, hf, _, _, hcg, _⟩ := ho2.cell k hlen
      have hput := ho2.put k hlen u r (ho1.more HB.out.size) (hi' := w1.heap.size) (fun b hb => ho1.lt b hb) hb1.size
      rw [HST.out] at hput
      subst hu
      have HP := Lib.hid hput
      have HB1 := Lib.hid ((below_step HB.out hb1).setCell (p := ⟨w.heap.size, k, none⟩) (Nat.le_refl _) (.slice Au r.length cu))
      clear hput ho1 ho2 hb1
      go_wp2
      go_roundw
      case rel => exact ⟨k + 1, by omega, by go_num, HP.out.more (by simp [World.setCell]), HB1.out⟩
      case measure => simp only [intOf]; omega
    · obtain rfl : k = t.length := by omega
      have hfin := HO.out
      rw [Nat.sub_self, List.replicate_zero, List.append_nil, List.take_length] at hfin
      have HFin := Lib.hid hfin
      clear hfin
      go_wp2
      go_ret
      exact ⟨_, rfl, HFin.out, HB.out⟩

set_option maxHeartbeats 1000000 in
theorem toPlane_any (m : Int) (A : Option Addr) (c : Nat) (t : List (List Int)) (w : World) (hl : szT t ≤ 1048576) (hq : RQ w A t) :
    Calls Tryz.prog 11 #[.agg #[.int .i64 m, .slice A t.length c]] w fun e w' => ∃ s, e = .returned (.agg #[.int .i64 m, s]) ∧ OwnR w' w.heap.size w'.heap.size s t ∧ Below w.heap.size w w' := by
  obtain ⟨W, hW⟩ : ∃ W, (((w.alloc (.cells #[.int .i64 m, .slice A t.length c] 24)).alloc (.cells #[.int .i64 0, .slice none 0 0] 28)).alloc (.cells #[.int .i64 m, .slice none 0 0] 28)) = W := ⟨_, rfl⟩
  have hwb : Below w.heap.size w W := by rw [← hW]; exact below_alloc _ (below_alloc _ (below_one _ _))
  have v1 : VarC 28 W (w.heap.size + 1) #[.int .i64 0, .slice none 0 0] := by
    rw [← hW]
    have := (VarC.new 28 (w.alloc (.cells #[.int .i64 m, .slice A t.length c] 24)) #[.int .i64 0, .slice none 0 0]).keep (below_one _ (.cells #[.int .i64 m, .slice none 0 0] 28))
    simpa using this
  have v2 : VarC 28 W (w.heap.size + 1 + 1) #[.int .i64 m, .slice none 0 0] := by
    rw [← hW]
    have := VarC.new 28 ((w.alloc (.cells #[.int .i64 m, .slice A t.length c] 24)).alloc (.cells #[.int .i64 0, .slice none 0 0] 28)) #[.int .i64 m, .slice none 0 0]
    simpa using this
  have HT := Lib.hid (fun W' (h : Below W.heap.size W W') => toInt64SS_any A c t W' (by unfold szT at hl; omega) (fun k => by have := tot_row t k; unfold szT at hl; omega) ((hq.below hwb).below h))
  have HW := Lib.hid hW
  have HB := Lib.hid hwb
  have V1 := Lib.hid v1
  have V2 := Lib.hid v2
  clear hq hW hwb v1 v2
  go_enter Tryz.func11, Tryz.ntmps11
  go_wp2_with fail
  rw [HW.out]
  refine (HT.out _ (Below.refl _ _)).mono ?_
  rintro e w1 ⟨s, rfl, ho1, hb1⟩
  obtain ⟨A1, c1, rfl, _⟩ := ho1.len
  have hu := V2.out.keep hb1
  have q1 : w1.cell? ⟨w.heap.size + 1 + 1, 1, none⟩ = some (.slice none 0 0) := hu.cell 1 _ rfl
  have q2 := hu.fz 1
  have hu2 := hu.set 1 (.slice A1 t.length c1)
  have q3 : (w1.setCell ⟨w.heap.size + 1 + 1, 1, none⟩ (.slice A1 t.length c1)).cell? ⟨w.heap.size + 1 + 1, 0, none⟩ = some (.int .i64 m) := hu2.cell 0 _ rfl
  have q4 : (w1.setCell ⟨w.heap.size + 1 + 1, 1, none⟩ (.slice A1 t.length c1)).cell? ⟨w.heap.size + 1 + 1, 1, none⟩ = some (.slice A1 t.length c1) := hu2.cell 1 _ rfl
  have hr1 := (V1.out.keep hb1).far (w.heap.size + 1 + 1) 1 (.slice A1 t.length c1) (by omega)
  have q5 : (w1.setCell ⟨w.heap.size + 1 + 1, 1, none⟩ (.slice A1 t.length c1)).cell? ⟨w.heap.size + 1, 0, none⟩ = some (.int .i64 0) := hr1.cell 0 _ rfl
  have q6 : (w1.setCell ⟨w.heap.size + 1 + 1, 1, none⟩ (.slice A1 t.length c1)).cell? ⟨w.heap.size + 1, 1, none⟩ = some (.slice none 0 0) := hr1.cell 1 _ rfl
  have q7 := hr1.fz 0
  have q8 := hr1.fz 1
  have hlt := V2.out.lt
  have hw2 : Below w.heap.size w (w1.setCell ⟨w.heap.size + 1 + 1, 1, none⟩ (.slice A1 t.length c1)) := (below_step HB.out hb1).setCell (by show w.heap.size ≤ w.heap.size + 1 + 1; omega) _
  have ho2 := (ho1.far (Span.of_grown (lo := w.heap.size + 1 + 1) (hi := w.heap.size + 1 + 1 + 1) (grown_setCell w1 (w.heap.size + 1 + 1) 1 (.slice A1 t.length c1)) (fun b hb => by injection hb with hb; omega)) (by omega)).more (show w1.heap.size ≤ (w1.setCell ⟨w.heap.size + 1 + 1, 1, none⟩ (.slice A1 t.length c1)).heap.size by simp [World.setCell])
  have fin := hr1.set 0 (.int .i64 m)
  have fin2 := fin.set 1 (.slice A1 t.length c1)
  have f0 : (((w1.setCell ⟨w.heap.size + 1 + 1, 1, none⟩ (.slice A1 t.length c1)).setCell ⟨w.heap.size + 1, 0, none⟩ (.int .i64 m)).setCell ⟨w.heap.size + 1, 1, none⟩ (.slice A1 t.length c1)).cell? ⟨w.heap.size + 1, 0, none⟩ = some (.int .i64 m) := fin2.cell 0 _ rfl
  have f1 : (((w1.setCell ⟨w.heap.size + 1 + 1, 1, none⟩ (.slice A1 t.length c1)).setCell ⟨w.heap.size + 1, 0, none⟩ (.int .i64 m)).setCell ⟨w.heap.size + 1, 1, none⟩ (.slice A1 t.length c1)).cell? ⟨w.heap.size + 1, 1, none⟩ = some (.slice A1 t.length c1) := fin2.cell 1 _ rfl
  have hg2 := grown_set2 (w1.setCell ⟨w.heap.size + 1 + 1, 1, none⟩ (.slice A1 t.length c1)) (w.heap.size + 1) (.int .i64 m) (.slice A1 t.length c1)
  have f2a := ho2.far (Span.of_grown (lo := w.heap.size + 1) (hi := w.heap.size + 1 + 1) hg2 (fun b hb => by injection hb with hb; omega)) (by omega)
  have f2 := (f2a.more hg2.size).low (show w.heap.size ≤ W.heap.size by omega)
  have f3 := below_set2 hw2 (show w.heap.size ≤ w.heap.size + 1 by omega) (.int .i64 m) (.slice A1 t.length c1)
  have F2 := Lib.hid f2
  have F3 := Lib.hid f3
  clear f2 f2a hg2 f3 hw2 ho2 ho1 hb1 hu hu2 hr1 fin fin2
  go_wp2
  refine bodyPost_ret (v := .agg #[.int .i64 m, .slice A1 t.length c1]) (by simp [results, Tryz.results11, go_sem, f0, f1]) rfl ⟨_, rfl, F2.out, F3.out⟩

set_option maxHeartbeats 1000000 in
theorem eqPlane_any (m : Int) (v u : Value) (lo hi lo' hi' : Nat) (t : List (List Int)) (w : World) (hl : szT t ≤ 1048576) (ha : OwnR w lo hi v t) (hb : OwnR w lo' hi' u t) (h1 : hi ≤ w.heap.size) (h2 : hi' ≤ w.heap.size) :
    Calls Tryz.prog 13 #[.agg #[.int .i64 m, v], .agg #[.int .i64 m, u]] w fun e w' => e = .returned (.bool true) ∧ Below w.heap.size w w' := by
  have hb2 := (below_alloc (.cells #[.int .i64 m, u] 28) (below_one w (.cells #[.int .i64 m, v] 28)))
  have HA := Lib.hid (ha.keep (hb2.mono h1))
  have HB := Lib.hid (hb.keep (hb2.mono h2))
  have HE := Lib.hid (fun W0 a b => eqInt64SS_any v u lo hi lo' hi' t W0 (by unfold szT at hl; omega) (fun k => by have := tot_row t k; unfold szT at hl; unfold Pl.rw' at this; omega) a b)
  obtain ⟨A, c, rfl, -⟩ := ha.len
  obtain ⟨B, d, rfl, -⟩ := hb.len
  have H2 := Lib.hid hb2
  clear ha hb hb2
  go_enter Tryz.func13, Tryz.ntmps13
  go_wp2_with (go_at_call 33; refine (HE.out _ HA.out HB.out).mono ?_; rintro e w' ⟨rfl, hb3⟩)
  go_ret
  exact ⟨rfl, below_step H2.out hb3⟩

set_option maxHeartbeats 1000000 in
theorem markPlane_any (m : Int) (v : Value) (lo hi : Nat) (t : List (List Int)) (k : Int) (w : World) (hl : szT t ≤ 1048576) (hk : 0 ≤ k) (hk2 : k ≤ 500000000000) (hown : OwnR w lo hi v t) (h1 : hi ≤ w.heap.size) :
    Calls Tryz.prog 19 #[.agg #[.int .i64 m, v], .int .i64 k] w fun e w' => e = .returned (.int .i64 (k + tot t)) ∧ OwnR w' lo hi v (mkR k t) ∧ Span lo hi w w' := by
  obtain ⟨A, c, rfl, _⟩ := hown.len
  have HO := Lib.hid (hown.keep ((below_one w (.cells #[.int .i64 m, .slice A t.length c] 28)).mono h1))
  have HM := Lib.hid (fun W0 h => markInt64SS_any (.slice A t.length c) lo hi t k W0 (by unfold szT at hl; omega) (by unfold szT at hl; omega) hk hk2 h)
  clear hown
  go_enter Tryz.func19, Tryz.ntmps19
  go_wp2_with (go_at_call 35; refine (HM.out _ HO.out).mono ?_; rintro e w' ⟨rfl, ho2, hg2⟩)
  go_ret
  exact ⟨rfl, ho2, (Span.of_grown (grown_alloc w (.cells #[.int .i64 m, .slice A t.length c] 28) none) (fun g hg => by cases hg)).trans hg2⟩

end Go.Proofs.YtfhdgcndiljjcaaGreatDoor

/- Helpers of the exact laws over planes and series. -/
namespace Go.Proofs.YtfhdgcndiljjcaaGreatDoor
open Go.RowKit Go.WideShapes Go.ChangeShapes Go.ChangeAt

theorem lenT {t : List (List Int)} (h : szT t ≤ 1048576) : t.length ≤ 9223372036854775807 := by unfold szT at h; omega
theorem rowT {t : List (List Int)} (h : szT t ≤ 1048576) (k : Nat) : (Pl.rw' t k).length ≤ 9223372036854775807 := by have := tot_row t k; unfold szT at h; omega
theorem Box.span {w w' : World} {g lo hi : Nat} {m : Int} {A : Option Addr} {n c : Nat} (hx : Box w g m A n c) (hs : Span lo hi w w') (hd : g < lo ∨ hi ≤ g) : Box w' g m A n c := by
  obtain ⟨h1, h2, h3⟩ := hx
  have hb := hs.block g h3 hd
  exact ⟨by rw [← h1]; simp only [World.cell?, hb], by rw [← h2]; simp only [World.cell?, hb], Nat.lt_of_lt_of_le h3 hs.size⟩
theorem varC_keep {t : TypeId} {cur wd : World} {g : Nat} {cs : Array Value} (h : VarC t cur g cs) (hb : Below cur.heap.size cur wd) : VarC t wd g cs ∧ g < cur.heap.size := ⟨h.keep hb, h.lt⟩
theorem varC_at {t : TypeId} {w : World} {g k : Nat} {cs : Array Value} (_h : VarC t w g cs) (hk : k ≤ g) : k ≤ g := hk
/-- a plane has been stored into a variable that lay there before the call -/
theorem reg_finP {t : TypeId} {wk cur wd : World} {g : Nat} {A : Option Addr} {n c : Nat} {T : List (List Int)} {x y : Value} (hk : wk.heap.size ≤ g) (hgc : g < cur.heap.size) (hv : VarC t wd g #[x, y]) (ho : OwnR wd cur.heap.size wd.heap.size (.slice A n c) T) (hb : Below wk.heap.size wk wd) (M : Int) :
    OwnR ((wd.setCell ⟨g, 0, none⟩ (.int .i64 M)).setCell ⟨g, 1, none⟩ (.slice A n c)) wk.heap.size ((wd.setCell ⟨g, 0, none⟩ (.int .i64 M)).setCell ⟨g, 1, none⟩ (.slice A n c)).heap.size (.slice A n c) T ∧ Box ((wd.setCell ⟨g, 0, none⟩ (.int .i64 M)).setCell ⟨g, 1, none⟩ (.slice A n c)) g M A n c ∧
    Below wk.heap.size wk ((wd.setCell ⟨g, 0, none⟩ (.int .i64 M)).setCell ⟨g, 1, none⟩ (.slice A n c)) := by
  have h2 := (hv.set 0 (.int .i64 M)).set 1 (.slice A n c)
  have hg := grown_set2 wd g (.int .i64 M) (.slice A n c)
  have ho2 := ho.far (Span.of_grown (lo := g) (hi := g + 1) hg (fun b hb => by injection hb with hb; omega)) (.inr (by omega))
  have hlt := hv.lt
  refine ⟨(ho2.low (by omega)).more hg.size, ⟨h2.cell 0 _ rfl, h2.cell 1 _ rfl, h2.lt⟩, (hb.setCell hk _).setCell hk _⟩
/-- a plane has been stored into a new variable -/
theorem reg_newP {wk cur wd : World} {A : Option Addr} {n c : Nat} {T : List (List Int)} (hk : wk.heap.size ≤ cur.heap.size) (ho : OwnR wd cur.heap.size wd.heap.size (.slice A n c) T) (hb : Below wk.heap.size wk wd) (M : Int) (t : TypeId) :
    OwnR (wd.alloc (.cells #[.int .i64 M, .slice A n c] t)) wk.heap.size (wd.alloc (.cells #[.int .i64 M, .slice A n c] t)).heap.size (.slice A n c) T ∧ Box (wd.alloc (.cells #[.int .i64 M, .slice A n c] t)) wd.heap.size M A n c ∧ Below wk.heap.size wk (wd.alloc (.cells #[.int .i64 M, .slice A n c] t)) :=
  ⟨((ho.keep (below_one _ _)).low hk).more (below_one wd _).size, Box.newT _ _ _ _ _ _, below_alloc _ hb⟩
theorem startB2 (t t' : TypeId) (w : World) (m : Int) (A : Option Addr) (n c : Nat) (m' : Int) (A' : Option Addr) (n' c' : Nat) :
    ∃ W, (w.alloc (.cells #[.int .i64 m, .slice A n c] t)).alloc (.cells #[.int .i64 m', .slice A' n' c'] t') = W ∧ Box W w.heap.size m A n c ∧ Box W (w.heap.size + 1) m' A' n' c' ∧ Below w.heap.size w W := by
  refine ⟨_, rfl, (Box.newT t w m A n c).keep (below_one _ _), ?_, below_alloc _ (below_one _ _)⟩
  have := Box.newT t' (w.alloc (.cells #[.int .i64 m, .slice A n c] t)) m' A' n' c'
  simpa using this
theorem startB3 (t t' t'' : TypeId) (w : World) (m : Int) (A : Option Addr) (n c : Nat) (m' : Int) (A' : Option Addr) (n' c' : Nat) (m'' : Int) (A'' : Option Addr) (n'' c'' : Nat) :
    ∃ W, ((w.alloc (.cells #[.int .i64 m, .slice A n c] t)).alloc (.cells #[.int .i64 m', .slice A' n' c'] t')).alloc (.cells #[.int .i64 m'', .slice A'' n'' c''] t'') = W ∧ Box W w.heap.size m A n c ∧ Box W (w.heap.size + 1) m' A' n' c' ∧ Box W (w.heap.size + 1 + 1) m'' A'' n'' c'' ∧ Below w.heap.size w W := by
  obtain ⟨W0, h0, h1, h2, h3⟩ := startB2 t t' w m A n c m' A' n' c'
  have hs : W0.heap.size = w.heap.size + 1 + 1 := by rw [← h0]; simp
  rw [h0]
  refine ⟨_, rfl, h1.keep (below_one _ _), h2.keep (below_one _ _), ?_, below_alloc _ h3⟩
  rw [← hs]
  exact Box.newT _ _ _ _ _ _
theorem frth {p q r s : Prop} (h : p ∧ q ∧ r ∧ s) : s := h.2.2.2
theorem reg_end2 {wk cur wd : World} {p q : Prop} (hs : p ∧ q ∧ Below wk.heap.size wk cur) (hb : Below cur.heap.size cur wd) : Below wk.heap.size wk wd ∧ wk.heap.size ≤ cur.heap.size := reg_end hs hb
theorem reg_end3 {wk cur wd : World} {p q r : Prop} (hs : p ∧ q ∧ r ∧ Below wk.heap.size wk cur) (hb : Below cur.heap.size cur wd) : Below wk.heap.size wk wd ∧ wk.heap.size ≤ cur.heap.size :=
  ⟨below_step hs.2.2.2 hb, hs.2.2.2.size⟩
theorem box3_in {W w' : World} {g g' g'' : Nat} {m m' m'' : Int} {A A' A'' : Option Addr} {n c n' c' n'' c'' : Nat} (h : Box W g m A n c) (h' : Box W g' m' A' n' c') (h'' : Box W g'' m'' A'' n'' c'') (hb : Below W.heap.size W w') :
    (w'.cell? ⟨g, 0, none⟩ = some (.int .i64 m) ∧ w'.cell? ⟨g, 1, none⟩ = some (.slice A n c)) ∧ (w'.cell? ⟨g', 0, none⟩ = some (.int .i64 m') ∧ w'.cell? ⟨g', 1, none⟩ = some (.slice A' n' c')) ∧ (w'.cell? ⟨g'', 0, none⟩ = some (.int .i64 m'') ∧ w'.cell? ⟨g'', 1, none⟩ = some (.slice A'' n'' c'')) ∧ Below W.heap.size W w' :=
  ⟨box_in h hb, box_in h' hb, box_in h'' hb, hb⟩
theorem box3_alloc {W w : World} {g g' g'' : Nat} {m m' m'' : Int} {A A' A'' : Option Addr} {n c n' c' n'' c'' : Nat} {p q r : Prop} {o : Obj} (h : Box W g m A n c) (h' : Box W g' m' A' n' c') (h'' : Box W g'' m'' A'' n'' c'') (hs : p ∧ q ∧ r ∧ Below W.heap.size W w) :
    ((w.alloc o).cell? ⟨g, 0, none⟩ = some (.int .i64 m) ∧ (w.alloc o).cell? ⟨g, 1, none⟩ = some (.slice A n c)) ∧ ((w.alloc o).cell? ⟨g', 0, none⟩ = some (.int .i64 m') ∧ (w.alloc o).cell? ⟨g', 1, none⟩ = some (.slice A' n' c')) ∧ ((w.alloc o).cell? ⟨g'', 0, none⟩ = some (.int .i64 m'') ∧ (w.alloc o).cell? ⟨g'', 1, none⟩ = some (.slice A'' n'' c'')) ∧ Below W.heap.size W (w.alloc o) :=
  box3_in h h' h'' (below_alloc _ hs.2.2.2)
end Go.Proofs.YtfhdgcndiljjcaaGreatDoor

/- Contracts of IsPlane at planes of bounded size. -/
namespace Go.Proofs.YtfhdgcndiljjcaaGreatDoor
open Go.RowKit Go.WideShapes Go.ChangeShapes Go.ChangeAt

theorem IsPlane_any (m : Int) (A : Option Addr) (c : Nat) (t : List (List Int)) (w : World) (hz : szT t ≤ 1048576) (hr : RP w A t) :
    Calls Tryz.prog 63 #[.agg #[.int .i64 m, .slice A t.length c]] w fun e w' => e = .returned (.bool (isP m t)) ∧ Below w.heap.size w w' := IsPlane_c m A c t w (lenT hz) (rowT hz) hr
theorem l03Is_z (m : Int) (A : Option Addr) (c : Nat) (t : List (List Int)) (w : World) (hz : szT t ≤ 1048576) (hr : RP w A t) :
    Calls Tryz.prog 60 #[.agg #[.int .i64 m, .slice A t.length c]] w fun e w' => e = .returned (.bool (isP m t)) ∧ Below w.heap.size w w' := l03Is_any m A c t w (lenT hz) (rowT hz) hr
end Go.Proofs.YtfhdgcndiljjcaaGreatDoor

/- Contracts of the codes of planes: one, two; of the program and of the model. -/
namespace Go.Proofs.YtfhdgcndiljjcaaGreatDoor
open Go.RowKit Go.WideShapes Go.ChangeShapes Go.ChangeAt

/-- the code of one plane, of two -/
def codeP1 (m : Int) (t : List (List Int)) : Int := if isP m t = true then 0 else 1
def codeP2 (m : Int) (t : List (List Int)) (m' : Int) (t' : List (List Int)) : Int := if isP m t = true ∧ isP m' t' = true then (if m = m' ∧ t.length = t'.length then 0 else 2) else 1
theorem var_inT {T : TypeId} {w w' : World} {g : Nat} {m m' : Int} {A A' : Option Addr} {n c n' c' : Nat} (hx : Box w g m A n c) (hb : Below w.heap.size w w') :
    ∃ W, (w'.alloc (.cells #[.int .i64 m', .slice A' n' c'] T)) = W ∧ Box W w'.heap.size m' A' n' c' ∧ Box W g m A n c ∧ Below w.heap.size w W :=
  ⟨_, rfl, Box.newT _ _ _ _ _ _, hx.keep (below_alloc _ hb), below_alloc _ hb⟩

set_option maxHeartbeats 4000000 in
set_option maxRecDepth 100000 in
theorem codeOfPlanes1_any (g : Nat) (m : Int) (A : Option Addr) (c : Nat) (t : List (List Int)) (w : World) (hz : szT t ≤ 1048576) (hr : RP w A t) (hx : Box w g m A t.length c) :
    Calls Tryz.prog 52 #[.slice (some ⟨g, 0, none⟩) 1 1] w fun e w' => e = .returned (.int .i64 (codeP1 m t)) ∧ Below w.heap.size w w' := by
  have HR := Lib.hid hr
  have HX := Lib.hid hx
  have HIP := Lib.hid (fun W (h : Below w.heap.size w W) => IsPlane_any m A c t W hz (hr.below h))
  have HG := Lib.hid (fun W => gridOf_any m A t.length c W (lenT hz))
  have hfd := field_frame
  obtain ⟨x1, x2, x3⟩ := hx
  obtain ⟨L, hL⟩ : ∃ L, t.length = L := ⟨_, rfl⟩
  rw [hL] at HX HIP HG x2
  clear hr x3 hL
  by_cases h1 : isP m t = true
  · have HF := Lib.hid (show codeP1 m t = 0 by unfold codeP1; rw [if_pos h1])
    rw [h1] at HIP
    go_enter Tryz.func52, Tryz.ntmps52
    go_wp2
    refine wp_loop_rounds 2 ?_
    rw [rounds_succ]
    go_wp2_with fail
    refine (HIP.out _ (below_one _ _)).mono ?_
    rintro e w1 ⟨rfl, hb1⟩
    have hb2 := (below_one w (.cells #[.int .i64 m, .slice A L c] 28)).trans (hb1.mono (by simp))
    obtain ⟨y1, y2, y3⟩ := HX.out.keep hb2
    go_wp2
    rw [rounds_succ]
    go_wp2
    refine wp_loop_rounds 2 ?_
    rw [rounds_succ]
    go_wp2
    obtain ⟨W, hW, b1, b2, hwb⟩ := var_inT (T := 28) (m' := m) (A' := A) (n' := L) (c' := c) HX.out hb2
    rw [hW]
    have B1 := Lib.hid b1
    have B2 := Lib.hid b2
    have HB := Lib.hid hwb
    clear hW b1 b2 hwb hb1 hb2
    go_region_held3 (fun w' => (w'.cell? ⟨w1.heap.size, 0, none⟩ = some (.int .i64 m) ∧ w'.cell? ⟨w1.heap.size, 1, none⟩ = some (.slice A L c)) ∧ (w'.cell? ⟨g, 0, none⟩ = some (.int .i64 m) ∧ w'.cell? ⟨g, 1, none⟩ = some (.slice A L c)) ∧ Below W.heap.size W w') (first | exact box2_in B1.out B2.out (below_drew0 _) | exact box2_next B1.out B2.out (by assumption) (by assumption)) (first
      | (go_at_call 53; refine (HG.out _).mono ?_; rintro e1 w2 ⟨rfl, hb3⟩))
    all_goals
      go_wp2
      rw [rounds_succ]
      go_wp2
      go_ret
      exact ⟨ret_int HF.out.symm, HB.out.trans ((box2_next B1.out B2.out (Below.refl _ _) (by assumption)).2.2.mono HB.out.size)⟩
  · have h1' : isP m t = false := by simpa using h1
    have HF := Lib.hid (show codeP1 m t = 1 by unfold codeP1; rw [if_neg h1])
    rw [h1'] at HIP
    clear h1 h1'
    go_enter Tryz.func52, Tryz.ntmps52
    go_wp2
    refine wp_loop_rounds 2 ?_
    rw [rounds_succ]
    go_wp2_with fail
    refine (HIP.out _ (below_one _ _)).mono ?_
    rintro e w1 ⟨rfl, hb1⟩
    have hb2 := (below_one w (.cells #[.int .i64 m, .slice A L c] 28)).trans (hb1.mono (by simp))
    go_wp2
    go_ret
    exact ⟨ret_int HF.out.symm, hb2⟩

set_option maxHeartbeats 8000000 in
set_option maxRecDepth 100000 in
theorem codeOfPlanes2_any (g : Nat) (m : Int) (A : Option Addr) (c : Nat) (t : List (List Int)) (m' : Int) (A' : Option Addr) (c' : Nat) (t' : List (List Int)) (w : World) (hz : szT t ≤ 1048576) (hz' : szT t' ≤ 1048576)
    (hr : RP w A t) (hr' : RP w A' t') (hx : Box4 w g m A t.length c m' A' t'.length c') :
    Calls Tryz.prog 52 #[.slice (some ⟨g, 0, none⟩) 2 2] w fun e w' => e = .returned (.int .i64 (codeP2 m t m' t')) ∧ Below w.heap.size w w' := by
  have HX := Lib.hid hx
  have HIP := Lib.hid (fun W (h : Below w.heap.size w W) => IsPlane_any m A c t W hz (hr.below h))
  have HIP' := Lib.hid (fun W (h : Below w.heap.size w W) => IsPlane_any m' A' c' t' W hz' (hr'.below h))
  have HG := Lib.hid (fun W => gridOf_any m A t.length c W (lenT hz))
  have HG' := Lib.hid (fun W => gridOf_any m' A' t'.length c' W (lenT hz'))
  have hfd := field_frame
  have HCC : Hid (codeP2 m t m' t' = if isP m t = true ∧ isP m' t' = true then (if m = m' ∧ t.length = t'.length then 0 else 2) else 1) := Lib.hid rfl
  obtain ⟨C, hC⟩ : ∃ C, codeP2 m t m' t' = C := ⟨_, rfl⟩
  obtain ⟨b, hb⟩ : ∃ b, isP m t = b := ⟨_, rfl⟩
  obtain ⟨b', hb'⟩ : ∃ b, isP m' t' = b := ⟨_, rfl⟩
  obtain ⟨L, hL⟩ : ∃ L, t.length = L := ⟨_, rfl⟩
  obtain ⟨L', hL'⟩ : ∃ L, t'.length = L := ⟨_, rfl⟩
  rw [hC] at HCC ⊢
  rw [hb, hb', hL, hL'] at HCC
  rw [hL, hL'] at HX hx
  rw [hL, hb] at HIP
  rw [hL', hb'] at HIP'
  rw [hL] at HG
  rw [hL'] at HG'
  obtain ⟨⟨x1, x2, _⟩, x3, x4⟩ := hx
  clear hr hr' hC hb hb' hL hL' hz hz'
  cases b with
  | true =>
    cases b' with
    | true =>
      have hcc : C = if m' = m ∧ L' = L then 0 else 2 := by
        have := HCC.out
        rw [if_pos ⟨rfl, rfl⟩] at this
        rw [this]
        by_cases h : m = m' ∧ L = L'
        · rw [if_pos h, if_pos ⟨h.1.symm, h.2.symm⟩]
        · rw [if_neg h, if_neg (fun h2 => h ⟨h2.1.symm, h2.2.symm⟩)]
      have HC := Lib.hid hcc
      clear hcc HCC
      go_enter Tryz.func52, Tryz.ntmps52
      go_wp2
      refine wp_loop_rounds 3 ?_
      rw [rounds_succ]
      go_wp2_with fail
      refine (HIP.out _ (below_one _ _)).mono ?_
      rintro e w1 ⟨rfl, hb1⟩
      have hb2 := (below_one w (.cells #[.int .i64 m, .slice A L c] 28)).trans (hb1.mono (by simp))
      obtain ⟨⟨y1, y2, _⟩, y3, y4⟩ := HX.out.keep hb2
      go_wp2
      rw [rounds_succ]
      go_wp2_with fail
      refine (HIP'.out _ (below_alloc _ hb2)).mono ?_
      rintro e w2 ⟨rfl, hb3⟩
      have hb4 := (below_alloc (.cells #[.int .i64 m', .slice A' L' c'] 28) hb2).trans (hb3.mono (by have := hb2.size; simp; omega))
      clear y1 y2 y3 y4 hb1 hb2 hb3
      obtain ⟨⟨y1, y2, _⟩, y3, y4⟩ := HX.out.keep hb4
      go_wp2
      rw [rounds_succ]
      go_wp2
      refine wp_loop_rounds 3 ?_
      rw [rounds_succ]
      go_wp2
      obtain ⟨W, hW, b1, b2, hwb⟩ := var_inT (T := 28) (m' := m) (A' := A) (n' := L) (c' := c) HX.out.1 hb4
      rw [hW]
      have B1 := Lib.hid b1
      have B2 := Lib.hid b2
      have HB := Lib.hid hwb
      clear hW b1 b2 hwb
      go_cut [31] from 23 to 30 (fun s wx => s = .bool false ∧ Below w.heap.size w wx)
      case first =>
        go_region_held3 (fun w' => (w'.cell? ⟨w2.heap.size, 0, none⟩ = some (.int .i64 m) ∧ w'.cell? ⟨w2.heap.size, 1, none⟩ = some (.slice A L c)) ∧ (w'.cell? ⟨g, 0, none⟩ = some (.int .i64 m) ∧ w'.cell? ⟨g, 1, none⟩ = some (.slice A L c)) ∧ Below W.heap.size W w') (first | exact box2_in B1.out B2.out (below_drew0 _) | exact box2_next B1.out B2.out (by assumption) (by assumption)) (first
          | (go_at_call 53; refine (HG.out _).mono ?_; rintro e1 w3 ⟨rfl, hb5⟩))
        all_goals
          go_wp2_with fail
          go_meet
          case rel => exact ⟨rfl, HB.out.trans ((box2_next B1.out B2.out (Below.refl _ _) (by assumption)).2.2.mono HB.out.size)⟩
      case rest =>
        obtain ⟨rfl, hb6⟩ := hcut
        clear B1 B2 HB y1 y2 y3 y4 hb4
        obtain ⟨w3, hw3⟩ : ∃ w3, w3 = wc := ⟨_, rfl⟩
        subst hw3
        obtain ⟨⟨y1, y2, _⟩, y3, y4⟩ := HX.out.keep hb6
        go_wp2
        rw [rounds_succ]
        go_wp2
        obtain ⟨W', hW, b1, b2, hwb⟩ := var_inT (T := 28) (m' := m') (A' := A') (n' := L') (c' := c') HX.out.1 hb6
        rw [hW]
        have B1 := Lib.hid b1
        have B2 := Lib.hid b2
        have HB := Lib.hid hwb
        clear hW b1 b2 hwb hb6 y1 y2 y3 y4
        obtain ⟨q, hq⟩ : ∃ q, (!(decide (m' = m) && decide (L' = L))) = q := ⟨_, rfl⟩
        have HC2 : Hid (C = if q then 2 else 0) := Lib.hid (by
          rw [HC.out, ← hq]
          by_cases h : m' = m ∧ L' = L
          · rw [if_pos h, decide_eq_true h.1, decide_eq_true h.2]; rfl
          · rw [if_neg h]
            by_cases h1 : m' = m
            · rw [decide_eq_true h1, decide_eq_false (fun h2 => h ⟨h1, h2⟩)]; rfl
            · rw [decide_eq_false h1]; rfl)
        clear HC
        go_cut [31] from 23 to 30 (fun s wx => s = .bool q ∧ Below w.heap.size w wx)
        case first =>
          by_cases hm : m' = m
          · subst hm
            by_cases hL : L' = L
            · subst hL
              obtain rfl : q = false := by rw [← hq]; simp
              clear hq HC2
              go_region_held3 (fun w' => (w'.cell? ⟨w3.heap.size, 0, none⟩ = some (.int .i64 m') ∧ w'.cell? ⟨w3.heap.size, 1, none⟩ = some (.slice A' L' c')) ∧ (w'.cell? ⟨g, 0, none⟩ = some (.int .i64 m') ∧ w'.cell? ⟨g, 1, none⟩ = some (.slice A L' c)) ∧ Below W'.heap.size W' w') (first | exact box2_in B1.out B2.out (below_drew0 _) | exact box2_next B1.out B2.out (by assumption) (by assumption)) (first
                | (go_at_call 53; with_reducible refine Calls.mono (HG.out _) ?_; rintro e1 w4 ⟨rfl, hb5⟩) | (go_at_call 53; with_reducible refine Calls.mono (HG'.out _) ?_; rintro e1 w4 ⟨rfl, hb5⟩))
              all_goals
                go_wp2_with fail
                go_meet
                case rel => exact ⟨rfl, HB.out.trans ((box2_next B1.out B2.out (Below.refl _ _) (by assumption)).2.2.mono HB.out.size)⟩
            · obtain rfl : q = true := by rw [← hq]; simp [hL]
              have hL2 : ¬ (L' : Int) - 1 = (L : Int) - 1 := by omega
              have hL3 : ((L' : Int) - 1 == (L : Int) - 1) = false := by simpa using hL2
              clear hq HC2 hL
              obtain ⟨D, hD⟩ : ∃ D, (L : Int) - 1 = D := ⟨_, rfl⟩
              obtain ⟨D', hD'⟩ : ∃ D, (L' : Int) - 1 = D := ⟨_, rfl⟩
              rw [hD] at HG hL2 hL3
              rw [hD'] at HG' hL2 hL3
              clear hD hD'
              go_region_held3 (fun w' => (w'.cell? ⟨w3.heap.size, 0, none⟩ = some (.int .i64 m') ∧ w'.cell? ⟨w3.heap.size, 1, none⟩ = some (.slice A' L' c')) ∧ (w'.cell? ⟨g, 0, none⟩ = some (.int .i64 m') ∧ w'.cell? ⟨g, 1, none⟩ = some (.slice A L c)) ∧ Below W'.heap.size W' w') (first | exact box2_in B1.out B2.out (below_drew0 _) | exact box2_next B1.out B2.out (by assumption) (by assumption)) (first
                | (go_at_call 53; with_reducible refine Calls.mono (HG.out _) ?_; rintro e1 w4 ⟨rfl, hb5⟩) | (go_at_call 53; with_reducible refine Calls.mono (HG'.out _) ?_; rintro e1 w4 ⟨rfl, hb5⟩))
              all_goals
                go_wp2_with fail
                go_meet
                case rel => exact ⟨rfl, HB.out.trans ((box2_next B1.out B2.out (Below.refl _ _) (by assumption)).2.2.mono HB.out.size)⟩
          · obtain rfl : q = true := by rw [← hq]; simp [hm]
            have hm3 : (m' == m) = false := by simpa using hm
            clear hq HC2
            obtain ⟨D, hD⟩ : ∃ D, (L : Int) - 1 = D := ⟨_, rfl⟩
            obtain ⟨D', hD'⟩ : ∃ D, (L' : Int) - 1 = D := ⟨_, rfl⟩
            rw [hD] at HG
            rw [hD'] at HG'
            clear hD hD'
            go_region_held3 (fun w' => (w'.cell? ⟨w3.heap.size, 0, none⟩ = some (.int .i64 m') ∧ w'.cell? ⟨w3.heap.size, 1, none⟩ = some (.slice A' L' c')) ∧ (w'.cell? ⟨g, 0, none⟩ = some (.int .i64 m) ∧ w'.cell? ⟨g, 1, none⟩ = some (.slice A L c)) ∧ Below W'.heap.size W' w') (first | exact box2_in B1.out B2.out (below_drew0 _) | exact box2_next B1.out B2.out (by assumption) (by assumption)) (first
              | (go_at_call 53; with_reducible refine Calls.mono (HG.out _) ?_; rintro e1 w4 ⟨rfl, hb5⟩) | (go_at_call 53; with_reducible refine Calls.mono (HG'.out _) ?_; rintro e1 w4 ⟨rfl, hb5⟩))
            all_goals
              go_wp2_with fail
              go_meet
              case rel => exact ⟨rfl, HB.out.trans ((box2_next B1.out B2.out (Below.refl _ _) (by assumption)).2.2.mono HB.out.size)⟩
        case rest =>
          obtain ⟨rfl, hb7⟩ := hcut
          have HB7 := Lib.hid hb7
          clear B1 B2 HB hb7 hq
          cases q
          all_goals
            go_wp2
            first
              | (go_ret; exact ⟨ret_int (by rw [HC2.out]; rfl), HB7.out⟩)
              | (rw [rounds_succ]; go_wp2; go_ret; exact ⟨ret_int (by rw [HC2.out]; rfl), HB7.out⟩)
    | false =>
      have HNO : Hid (C = 1) := Lib.hid (by rw [HCC.out, if_neg (by simp)])
      clear HCC
      go_enter Tryz.func52, Tryz.ntmps52
      go_wp2
      refine wp_loop_rounds 3 ?_
      rw [rounds_succ]
      go_wp2_with fail
      refine (HIP.out _ (below_one _ _)).mono ?_
      rintro e w1 ⟨rfl, hb1⟩
      have hb2 := (below_one w (.cells #[.int .i64 m, .slice A L c] 28)).trans (hb1.mono (by simp))
      obtain ⟨⟨y1, y2, _⟩, y3, y4⟩ := HX.out.keep hb2
      go_wp2
      rw [rounds_succ]
      go_wp2_with fail
      refine (HIP'.out _ (below_alloc _ hb2)).mono ?_
      rintro e w2 ⟨rfl, hb3⟩
      have hb4 := (below_alloc (.cells #[.int .i64 m', .slice A' L' c'] 28) hb2).trans (hb3.mono (by have := hb2.size; simp; omega))
      go_wp2
      go_ret
      exact ⟨ret_int HNO.out.symm, hb4⟩
  | false =>
    have HNO : Hid (C = 1) := Lib.hid (by rw [HCC.out, if_neg (by simp)])
    clear HCC
    go_enter Tryz.func52, Tryz.ntmps52
    go_wp2
    refine wp_loop_rounds 3 ?_
    rw [rounds_succ]
    go_wp2_with fail
    refine (HIP.out _ (below_one _ _)).mono ?_
    rintro e w1 ⟨rfl, hb1⟩
    have hb2 := (below_one w (.cells #[.int .i64 m, .slice A L c] 28)).trans (hb1.mono (by simp))
    go_wp2
    go_ret
    exact ⟨ret_int HNO.out.symm, hb2⟩

theorem codeP1_zero {m : Int} {t : List (List Int)} (h : codeP1 m t = 0) : isP m t = true := by
  unfold codeP1 at h
  by_cases h1 : isP m t = true
  · exact h1
  · rw [if_neg h1] at h; exact absurd h (by decide)
theorem codeP1_yes {m : Int} {t : List (List Int)} (h : isP m t = true) : codeP1 m t = 0 := by unfold codeP1; rw [if_pos h]
theorem codeP1_no {m : Int} {t : List (List Int)} (h : isP m t = false) : codeP1 m t = 1 := by unfold codeP1; rw [h]; rfl
theorem codeP2_ok {m : Int} {t : List (List Int)} {m' : Int} {t' : List (List Int)} (h : codeP2 m t m' t' = 0) : m = m' ∧ ∃ d, t.length = d + 1 ∧ t'.length = d + 1 ∧ Pl.Ok m d t ∧ Pl.Ok m d t' := by
  unfold codeP2 at h
  by_cases h1 : isP m t = true ∧ isP m' t' = true
  · rw [if_pos h1] at h
    by_cases h2 : m = m' ∧ t.length = t'.length
    · obtain ⟨rfl, h2⟩ := h2
      obtain ⟨d, e, s⟩ := plOk_of h1.1
      obtain ⟨d', e', s'⟩ := plOk_of h1.2
      obtain rfl : d' = d := by omega
      exact ⟨rfl, d', e, e', s, s'⟩
    · rw [if_neg h2] at h; exact absurd h (by decide)
  · rw [if_neg h1] at h; exact absurd h (by decide)
end Go.Proofs.YtfhdgcndiljjcaaGreatDoor

/- What the methods of grids share: their boxes, their results; planes with one code. -/
namespace Go.Proofs.YtfhdgcndiljjcaaGreatDoor
open Go.RowKit Go.WideShapes Go.ChangeShapes Go.ChangeAt

/-- the block of a grid in a variable of its own -/
def GBox (w : World) (g : Nat) (m : Int) (d : Nat) (A : Option Addr) (n c : Nat) : Prop :=
  w.cell? ⟨g, 0, none⟩ = some (.int .i64 m) ∧ w.cell? ⟨g, 1, none⟩ = some (.int .i64 d) ∧ w.cell? ⟨g, 2, none⟩ = some (.slice A n c) ∧ g < w.heap.size
theorem GBox.new (T : TypeId) (w : World) (m : Int) (d : Nat) (A : Option Addr) (n c : Nat) : GBox (w.alloc (.cells #[.int .i64 m, .int .i64 d, .slice A n c] T)) w.heap.size m d A n c := by
  have h := VarC.new T w #[.int .i64 m, .int .i64 d, .slice A n c]
  exact ⟨h.cell 0 _ rfl, h.cell 1 _ rfl, h.cell 2 _ rfl, h.lt⟩
theorem GBox.keep {w w' : World} {g : Nat} {m : Int} {d : Nat} {A : Option Addr} {n c : Nat} (h : GBox w g m d A n c) (hb : Below w.heap.size w w') : GBox w' g m d A n c :=
  ⟨(hb.cell (p := ⟨g, 0, none⟩) h.2.2.2).trans h.1, (hb.cell (p := ⟨g, 1, none⟩) h.2.2.2).trans h.2.1, (hb.cell (p := ⟨g, 2, none⟩) h.2.2.2).trans h.2.2.1, Nat.lt_of_lt_of_le h.2.2.2 hb.size⟩
/-- a grid's box and its result's variable -/
theorem gpro1 (w : World) (m : Int) (d : Nat) (A : Option Addr) (n c : Nat) : ∃ W, (w.alloc (.cells #[.int .i64 m, .int .i64 d, .slice A n c] 63)).alloc (.cells #[.int .i64 0, .int .i64 0, .slice none 0 0] 63) = W ∧
    GBox W w.heap.size m d A n c ∧ VarC 63 W (w.heap.size + 1) #[.int .i64 0, .int .i64 0, .slice none 0 0] ∧ Below w.heap.size w W := by
  refine ⟨_, rfl, (GBox.new _ _ _ _ _ _ _).keep (below_one _ _), ?_, below_alloc _ (below_one _ _)⟩
  have := VarC.new 63 (w.alloc (.cells #[.int .i64 m, .int .i64 d, .slice A n c] 63)) #[.int .i64 0, .int .i64 0, .slice none 0 0]
  simpa using this
/-- two grids' boxes and the result's variable -/
theorem gpro2 (w : World) (m : Int) (d : Nat) (A : Option Addr) (n c : Nat) (m' : Int) (d' : Nat) (A' : Option Addr) (n' c' : Nat) : ∃ W, ((w.alloc (.cells #[.int .i64 m, .int .i64 d, .slice A n c] 63)).alloc (.cells #[.int .i64 m', .int .i64 d', .slice A' n' c'] 63)).alloc (.cells #[.int .i64 0, .int .i64 0, .slice none 0 0] 63) = W ∧
    GBox W w.heap.size m d A n c ∧ GBox W (w.heap.size + 1) m' d' A' n' c' ∧ VarC 63 W (w.heap.size + 1 + 1) #[.int .i64 0, .int .i64 0, .slice none 0 0] ∧ Below w.heap.size w W := by
  refine ⟨_, rfl, ((GBox.new _ _ _ _ _ _ _).keep (below_one _ _)).keep (below_one _ _), ?_, ?_, below_alloc _ (below_alloc _ (below_one _ _))⟩
  · have := (GBox.new 63 (w.alloc (.cells #[.int .i64 m, .int .i64 d, .slice A n c] 63)) m' d' A' n' c').keep (below_one _ (.cells #[.int .i64 0, .int .i64 0, .slice none 0 0] 63))
    simpa using this
  · have := VarC.new 63 ((w.alloc (.cells #[.int .i64 m, .int .i64 d, .slice A n c] 63)).alloc (.cells #[.int .i64 m', .int .i64 d', .slice A' n' c'] 63)) #[.int .i64 0, .int .i64 0, .slice none 0 0]
    simpa using this
/-- what a grid's variable tells the walk -/
theorem VarC.tells3 {T : TypeId} {w : World} {g : Nat} {a b c : Value} (h : VarC T w g #[a, b, c]) : w.cell? ⟨g, 0, none⟩ = some a ∧ w.cell? ⟨g, 1, none⟩ = some b ∧ w.cell? ⟨g, 2, none⟩ = some c ∧ w.frozen? ⟨g, 0, none⟩ = false ∧ w.frozen? ⟨g, 1, none⟩ = false ∧ w.frozen? ⟨g, 2, none⟩ = false :=
  ⟨h.cell 0 _ rfl, h.cell 1 _ rfl, h.cell 2 _ rfl, h.fz 0, h.fz 1, h.fz 2⟩
theorem VarC.tells2 {T : TypeId} {w : World} {g : Nat} {a b : Value} (h : VarC T w g #[a, b]) : w.cell? ⟨g, 0, none⟩ = some a ∧ w.cell? ⟨g, 1, none⟩ = some b ∧ w.frozen? ⟨g, 0, none⟩ = false ∧ w.frozen? ⟨g, 1, none⟩ = false :=
  ⟨h.cell 0 _ rfl, h.cell 1 _ rfl, h.fz 0, h.fz 1⟩
/-- a plane is stored into its variable: what the return reads -/
theorem fin_plane {T : TypeId} {w w2 : World} {g lo hi : Nat} {v x y : Value} {t : List (List Int)} (hv : VarC T w2 g #[x, y]) (ho : OwnR w2 lo hi v t) (hg : g < lo ∨ hi ≤ g) (hwg : w.heap.size ≤ g) (hhi : hi ≤ w2.heap.size) (hb : Below w.heap.size w w2) (p q : Value) :
    ((w2.setCell ⟨g, 0, none⟩ p).setCell ⟨g, 1, none⟩ q).cell? ⟨g, 0, none⟩ = some p ∧ ((w2.setCell ⟨g, 0, none⟩ p).setCell ⟨g, 1, none⟩ q).cell? ⟨g, 1, none⟩ = some q ∧
    OwnR ((w2.setCell ⟨g, 0, none⟩ p).setCell ⟨g, 1, none⟩ q) lo ((w2.setCell ⟨g, 0, none⟩ p).setCell ⟨g, 1, none⟩ q).heap.size v t ∧ Below w.heap.size w ((w2.setCell ⟨g, 0, none⟩ p).setCell ⟨g, 1, none⟩ q) := by
  have h := (hv.set 0 p).set 1 q
  refine ⟨h.cell 0 _ rfl, h.cell 1 _ rfl, ?_, (hb.setCell hwg _).setCell hwg _⟩
  exact (ho.far (Span.of_grown (lo := g) (hi := g + 1) (grown_set2 w2 g p q) (fun b hb => by injection hb with hb; omega)) (by omega)).more (Nat.le_trans hhi (grown_set2 w2 g p q).size)
/-- a series is -/
theorem fin_serC {T : TypeId} {w w2 : World} {g base : Nat} {v x y : Value} {l : List Int} (hv : VarC T w2 g #[x, y]) (ho : OwnI w2 base v l) (hg : g < base) (hwg : w.heap.size ≤ g) (hb : Below w.heap.size w w2) (p q : Value) :
    ((w2.setCell ⟨g, 0, none⟩ p).setCell ⟨g, 1, none⟩ q).cell? ⟨g, 0, none⟩ = some p ∧ ((w2.setCell ⟨g, 0, none⟩ p).setCell ⟨g, 1, none⟩ q).cell? ⟨g, 1, none⟩ = some q ∧
    OwnI ((w2.setCell ⟨g, 0, none⟩ p).setCell ⟨g, 1, none⟩ q) base v l ∧ Below w.heap.size w ((w2.setCell ⟨g, 0, none⟩ p).setCell ⟨g, 1, none⟩ q) := by
  have h := (hv.set 0 p).set 1 q
  refine ⟨h.cell 0 _ rfl, h.cell 1 _ rfl, ho.other (grown_set2 w2 g p q) ?_, (hb.setCell hwg _).setCell hwg _⟩
  rcases hc : v.ownBlock with _ | b
  · exact .inl rfl
  · refine .inr (fun e => ?_)
    injection e with e
    have := (ho.lt b hc).1
    omega
/-- a plane's box, its result's variable, the list of the one plane -/
theorem pro1P (w : World) (m : Int) (A : Option Addr) (n c : Nat) : ∃ W, ((w.alloc (.cells #[.int .i64 m, .slice A n c] 28)).alloc (.cells #[.int .i64 0, .slice none 0 0] 28)).alloc (.cells #[.int .i64 m, .slice A n c] 28) = W ∧
    Box W w.heap.size m A n c ∧ VarC 28 W (w.heap.size + 1) #[.int .i64 0, .slice none 0 0] ∧ Box W (w.heap.size + 1 + 1) m A n c ∧ Below w.heap.size w W := by
  refine ⟨_, rfl, ((Box.newT _ _ _ _ _ _).keep (below_one _ _)).keep (below_one _ _), ?_, ?_, below_alloc _ (below_alloc _ (below_one _ _))⟩
  · have := (VarC.new 28 (w.alloc (.cells #[.int .i64 m, .slice A n c] 28)) #[.int .i64 0, .slice none 0 0]).keep (below_one _ (.cells #[.int .i64 m, .slice A n c] 28))
    simpa using this
  · have := Box.newT 28 ((w.alloc (.cells #[.int .i64 m, .slice A n c] 28)).alloc (.cells #[.int .i64 0, .slice none 0 0] 28)) m A n c
    simpa using this
/-- .. of a series -/
theorem pro1S (w : World) (m : Int) (A : Option Addr) (n c : Nat) : ∃ W, ((w.alloc (.cells #[.int .i64 m, .slice A n c] 28)).alloc (.cells #[.int .i64 0, .slice none 0 0] 71)).alloc (.cells #[.int .i64 m, .slice A n c] 28) = W ∧
    Box W w.heap.size m A n c ∧ VarC 71 W (w.heap.size + 1) #[.int .i64 0, .slice none 0 0] ∧ Box W (w.heap.size + 1 + 1) m A n c ∧ Below w.heap.size w W := by
  refine ⟨_, rfl, ((Box.newT _ _ _ _ _ _).keep (below_one _ _)).keep (below_one _ _), ?_, ?_, below_alloc _ (below_alloc _ (below_one _ _))⟩
  · have := (VarC.new 71 (w.alloc (.cells #[.int .i64 m, .slice A n c] 28)) #[.int .i64 0, .slice none 0 0]).keep (below_one _ (.cells #[.int .i64 m, .slice A n c] 28))
    simpa using this
  · have := Box.newT 28 ((w.alloc (.cells #[.int .i64 m, .slice A n c] 28)).alloc (.cells #[.int .i64 0, .slice none 0 0] 71)) m A n c
    simpa using this
/-- the model's: a plane's box and its result's variable -/
theorem spro1P (w : World) (m : Int) (A : Option Addr) (n c : Nat) : ∃ W, (w.alloc (.cells #[.int .i64 m, .slice A n c] 28)).alloc (.cells #[.int .i64 0, .slice none 0 0] 28) = W ∧
    Box W w.heap.size m A n c ∧ VarC 28 W (w.heap.size + 1) #[.int .i64 0, .slice none 0 0] ∧ Below w.heap.size w W := by
  refine ⟨_, rfl, (Box.newT _ _ _ _ _ _).keep (below_one _ _), ?_, below_alloc _ (below_one _ _)⟩
  have := VarC.new 28 (w.alloc (.cells #[.int .i64 m, .slice A n c] 28)) #[.int .i64 0, .slice none 0 0]
  simpa using this
/-- two planes' boxes, the result's variable, the list of both -/
theorem pro2P (w : World) (m : Int) (A : Option Addr) (n c : Nat) (m' : Int) (A' : Option Addr) (n' c' : Nat) : ∃ W, (((w.alloc (.cells #[.int .i64 m, .slice A n c] 28)).alloc (.cells #[.int .i64 m', .slice A' n' c'] 28)).alloc (.cells #[.int .i64 0, .slice none 0 0] 28)).alloc (.cells #[.int .i64 m, .slice A n c, .int .i64 m', .slice A' n' c'] 28) = W ∧
    Box W w.heap.size m A n c ∧ Box W (w.heap.size + 1) m' A' n' c' ∧ VarC 28 W (w.heap.size + 1 + 1) #[.int .i64 0, .slice none 0 0] ∧ Box4 W (w.heap.size + 1 + 1 + 1) m A n c m' A' n' c' ∧ Below w.heap.size w W := by
  obtain ⟨W0, h0, h1, h2, h3⟩ := startB2 28 28 w m A n c m' A' n' c'
  have hs : W0.heap.size = w.heap.size + 1 + 1 := by rw [← h0]; simp
  rw [h0]
  refine ⟨_, rfl, (h1.keep (below_one _ _)).keep (below_one _ _), (h2.keep (below_one _ _)).keep (below_one _ _), ?_, ?_, below_alloc _ (below_alloc _ h3)⟩
  · have := (VarC.new 28 W0 #[.int .i64 0, .slice none 0 0]).keep (below_one _ (.cells #[.int .i64 m, .slice A n c, .int .i64 m', .slice A' n' c'] 28))
    rwa [hs] at this
  · have hv := VarC.new 28 (W0.alloc (.cells #[.int .i64 0, .slice none 0 0] 28)) #[.int .i64 m, .slice A n c, .int .i64 m', .slice A' n' c']
    have e : (W0.alloc (.cells #[.int .i64 0, .slice none 0 0] 28)).heap.size = w.heap.size + 1 + 1 + 1 := by simp [hs]
    rw [e] at hv
    exact ⟨⟨hv.cell 0 _ rfl, hv.cell 1 _ rfl, hv.lt⟩, hv.cell 2 _ rfl, hv.cell 3 _ rfl⟩
/-- .. of the model -/
theorem spro2P (w : World) (m : Int) (A : Option Addr) (n c : Nat) (m' : Int) (A' : Option Addr) (n' c' : Nat) : ∃ W, ((w.alloc (.cells #[.int .i64 m, .slice A n c] 28)).alloc (.cells #[.int .i64 m', .slice A' n' c'] 28)).alloc (.cells #[.int .i64 0, .slice none 0 0] 28) = W ∧
    Box W w.heap.size m A n c ∧ Box W (w.heap.size + 1) m' A' n' c' ∧ VarC 28 W (w.heap.size + 1 + 1) #[.int .i64 0, .slice none 0 0] ∧ Below w.heap.size w W := by
  obtain ⟨W0, h0, h1, h2, h3⟩ := startB2 28 28 w m A n c m' A' n' c'
  have hs : W0.heap.size = w.heap.size + 1 + 1 := by rw [← h0]; simp
  rw [h0]
  refine ⟨_, rfl, h1.keep (below_one _ _), h2.keep (below_one _ _), ?_, below_alloc _ h3⟩
  have := VarC.new 28 W0 #[.int .i64 0, .slice none 0 0]
  rwa [hs] at this
/-- a table of a function's, cut to a degree: how many elements -/
theorem szT_ok {m : Int} {d : Nat} {t : List (List Int)} (h : Pl.Ok m d t) : szT t ≤ 1048576 := by
  have key : ∀ k, k ≤ d + 1 → tot (t.take k) ≤ k * 11 := by
    intro k
    induction k with
    | zero => intro _; simp [tot]
    | succ k ih =>
      intro hk
      have h1 := take_tot t k (by rw [h.len]; omega)
      have h2 := h.row k (by omega)
      have h3 := ih (by omega)
      have h4 := h.d2
      omega
  have h1 := key (d + 1) (Nat.le_refl _)
  rw [List.take_of_length_le (by rw [h.len]; omega)] at h1
  have := h.d2
  have := h.len
  unfold szT
  omega
/-- the model of a function of one plane -/
def oneP (f : Int → Nat → List (List Int) → List (List Int)) (m : Int) (t : List (List Int)) : Int × List (List Int) × Int := if codeP1 m t = 0 then (m, f m (t.length - 1) t, 0) else (0, [], codeP1 m t)
theorem oneP_len (f : Int → Nat → List (List Int) → List (List Int)) (m : Int) (t : List (List Int)) (h : ∀ d, Pl.Ok m d t → szT (f m d t) ≤ 1048576) : szT (oneP f m t).2.1 ≤ 1048576 := by
  unfold oneP
  by_cases hc : codeP1 m t = 0
  · rw [if_pos hc]
    obtain ⟨d, e, ho⟩ := plOk_of (codeP1_zero hc)
    rw [e]
    exact h d ho
  · rw [if_neg hc]; exact Nat.zero_le _
/-- .. of two planes -/
def twoP (f : Int → Nat → List (List Int) → List (List Int) → List (List Int)) (m : Int) (t : List (List Int)) (m' : Int) (t' : List (List Int)) : Int × List (List Int) × Int := if codeP2 m t m' t' = 0 then (m, f m (t.length - 1) t t', 0) else (0, [], codeP2 m t m' t')
theorem twoP_len (f : Int → Nat → List (List Int) → List (List Int) → List (List Int)) (m : Int) (t : List (List Int)) (m' : Int) (t' : List (List Int)) (h : ∀ d, Pl.Ok m d t → Pl.Ok m d t' → szT (f m d t t') ≤ 1048576) : szT (twoP f m t m' t').2.1 ≤ 1048576 := by
  unfold twoP
  by_cases hc : codeP2 m t m' t' = 0
  · rw [if_pos hc]
    obtain ⟨rfl, d, e, _, ho, ho'⟩ := codeP2_ok hc
    rw [e]
    exact h d ho ho'
  · rw [if_neg hc]; exact Nat.zero_le _
end Go.Proofs.YtfhdgcndiljjcaaGreatDoor

/- Contract of a grid with its variables exchanged. -/
namespace Go.Proofs.YtfhdgcndiljjcaaGreatDoor
open Go.RowKit Go.WideShapes Go.ChangeShapes Go.ChangeAt

set_option maxHeartbeats 1000000 in
theorem turnedC_any (i j g : Nat) (m : Int) (d : Nat) (A : Option Addr) (c : Nat) (t : List (List Int)) (W : World) (hb : GBox W g m d A t.length c) (hs : Pl.Ok m d t) (hr : RP W A t) (hij : i + j ≤ d) :
    Calls Tryz.prog 122 #[.int .i64 i, .int .i64 j, .pointer (some ⟨g, 0, none⟩)] W fun e w' => e = .returned (.int .i64 (Pl.pc t j i)) ∧ Below W.heap.size W w' := by
  obtain ⟨_, _, x2, _⟩ := hb
  obtain ⟨b, off, b', off', c', rfl, -, k1, -, k2⟩ := hr.num j i (by rw [hs.len]; omega) (by rw [hs.row j (by omega)]; omega)
  have hl := hs.len
  have hrw := hs.row j (by omega)
  obtain ⟨N, hN⟩ : ∃ N, d - j + 1 = N := ⟨_, rfl⟩
  obtain ⟨L, hL⟩ : ∃ L, t.length = L := ⟨_, rfl⟩
  obtain ⟨X, hX⟩ : ∃ X, Pl.pc t j i = X := ⟨_, rfl⟩
  rw [hrw, hN] at k1
  rw [hX] at k2 ⊢
  rw [hL] at x2
  have j1 : (0 : Int) ≤ (j : Int) := by omega
  have j2 : (j : Int) < (L : Int) := by omega
  have j3 : (0 : Int) ≤ (i : Int) := by omega
  have j4 : (i : Int) < (N : Int) := by omega
  clear hl hrw hN hL hX hr hs
  go_enter Tryz.func122, Tryz.ntmps122
  go_wp2
  go_ret
  exact ⟨rfl, Below.refl _ _⟩
set_option maxHeartbeats 2000000 in
set_option maxRecDepth 100000 in
theorem turned_any (m : Int) (d : Nat) (A : Option Addr) (c : Nat) (t : List (List Int)) (w : World) (hs : Pl.Ok m d t) (hr : RP w A t) :
    Calls Tryz.prog 112 #[.agg #[.int .i64 m, .int .i64 d, .slice A t.length c]] w fun e w' => ∃ v, e = .returned (.agg #[.int .i64 m, .int .i64 d, v]) ∧ OwnR w' w.heap.size w'.heap.size v (Pl.tab m d (fun i j => Pl.pc t j i)) ∧ Below w.heap.size w w' := by
  obtain ⟨W, hW, b1, v3, hwb⟩ := gpro1 w m d A t.length c
  have HS := Lib.hid (filled_any m d 122 #[.pointer (some ⟨w.heap.size, 0, none⟩)] (fun i j => Pl.pc t j i) W (by have := hs.m1; omega) hs.m2 (by have := hs.d2; omega)
    (fun i j hij => by have := hs.pc j i; have := hs.m2; omega) (enters_fn Tryz.func122 (of_decide_eq_true (by kernel_rfl)) rfl)
    (fun i j W1 hij hb => turnedC_any i j _ m d A c t W1 (b1.keep hb) hs ((hr.below hwb).below hb) hij))
  have HB := Lib.hid hwb
  have HW := Lib.hid hW
  have V3 := Lib.hid v3
  obtain ⟨T, hT⟩ : ∃ T, Pl.tab m d (fun i j => Pl.pc t j i) = T := ⟨_, rfl⟩
  rw [hT] at HS ⊢
  obtain ⟨L, hL⟩ : ∃ L, t.length = L := ⟨_, rfl⟩
  rw [hL] at HW ⊢
  clear b1 v3 hwb hW hr hs hT hL
  go_enter Tryz.func112, Tryz.ntmps112
  go_wp2_with fail
  rw [HW.out]
  refine HS.out.mono ?_
  rintro e w2 ⟨v, rfl, ho, hb⟩
  obtain ⟨A2, c2, rfl, -⟩ := ho.len
  have hv := V3.out.keep hb
  obtain ⟨q0, q1, q2, q3, q4, q5⟩ := hv.tells3
  obtain ⟨f0, f1, f2, f3, f4⟩ := fin_grid (w := w) hv ho (by have := V3.out.lt; omega) (by omega) (Nat.le_refl _) (below_step HB.out hb) (.int .i64 m) (.int .i64 d) (.slice A2 T.length c2)
  have F3 := Lib.hid (f3.low (show w.heap.size ≤ W.heap.size from HB.out.size))
  have F4 := Lib.hid f4
  unfold set3 at f0 f1 f2
  clear f3 f4 ho hv hb
  go_wp2
  exact bodyPost_ret (v := .agg #[.int .i64 m, .int .i64 d, .slice A2 T.length c2]) (by simp [results, Tryz.results112, go_sem, f0, f1, f2]) rfl ⟨_, rfl, F3.out, F4.out⟩
end Go.Proofs.YtfhdgcndiljjcaaGreatDoor

/- Contracts of the program's look for faults of one variable and of symmetry. -/
namespace Go.Proofs.YtfhdgcndiljjcaaGreatDoor
open Go.RowKit Go.WideShapes Go.ChangeShapes Go.ChangeAt

theorem OwnI.lit2 (w : World) (x y : Int) : OwnI (w.alloc (.cells #[.int .i64 x, .int .i64 y] 2)) w.heap.size (.slice (some ⟨w.heap.size, 0, none⟩) 2 2) [x, y] :=
  ⟨rfl, .inr ⟨w.heap.size, 2, #[.int .i64 x, .int .i64 y], rfl, Nat.le_refl _, heap_alloc_new w _, Nat.le_refl _, by unfold maxLen; omega, rfl, rfl⟩⟩
theorem OwnI.lit3 (w : World) (x y z : Int) : OwnI (w.alloc (.cells #[.int .i64 x, .int .i64 y, .int .i64 z] 2)) w.heap.size (.slice (some ⟨w.heap.size, 0, none⟩) 3 3) [x, y, z] :=
  ⟨rfl, .inr ⟨w.heap.size, 3, #[.int .i64 x, .int .i64 y, .int .i64 z], rfl, Nat.le_refl _, heap_alloc_new w _, Nat.le_refl _, by unfold maxLen; omega, rfl, rfl⟩⟩
theorem OwnI.lit4 (w : World) (x y z u : Int) : OwnI (w.alloc (.cells #[.int .i64 x, .int .i64 y, .int .i64 z, .int .i64 u] 2)) w.heap.size (.slice (some ⟨w.heap.size, 0, none⟩) 4 4) [x, y, z, u] :=
  ⟨rfl, .inr ⟨w.heap.size, 4, #[.int .i64 x, .int .i64 y, .int .i64 z, .int .i64 u], rfl, Nat.le_refl _, heap_alloc_new w _, Nat.le_refl _, by unfold maxLen; omega, rfl, rfl⟩⟩
/-- a fault's list, or no list -/
def FauV (w : World) (base : Nat) (v : Value) : Option (List Int) → Prop
  | none => v = .slice none 0 0
  | some x => ∃ b c, v = .slice (some b) x.length c ∧ OwnI w base (.slice (some b) x.length c) x
namespace Pl
theorem fau0_go {F : Nat → Nat → Int} {d k : Nat} {o : Option (List Int)} (hk : k < d + 1) (h : srch (fau0 F) (d + 1 - k) k = o) (hx : F k 0 = want k) : srch (fau0 F) (d + 1 - (k + 1)) (k + 1) = o := by
  rw [show d + 1 - k = (d + 1 - (k + 1)) + 1 by omega, srch_step] at h
  unfold fau0 at h
  rw [if_pos hx, orE_none] at h
  exact h
theorem fau0_no {F : Nat → Nat → Int} {d k : Nat} {o : Option (List Int)} (hk : k < d + 1) (h : srch (fau0 F) (d + 1 - k) k = o) (hx : ¬ F k 0 = want k) : o = some [0, (k : Int)] := by
  rw [show d + 1 - k = (d + 1 - (k + 1)) + 1 by omega, srch_step] at h
  unfold fau0 at h
  rw [if_neg hx, orE_some] at h
  exact h.symm
end Pl
set_option maxHeartbeats 4000000 in
set_option maxRecDepth 100000 in
theorem wrongPower_any (m : Int) (d : Nat) (A : Option Addr) (c : Nat) (t : List (List Int)) (w : World) (hs : Pl.Ok m d t) (hr : RP w A t) :
    Calls Tryz.prog 83 #[.agg #[.int .i64 m, .int .i64 d, .slice A t.length c]] w fun e w' => ∃ v, e = .returned v ∧ FauV w' w.heap.size v (Pl.fauP d (Pl.pc t)) ∧ Below w.heap.size w w' := by
  have HG1 := Lib.hid (GBox.new 63 w m d A t.length c)
  have HWB := Lib.hid (below_one w (.cells #[.int .i64 m, .int .i64 d, .slice A t.length c] 63))
  obtain ⟨W, hW⟩ : ∃ W, w.alloc (.cells #[.int .i64 m, .int .i64 d, .slice A t.length c] 63) = W := ⟨_, rfl⟩
  rw [hW] at HG1 HWB
  have HW := Lib.hid hW
  have HB := HWB
  obtain ⟨b, off, rfl, hbb, hrow⟩ := hr (by intro e; have := hs.len; rw [e] at this; simp at this)
  have HROW := Lib.hid hrow
  have HS := Lib.hid hs
  have hd2 := hs.d2
  have hl := hs.len
  obtain ⟨o, ho⟩ : ∃ o, Pl.fauP d (Pl.pc t) = o := ⟨_, rfl⟩
  have HO := Lib.hid (show Pl.srch (Pl.fau0 (Pl.pc t)) (d + 1 - 0) 0 = o from ho)
  rw [ho]
  obtain ⟨L, hL⟩ : ∃ L, t.length = L := ⟨_, rfl⟩
  rw [hL] at HW HG1 hl HROW ⊢
  have HLd := Lib.hid hl
  have hLb : L ≤ 11 := by omega
  obtain ⟨x1, x2, x3, x4⟩ := HG1.out
  clear hW hr hs hL hrow hl ho HG1
  go_enter Tryz.func83, Tryz.ntmps83
  go_wp2
  rw [HW.out]
  go_wp2
  clear x1 x2 x3 x4
  go_loopw [3, 4, 5, 9] (fun _ _ _ q wr => ∃ k : Nat, k ≤ L ∧ q = .int .i64 k ∧ Pl.srch (Pl.fau0 (Pl.pc t)) (d + 1 - k) k = o ∧ Below W.heap.size W wr) (fun _ _ _ q _ => L - (intOf q).toNat)
  case atStart => exact ⟨0, Nat.zero_le _, rfl, HO.out, Below.refl _ _⟩
  case round =>
    clear HO
    obtain ⟨k, hk, rfl, hso, hbel⟩ := hrel
    have HBE := Lib.hid hbel
    have hLd := HLd.out
    by_cases hlt : k < L
    · obtain ⟨Ak, ck, h1, h2, h3⟩ := HROW.out k hlt
      have h1 := ((below_step HB.out HBE.out).cell (p := ⟨b, off + k, none⟩) hbb).trans h1
      have hrl := HS.out.row k (by omega)
      obtain ⟨b', off', rfl, hb', hc'⟩ := h3.at 0 (by rw [hrl]; omega)
      have hc' := ((below_step HB.out HBE.out).cell (p := ⟨b', off' + 0, none⟩) hb').trans hc'
      rw [Nat.add_zero] at hc'
      have hgo := fun h => Pl.fau0_go (F := Pl.pc t) (d := d) (k := k) (by omega) hso h
      have hno := fun h => Pl.fau0_no (F := Pl.pc t) (d := d) (k := k) (by omega) hso h
      rw [show Ser.co (Pl.rw' t k) 0 = Pl.pc t k 0 from rfl] at hc'
      obtain ⟨X, hX⟩ : ∃ X, Pl.pc t k 0 = X := ⟨_, rfl⟩
      rw [hX] at hc' hgo hno
      obtain ⟨N, hN⟩ : ∃ N, (Pl.rw' t k).length = N := ⟨_, rfl⟩
      rw [hN] at h1 h2 hrl
      have j0 : (0 : Int) ≤ (k : Int) := by omega
      have j1 : (k : Int) < (L : Int) := by omega
      have j2 : (0 : Int) < (N : Int) := by omega
      have j3 : (0 : Nat) < N := by omega
      clear hbel hso hX hN hrl h2 h3 hb' hLd
      by_cases hk1 : k = 1
      · have e1 : ((k : Int) == 1) = true := by simp [hk1]
        rw [show Pl.want k = 1 by rw [hk1]; rfl] at hgo hno
        clear hk1
        by_cases hx1 : X = 1
        · have HNX := Lib.hid (hgo hx1)
          clear hgo hno
          subst hx1
          go_wp2
          go_roundw
          case rel => exact ⟨k + 1, by omega, by go_num, HNX.out, HBE.out⟩
          case measure => simp only [intOf]; omega
        · have HNX := Lib.hid (hno hx1)
          obtain ⟨n3, n4⟩ : (X == 1) = false ∧ (X != 1) = true := ⟨by simpa using hx1, by simpa using hx1⟩
          clear hgo hno
          go_wp2
          go_ret
          exact ⟨_, rfl, by rw [HNX.out]; exact ⟨_, _, rfl, (OwnI.lit2 wr 0 (k : Int)).more (below_step HB.out HBE.out).size⟩, below_step HB.out (below_alloc _ HBE.out)⟩
      · have hk9 : ¬ (k : Int) = 1 := by omega
        obtain ⟨e1, e2⟩ : ((k : Int) == 1) = false ∧ ((k : Int) != 1) = true := ⟨by simpa using hk9, by simpa using hk9⟩
        rw [show Pl.want k = 0 by unfold Pl.want; rw [if_neg hk1]] at hgo hno
        by_cases hx1 : X = 0
        · have HNX := Lib.hid (hgo hx1)
          clear hgo hno
          subst hx1
          go_wp2
          go_roundw
          case rel => exact ⟨k + 1, by omega, by go_num, HNX.out, HBE.out⟩
          case measure => simp only [intOf]; omega
        · have HNX := Lib.hid (hno hx1)
          obtain ⟨n3, n4⟩ : (X == 0) = false ∧ (X != 0) = true := ⟨by simpa using hx1, by simpa using hx1⟩
          clear hgo hno
          go_wp2
          go_ret
          exact ⟨_, rfl, by rw [HNX.out]; exact ⟨_, _, rfl, (OwnI.lit2 wr 0 (k : Int)).more (below_step HB.out HBE.out).size⟩, below_step HB.out (below_alloc _ HBE.out)⟩
    · obtain rfl : k = L := by omega
      rw [hLd, Nat.sub_self] at hso
      have HNO := Lib.hid (show o = none from hso.symm)
      clear hbel hso hLd
      go_wp2
      go_ret
      exact ⟨_, rfl, by rw [HNO.out]; exact rfl, below_step HB.out HBE.out⟩
end Go.Proofs.YtfhdgcndiljjcaaGreatDoor

/- Contracts of comparing: two lists of integers, two grids. -/
namespace Go.Proofs.YtfhdgcndiljjcaaGreatDoor
open Go.RowKit Go.WideShapes Go.ChangeShapes Go.ChangeAt

theorem list_ne {l l' : List Int} (j : Nat) (h : ¬ Ser.co l j = Ser.co l' j) : decide (l = l') = false := decide_eq_false (fun e => h (by rw [e]))
theorem list_same {l l' : List Int} (hl : l.length = l'.length) (h : ∀ j, j < l.length → Ser.co l j = Ser.co l' j) : decide (l = l') = true :=
  decide_eq_true (Ser.list_ext hl (fun i hi => h i hi))
theorem rows_same {m : Int} {d : Nat} {t u : List (List Int)} (hs : Pl.Ok m d t) (hs' : Pl.Ok m d u) (h : ∀ k, k ≤ d → Pl.rw' t k = Pl.rw' u k) : decide (t = u) = true := by
  refine decide_eq_true (List.ext_getElem (by rw [hs.len, hs'.len]) (fun i h1 h2 => ?_))
  have := h i (by have := hs.len; omega)
  unfold Pl.rw' at this
  rw [List.getElem?_eq_getElem h1, List.getElem?_eq_getElem h2] at this
  exact this
theorem rows_ne {t u : List (List Int)} (k : Nat) (h : ¬ Pl.rw' t k = Pl.rw' u k) : decide (t = u) = false := decide_eq_false (fun e => h (by rw [e]))
theorem GBox.num' {W : World} {g : Nat} {m : Int} {d b off c L : Nat} {t : List (List Int)} (hb : GBox W g m d (some ⟨b, off, none⟩) L c) (hL : t.length = L) (hs : Pl.Ok m d t) (hr : RP W (some ⟨b, off, none⟩) t) (i j : Nat) (hij : i + j ≤ d) :
    ∃ b' off' c' N, N = d - i + 1 ∧ W.cell? ⟨g, 2, none⟩ = some (.slice (some ⟨b, off, none⟩) L c) ∧ W.cell? ⟨b, off + i, none⟩ = some (.slice (some ⟨b', off', none⟩) N c') ∧ W.cell? ⟨b', off' + j, none⟩ = some (.int .i64 (Pl.pc t i j)) := by
  subst hL
  obtain ⟨_, _, x2, _⟩ := hb
  obtain ⟨b0, off0, b', off', c', e, -, k1, -, k2⟩ := hr.num i j (by rw [hs.len]; omega) (by rw [hs.row i (by omega)]; omega)
  injection e with e
  injection e with e1 e2
  subst e1 e2
  exact ⟨b', off', c', _, hs.row i (by omega), x2, k1, k2⟩
end Go.Proofs.YtfhdgcndiljjcaaGreatDoor

/- Appending a row that the call has made to a slice of slices of its own. -/
namespace Go.Proofs.YtfhdgcndiljjcaaGreatDoor
open Go.RowKit Go.WideShapes Go.ChangeShapes Go.ChangeAt

theorem made_from {b n c g : Nat} (h : (Value.slice (some ⟨b, 0, none⟩) n c).ownBlock = some g) : b ≤ g := by
  have : g = b := by simpa [Value.ownBlock] using h.symm
  omega
/-- what an append of one row leaves -/
theorem OwnR.pushed {w w' : World} {lo hi : Nat} {v v' u : Value} {rows : List (List Int)} {r : List Int} {vs : List Value} {o : Obj}
    (h1 : w.ownsRow lo 32 1 v rows.length vs)
    (h3 : ∀ (i : Nat) (r : List Int), rows[i]? = some r → ∃ u : Value, vs[i]? = some u ∧ OwnI w lo u r ∧ ∀ g, u.ownBlock = some g → g < hi)
    (h4 : ∀ (i j : Nat) (u u' : Value), i < j → vs[i]? = some u → vs[j]? = some u' → u.ownBlock = none ∨ u.ownBlock ≠ u'.ownBlock)
    (hhi : hi ≤ w.heap.size) (hu : OwnI w lo u r) (hub : ∀ g, u.ownBlock = some g → hi ≤ g)
    (g1 : w'.ownsRow lo 32 1 v' (rows.length + 1) (vs ++ [u])) (g2 : (w.alloc o).grownBy w' v.ownBlock) : OwnR w' lo w'.heap.size v' (rows ++ [r]) := by
  have hsz : w.heap.size + 1 ≤ w'.heap.size := by have := g2.size; simpa using this
  have hvsl : vs.length = rows.length := by have := h1.1; omega
  refine ⟨vs ++ [u], by rw [List.length_append]; exact g1, fun g hg => (World.ownsRow.lt g1 g hg).2, ?_, ?_⟩
  · intro i r' hr
    by_cases hi' : i < rows.length
    · rw [List.getElem?_append_left hi'] at hr
      obtain ⟨u', a1, a2, a3⟩ := h3 i r' hr
      have hk := a2.alloc o
      exact ⟨u', by rw [List.getElem?_append_left (by omega)]; exact a1, hk.other g2 (ne_types (h1.alloc o) hk), fun g hg => by have := a3 g hg; omega⟩
    · rw [List.getElem?_append_right (by omega)] at hr
      have hi2 : i = rows.length := by
        rcases Nat.eq_or_lt_of_le (Nat.le_of_not_lt hi') with e | e
        · exact e.symm
        · rw [show i - rows.length = (i - rows.length - 1) + 1 by omega] at hr; simp at hr
      subst hi2
      rw [Nat.sub_self] at hr
      simp at hr
      subst hr
      have hk := hu.alloc o
      exact ⟨u, by rw [← hvsl, List.getElem?_append_right (Nat.le_refl _), Nat.sub_self]; rfl, hk.other g2 (ne_types (h1.alloc o) hk), fun g hg => by have := (hu.lt g hg).2; omega⟩
  · intro i j x y hij hx hy
    by_cases hj : j < vs.length
    · rw [List.getElem?_append_left hj] at hy
      rw [List.getElem?_append_left (by omega)] at hx
      exact h4 i j x y hij hx hy
    · have hju : j = vs.length := by
        rw [List.getElem?_append_right (by omega)] at hy
        rcases Nat.eq_or_lt_of_le (Nat.le_of_not_lt hj) with e | e
        · exact e.symm
        · rw [show j - vs.length = (j - vs.length - 1) + 1 by omega] at hy; simp at hy
      subst hju
      rw [List.getElem?_append_right (Nat.le_refl _), Nat.sub_self] at hy
      simp at hy
      subst hy
      rw [List.getElem?_append_left hij] at hx
      obtain ⟨r', hr'⟩ : ∃ r', rows[i]? = some r' := ⟨_, List.getElem?_eq_getElem (by omega)⟩
      obtain ⟨u2, a1, _, a3⟩ := h3 i r' hr'
      rw [hx] at a1
      injection a1 with a1
      subst a1
      rcases hc : x.ownBlock with _ | g
      · exact .inl rfl
      · refine .inr fun e => ?_
        have p1 := a3 g hc
        have p2 := hub g e.symm
        omega

theorem wp_pushU {ops : Array Oper} {rest : List Oper} {o : Oper} {a : Act} {Q : Exit → Act → World → Prop} {w : World} (s x : Operand) (t : TypeId)
    (hgd : o.guard = none) (ho : o.op = .call { callee := .builtin .append, args := #[s, x], argTypes := #[t, t] })
    (ht : Tryz.prog.underlying t = some (.slice 32)) (lo hi : Nat) (v : Value) (rows : List (List Int)) (hs : a.eval s = v) (hown : OwnR w lo hi v rows) (hhi : hi ≤ w.heap.size)
    (u : Value) (r : List Int) (hu : OwnI w lo u r) (hub : ∀ g, u.ownBlock = some g → hi ≤ g) (G : Nat) (hG : w.heap.size = G) (hx : a.eval x = .slice (some ⟨G, 0, none⟩) 1 1) (hlen : rows.length ≤ 1000000000000) (hlo : lo ≤ w.heap.size)
    (h : ∀ v' w', OwnR w' lo w'.heap.size v' (rows ++ [r]) → Below lo w w' → wpList Tryz.prog ops Q rest (a.put o.dst v') w') :
    wpList Tryz.prog ops Q (o :: rest) a (w.alloc (.cells #[u] 32)) := by
  subst hG
  obtain ⟨i0, hi0, hz0, hz1, hz2⟩ := info_parts infoRow
  obtain ⟨vs, h1, h2, h3, h4⟩ := hown
  obtain ⟨Au, cu, hue, -⟩ := hu.form
  refine wpList_append_own _ hgd s x t ho lo 32 i0 (.slice none 0 0) 1 24 ht hi0 hz0 hz1 hz2 rfl (by decide) v rows.length vs hs (h1.alloc _)
    ⟨w.heap.size, 0, none⟩ 1 1 [u] hx rfl ?_ ?_ ?_ ?_ ?_ ?_
  · intro j u' hj
    match j, hj with
    | 0, hj => simp at hj; subst hj; simp [Addr.add]
  · intro u' hu'; simp at hu'; subst hu'; rw [hue]; rfl
  · unfold maxLen; omega
  · omega
  · simp; omega
  · intro v' w' g1 g2 _
    exact h v' w' (OwnR.pushed h1 h3 h4 hhi hu hub g1 g2) (((Below.refl lo w).alloc hlo _).grown g2 (by simp; omega) (fun k hk => (World.ownsRow.lt h1 k hk).1))

/-- the same at a step of a region that draws its order: the row's header lies in block g -/
theorem step_pushU {ops : Array Oper} {o : Oper} {a : Act} {K : Act → World → Prop} {Q : Exit → Act → World → Prop} {E : Prop} {w : World} (s x : Operand) (t : TypeId)
    (hgd : o.guard = none) (ho : o.op = .call { callee := .builtin .append, args := #[s, x], argTypes := #[t, t] })
    (ht : Tryz.prog.underlying t = some (.slice 32)) (lo hi : Nat) (v : Value) (rows : List (List Int)) (hs : a.eval s = v) (hown : OwnR w lo hi v rows) (hhi : hi ≤ w.heap.size)
    (u : Value) (r : List Int) (hu : OwnI w lo u r) (hub : ∀ g, u.ownBlock = some g → hi ≤ g) (g : Nat) (hx : a.eval x = .slice (some ⟨g, 0, none⟩) 1 1) (hy : w.cell? ⟨g, 0, none⟩ = some u) (hlen : rows.length ≤ 1000000000000) (hlo : lo ≤ w.heap.size)
    (h : ∀ v' w', OwnR w' lo w'.heap.size v' (rows ++ [r]) → Below lo w w' → K (a.put o.dst v') w') :
    if Region.wanted o (yielded ops a.tmps) = true then Oper.wp Tryz.prog o a w K Q else E := by
  have hw : Region.wanted o (yielded ops a.tmps) = true := by simp [Region.wanted, hgd]
  rw [if_pos hw]
  obtain ⟨i0, hi0, hz0, hz1, hz2⟩ := info_parts infoRow
  obtain ⟨vs, h1, h2, h3, h4⟩ := hown
  obtain ⟨Au, cu, hue, -⟩ := hu.form
  refine wp_append_own _ s x t ho lo 32 i0 (.slice none 0 0) 1 24 ht hi0 hz0 hz1 hz2 rfl (by decide) v rows.length vs hs h1
    ⟨g, 0, none⟩ 1 1 [u] hx rfl ?_ ?_ ?_ ?_ hlo ?_
  · intro j u' hj
    match j, hj with
    | 0, hj => simp at hj; subst hj; simp [Addr.add]; exact hy
  · intro u' hu'; simp at hu'; subst hu'; rw [hue]; rfl
  · unfold maxLen; omega
  · omega
  · intro v' w' g1 g2 _
    refine h v' w' ?_ ((Below.refl lo w).grown g2 hlo (fun k hk => (World.ownsRow.lt h1 k hk).1))
    have hsz := g2.size
    have hvsl : vs.length = rows.length := by have := h1.1; omega
    refine ⟨vs ++ [u], by rw [List.length_append]; exact g1, fun g hg => (World.ownsRow.lt g1 g hg).2, ?_, ?_⟩
    · intro i r' hr
      by_cases hi' : i < rows.length
      · rw [List.getElem?_append_left hi'] at hr
        obtain ⟨u', a1, a2, a3⟩ := h3 i r' hr
        exact ⟨u', by rw [List.getElem?_append_left (by omega)]; exact a1, a2.other g2 (ne_types h1 a2), fun g hg => by have := a3 g hg; omega⟩
      · rw [List.getElem?_append_right (by omega)] at hr
        have hi2 : i = rows.length := by
          rcases Nat.eq_or_lt_of_le (Nat.le_of_not_lt hi') with e | e
          · exact e.symm
          · rw [show i - rows.length = (i - rows.length - 1) + 1 by omega] at hr; simp at hr
        subst hi2
        rw [Nat.sub_self] at hr
        simp at hr
        subst hr
        exact ⟨u, by rw [← hvsl, List.getElem?_append_right (Nat.le_refl _), Nat.sub_self]; rfl, hu.other g2 (ne_types h1 hu), fun g hg => by have := (hu.lt g hg).2; omega⟩
    · intro i j x y hij hx hy
      by_cases hj : j < vs.length
      · rw [List.getElem?_append_left hj] at hy
        rw [List.getElem?_append_left (by omega)] at hx
        exact h4 i j x y hij hx hy
      · have hju : j = vs.length := by
          rw [List.getElem?_append_right (by omega)] at hy
          rcases Nat.eq_or_lt_of_le (Nat.le_of_not_lt hj) with e | e
          · exact e.symm
          · rw [show j - vs.length = (j - vs.length - 1) + 1 by omega] at hy; simp at hy
        subst hju
        rw [List.getElem?_append_right (Nat.le_refl _), Nat.sub_self] at hy
        simp at hy
        subst hy
        rw [List.getElem?_append_left hij] at hx
        obtain ⟨r', hr'⟩ : ∃ r', rows[i]? = some r' := ⟨_, List.getElem?_eq_getElem (by omega)⟩
        obtain ⟨u2, a1, _, a3⟩ := h3 i r' hr'
        rw [hx] at a1
        injection a1 with a1
        subst a1
        rcases hc : x.ownBlock with _ | g
        · exact .inl rfl
        · refine .inr fun e => ?_
          have p1 := a3 g hc
          have p2 := hub g e.symm
          omega
end Go.Proofs.YtfhdgcndiljjcaaGreatDoor

/- Lists of tables of a call's own: slices of slices of slices, and slices of grids; appending to them and reading them. -/
namespace Go.Proofs.YtfhdgcndiljjcaaGreatDoor
open Go.RowKit Go.WideShapes Go.ChangeShapes Go.ChangeAt

theorem flat_len (pre : List Value) : ∀ us : List Value, (us.flatMap fun u => pre ++ [u]).length = us.length * (pre.length + 1) := by
  intro us
  induction us with
  | nil => simp
  | cons x xs ih => rw [List.flatMap_cons, List.length_append, ih, List.length_cons, Nat.succ_mul]; simp; omega
theorem flat_get (pre : List Value) : ∀ (us : List Value) (i j : Nat) (u : Value), us[i]? = some u → j ≤ pre.length → (us.flatMap fun u => pre ++ [u])[i * (pre.length + 1) + j]? = (pre ++ [u])[j]? := by
  intro us
  induction us with
  | nil => intro i j u h; simp at h
  | cons x xs ih =>
    intro i j u h hj
    rw [List.flatMap_cons]
    rcases i with _ | i
    · simp at h
      subst h
      rw [Nat.zero_mul, Nat.zero_add, List.getElem?_append_left (by simp; omega)]
    · have h' : xs[i]? = some u := by simpa using h
      rw [Nat.succ_mul, List.getElem?_append_right (by simp; omega)]
      have e : i * (pre.length + 1) + (pre.length + 1) + j - (pre ++ [x]).length = i * (pre.length + 1) + j := by simp; omega
      rw [e]
      exact ih i j u h' hj
/-- v is a slice of the call's own, from block lo on, of elements of type e: the cells pre, then a table of the call's own -/
def OwnT (pre : List Value) (e : TypeId) (w : World) (lo : Nat) (v : Value) (ts : List (List (List Int))) : Prop :=
  ∃ us : List Value, us.length = ts.length ∧ w.ownsRow lo e (pre.length + 1) v ts.length (us.flatMap fun u => pre ++ [u]) ∧
    ∀ (i : Nat) (t : List (List Int)), ts[i]? = some t → ∃ u : Value, us[i]? = some u ∧ ∃ hi, hi ≤ w.heap.size ∧ OwnR w lo hi u t
theorem OwnT.keep {pre : List Value} {e : TypeId} {w w' : World} {lo : Nat} {v : Value} {ts : List (List (List Int))} (h : OwnT pre e w lo v ts) (hb : Below w.heap.size w w') : OwnT pre e w' lo v ts := by
  obtain ⟨us, h0, h1, h2⟩ := h
  refine ⟨us, h0, ⟨h1.1, ?_⟩, fun i t ht => ?_⟩
  · rcases h1.2 with hn | ⟨g, cap, cur, rfl, hg, hh, rest⟩
    · exact .inl hn
    · exact .inr ⟨g, cap, cur, rfl, hg, (hb.block g (Array.getElem?_eq_some_iff.1 hh).1).trans hh, rest⟩
  · obtain ⟨u, a1, hi, a2, a3⟩ := h2 i t ht
    exact ⟨u, a1, hi, Nat.le_trans a2 hb.size, a3.keep (hb.mono a2)⟩
theorem OwnT.at {pre : List Value} {e : TypeId} {w : World} {lo : Nat} {v : Value} {ts : List (List (List Int))} (h : OwnT pre e w lo v ts) (i : Nat) (hi : i < ts.length) :
    ∃ g c A' c', v = .slice (some ⟨g, 0, none⟩) ts.length c ∧ g < w.heap.size ∧ lo ≤ g ∧ w.cell? ⟨g, i * (pre.length + 1) + pre.length, none⟩ = some (.slice A' (ts[i]?.getD []).length c') ∧ RP w A' (ts[i]?.getD []) ∧
      ∀ (j : Nat) (x : Value), pre[j]? = some x → w.cell? ⟨g, i * (pre.length + 1) + j, none⟩ = some x := by
  obtain ⟨us, h0, h1, h2⟩ := h
  have ht : ts[i]? = some (ts[i]?.getD []) := by rw [List.getElem?_eq_getElem hi]; rfl
  obtain ⟨u, a1, hi', a2, a3⟩ := h2 i _ ht
  obtain ⟨A', c', rfl, hr⟩ := a3.len
  rcases h1.2 with ⟨rfl, hz⟩ | ⟨g, cap, cur, rfl, hg, hh, rest⟩
  · omega
  · refine ⟨g, cap, A', c', rfl, (Array.getElem?_eq_some_iff.1 hh).1, hg, ?_, hr, fun j x hj => ?_⟩
    · have hc := World.ownsRow.cells h1 (g := g) rfl (i * (pre.length + 1) + pre.length) (.slice A' (ts[i]?.getD []).length c') (by rw [flat_get pre us i pre.length _ a1 (Nat.le_refl _)]; simp)
      rwa [add_plain, Nat.zero_add] at hc
    · have hjl : j < pre.length := (List.getElem?_eq_some_iff.1 hj).1
      have hc := World.ownsRow.cells h1 (g := g) rfl (i * (pre.length + 1) + j) x (by rw [flat_get pre us i j _ a1 (by omega), List.getElem?_append_left hjl]; exact hj)
      rwa [add_plain, Nat.zero_add] at hc
theorem OwnT.form {pre : List Value} {e : TypeId} {w : World} {lo : Nat} {v : Value} {ts : List (List (List Int))} (h : OwnT pre e w lo v ts) : ∃ A c, v = .slice A ts.length c := by
  obtain ⟨us, h0, h1, h2⟩ := h
  rcases h1.2 with ⟨rfl, hz⟩ | ⟨g, cap, cur, rfl, hg, hh, rest⟩
  · exact ⟨none, 0, by rw [hz]⟩
  · exact ⟨_, _, rfl⟩
/-- rows lie in other blocks than slices of other types -/
theorem neT {w : World} {e : TypeId} {size lo lo' n : Nat} {v u : Value} {vs : List Value} {l : List Int} (he : e ≠ 2) (hv : w.ownsRow lo e size v n vs) (hu : OwnI w lo' u l) : u.ownBlock = none ∨ u.ownBlock ≠ v.ownBlock := by
  unfold OwnI at hu
  rcases hu.2 with ⟨rfl, _⟩ | ⟨g, cap, cur, rfl, _, hg, _⟩
  · exact .inl rfl
  · rcases hv.2 with ⟨rfl, _⟩ | ⟨g', cap', cur', rfl, _, hg', _⟩
    · exact .inr (by simp [Value.ownBlock])
    · refine .inr fun e0 => ?_
      obtain rfl : g = g' := by simpa [Value.ownBlock] using e0
      rw [hg] at hg'
      injection hg' with e1
      injection e1 with _ e2
      exact he e2.symm
theorem OwnR.otherT {w w' : World} {e : TypeId} {size lo0 n lo hi : Nat} {v u : Value} {vs : List Value} {t : List (List Int)} (he : e ≠ 2) (he2 : e ≠ 32) (hv : w.ownsRow lo0 e size v n vs) (hu : OwnR w lo hi u t) (hg : w.grownBy w' v.ownBlock) : OwnR w' lo hi u t := by
  obtain ⟨us, h1, h2, h3, h4⟩ := hu
  refine ⟨us, ⟨h1.1, ?_⟩, h2, fun i r hr => ?_, h4⟩
  · rcases h1.2 with hn | ⟨g, cap, cur, rfl, hgg, hh, rest⟩
    · exact .inl hn
    · refine .inr ⟨g, cap, cur, rfl, hgg, (hg.block g (Array.getElem?_eq_some_iff.1 hh).1 ?_).trans hh, rest⟩
      rcases hv.2 with ⟨rfl, _⟩ | ⟨g', cap', cur', rfl, _, hg', _⟩
      · simp [Value.ownBlock]
      · intro e0
        obtain rfl : g = g' := by simpa [Value.ownBlock] using e0
        rw [hh] at hg'
        injection hg' with e1
        injection e1 with _ e2
        exact he2 e2.symm
  · obtain ⟨x, a, b, c⟩ := h3 i r hr
    exact ⟨x, a, b.other hg (neT he hv b), c⟩
/-- an append leaves a longer list -/
theorem OwnT.pushed {pre : List Value} {e : TypeId} {w w' : World} {lo hi : Nat} {v v' u : Value} {ts : List (List (List Int))} {t : List (List Int)} {us : List Value} (he : e ≠ 2) (he2 : e ≠ 32)
    (h0 : us.length = ts.length) (h1 : w.ownsRow lo e (pre.length + 1) v ts.length (us.flatMap fun u => pre ++ [u]))
    (h2 : ∀ (i : Nat) (t : List (List Int)), ts[i]? = some t → ∃ u : Value, us[i]? = some u ∧ ∃ hi, hi ≤ w.heap.size ∧ OwnR w lo hi u t)
    (hu : OwnR w lo hi u t) (hhi : hi ≤ w.heap.size)
    (g1 : w'.ownsRow lo e (pre.length + 1) v' (ts.length + 1) ((us.flatMap fun u => pre ++ [u]) ++ (pre ++ [u]))) (g2 : w.grownBy w' v.ownBlock) : OwnT pre e w' lo v' (ts ++ [t]) := by
  refine ⟨us ++ [u], by simp [h0], ?_, fun i t' ht => ?_⟩
  · rw [List.flatMap_append, List.length_append]
    simpa using g1
  · by_cases hi' : i < ts.length
    · rw [List.getElem?_append_left hi'] at ht
      obtain ⟨u', a1, hi2, a2, a3⟩ := h2 i t' ht
      exact ⟨u', by rw [List.getElem?_append_left (by omega)]; exact a1, hi2, Nat.le_trans a2 g2.size, a3.otherT he he2 h1 g2⟩
    · rw [List.getElem?_append_right (by omega)] at ht
      have hi3 : i = ts.length := by
        rcases Nat.eq_or_lt_of_le (Nat.le_of_not_lt hi') with e0 | e0
        · exact e0.symm
        · rw [show i - ts.length = (i - ts.length - 1) + 1 by omega] at ht; simp at ht
      subst hi3
      rw [Nat.sub_self] at ht
      simp at ht
      subst ht
      exact ⟨u, by rw [← h0, List.getElem?_append_right (Nat.le_refl _), Nat.sub_self]; rfl, hi, Nat.le_trans hhi g2.size, hu.otherT he he2 h1 g2⟩
/-- appending a table's element at a step of a region that draws its order: its cells lie in block g -/
theorem step_pushT {pre : List Value} {e : TypeId} {ops : Array Oper} {o : Oper} {a : Act} {K : Act → World → Prop} {Q : Exit → Act → World → Prop} {E : Prop} {w : World} (s x : Operand) (t : TypeId)
    (hgd : o.guard = none) (ho : o.op = .call { callee := .builtin .append, args := #[s, x], argTypes := #[t, t] })
    (ht : Tryz.prog.underlying t = some (.slice e)) (he : e ≠ 2) (he2 : e ≠ 32) (z : Value) (bytes : Nat)
    (hinfo : (Tryz.prog.info? e).map (fun i => (i.zero, i.size, i.bytes)) = some (some z, pre.length + 1, bytes)) (hzc : z.cells.size = pre.length + 1) (hby : bytes ≤ 100) (hone : ∀ y, y ∈ pre → y.oneCell' = true)
    (lo hi : Nat) (v : Value) (ts : List (List (List Int))) (hs : a.eval s = v) (hown : OwnT pre e w lo v ts)
    (u : Value) (r : List (List Int)) (hu : OwnR w lo hi u r) (hhi : hi ≤ w.heap.size) (g : Nat) (hx : a.eval x = .slice (some ⟨g, 0, none⟩) 1 1) (hy : ∀ j y, (pre ++ [u])[j]? = some y → w.cell? ⟨g, j, none⟩ = some y) (hlen : ts.length ≤ 1000000) (hlo : lo ≤ w.heap.size)
    (h : ∀ v' w', OwnT pre e w' lo v' (ts ++ [r]) → Below lo w w' → K (a.put o.dst v') w') :
    if Region.wanted o (yielded ops a.tmps) = true then Oper.wp Tryz.prog o a w K Q else E := by
  have hw : Region.wanted o (yielded ops a.tmps) = true := by simp [Region.wanted, hgd]
  rw [if_pos hw]
  obtain ⟨i0, hi0, hz0, hz1, hz2⟩ := info_parts hinfo
  obtain ⟨us, h0, h1, h2⟩ := hown
  obtain ⟨Au, cu, hue, -⟩ := hu.len
  refine wp_append_own _ s x t ho lo e i0 z (pre.length + 1) bytes ht hi0 hz0 hz1 hz2 hzc (by omega) v ts.length (us.flatMap fun u => pre ++ [u]) hs h1
    ⟨g, 0, none⟩ 1 1 (pre ++ [u]) hx (by simp) ?_ ?_ ?_ ?_ hlo ?_
  · intro j y hj
    rw [add_plain, Nat.zero_add]
    exact hy j y hj
  · intro y hy'
    rcases List.mem_append.1 hy' with hm | hm
    · exact hone y hm
    · simp at hm; subst hm; rw [hue]; rfl
  · unfold maxLen; omega
  · have : (ts.length + 1) * bytes ≤ 1000001 * 100 := Nat.mul_le_mul (by omega) hby
    omega
  · intro v' w' g1 g2 _
    exact h v' w' (OwnT.pushed he he2 h0 h1 h2 hu hhi g1 g2) ((Below.refl lo w).grown g2 hlo (fun k hk => (World.ownsRow.lt h1 k hk).1))
/-- a list of one table, whose cells have just been laid -/
theorem OwnT.one {w : World} (pre : List Value) (e : TypeId) {lo hi : Nat} {u : Value} {t : List (List Int)} (hlo : lo ≤ w.heap.size) (hu : OwnR w lo hi u t) (hhi : hi ≤ w.heap.size) :
    OwnT pre e (w.alloc (.cells (pre ++ [u]).toArray e)) lo (.slice (some ⟨w.heap.size, 0, none⟩) 1 1) [t] := by
  refine ⟨[u], rfl, ⟨by simp, .inr ⟨w.heap.size, 1, (pre ++ [u]).toArray, rfl, hlo, heap_alloc_new w _, Nat.le_refl _, by unfold maxLen; omega, by simp, by simp; exact List.take_of_length_le (by simp)⟩⟩, fun i t' ht => ?_⟩
  match i, ht with
  | 0, ht =>
    simp at ht
    subst ht
    exact ⟨u, rfl, hi, by simp; omega, hu.keep ((below_one w _).mono hhi)⟩
theorem OwnT.nil {w : World} (pre : List Value) (e : TypeId) (lo : Nat) : OwnT pre e w lo (.slice none 0 0) [] := ⟨[], rfl, World.ownsRow_nil _ _ _ _, fun i t ht => by simp at ht⟩
theorem OwnT.more {pre : List Value} {e : TypeId} {w : World} {lo lo' : Nat} {v : Value} {ts : List (List (List Int))} (h : OwnT pre e w lo v ts) (hl : lo' ≤ lo) : OwnT pre e w lo' v ts := by
  obtain ⟨us, h0, h1, h2⟩ := h
  refine ⟨us, h0, ⟨h1.1, ?_⟩, fun i t ht => ?_⟩
  · rcases h1.2 with hn | ⟨g, cap, cur, hv, hg, hh, rest⟩
    · exact .inl hn
    · exact .inr ⟨g, cap, cur, hv, Nat.le_trans hl hg, hh, rest⟩
  · obtain ⟨u, a1, hi, a2, a3⟩ := h2 i t ht
    exact ⟨u, a1, hi, a2, a3.low hl⟩
/-- the same in a walk -/
theorem wp_pushT {pre : List Value} {e : TypeId} {ops : Array Oper} {rest : List Oper} {o : Oper} {a : Act} {Q : Exit → Act → World → Prop} {w : World} (s x : Operand) (t : TypeId)
    (hgd : o.guard = none) (ho : o.op = .call { callee := .builtin .append, args := #[s, x], argTypes := #[t, t] })
    (ht : Tryz.prog.underlying t = some (.slice e)) (he : e ≠ 2) (he2 : e ≠ 32) (z : Value) (bytes : Nat)
    (hinfo : (Tryz.prog.info? e).map (fun i => (i.zero, i.size, i.bytes)) = some (some z, pre.length + 1, bytes)) (hzc : z.cells.size = pre.length + 1) (hby : bytes ≤ 100) (hone : ∀ y, y ∈ pre → y.oneCell' = true)
    (lo hi : Nat) (v : Value) (ts : List (List (List Int))) (hs : a.eval s = v) (hown : OwnT pre e w lo v ts)
    (u : Value) (r : List (List Int)) (hu : OwnR w lo hi u r) (hhi : hi ≤ w.heap.size) (g : Nat) (hx : a.eval x = .slice (some ⟨g, 0, none⟩) 1 1) (hy : ∀ j y, (pre ++ [u])[j]? = some y → w.cell? ⟨g, j, none⟩ = some y) (hlen : ts.length ≤ 1000000) (hlo : lo ≤ w.heap.size)
    (h : ∀ v' w', OwnT pre e w' lo v' (ts ++ [r]) → Below lo w w' → wpList Tryz.prog ops Q rest (a.put o.dst v') w') :
    wpList Tryz.prog ops Q (o :: rest) a w := by
  obtain ⟨i0, hi0, hz0, hz1, hz2⟩ := info_parts hinfo
  obtain ⟨us, h0, h1, h2⟩ := hown
  obtain ⟨Au, cu, hue, -⟩ := hu.len
  refine wpList_append_own _ hgd s x t ho lo e i0 z (pre.length + 1) bytes ht hi0 hz0 hz1 hz2 hzc (by omega) v ts.length (us.flatMap fun u => pre ++ [u]) hs h1
    ⟨g, 0, none⟩ 1 1 (pre ++ [u]) hx (by simp) ?_ ?_ ?_ ?_ hlo ?_
  · intro j y hj
    rw [add_plain, Nat.zero_add]
    exact hy j y hj
  · intro y hy'
    rcases List.mem_append.1 hy' with hm | hm
    · exact hone y hm
    · simp at hm; subst hm; rw [hue]; rfl
  · unfold maxLen; omega
  · have : (ts.length + 1) * bytes ≤ 1000001 * 100 := Nat.mul_le_mul (by omega) hby
    omega
  · intro v' w' g1 g2 _
    exact h v' w' (OwnT.pushed he he2 h0 h1 h2 hu hhi g1 g2) ((Below.refl lo w).grown g2 hlo (fun k hk => (World.ownsRow.lt h1 k hk).1))
/-- cells just laid -/
theorem laid (w : World) (vs : List Value) (T : TypeId) : ∀ j y, vs[j]? = some y → (w.alloc (.cells vs.toArray T)).cell? ⟨w.heap.size, j, none⟩ = some y := by
  intro j y hj
  rw [World.cell?_alloc_at _ _ _ _ rfl]
  simpa using hj
/-- an append to an own slice leaves the cells that the slice had as they were, wherever the new slice lies -/
theorem append_keeps {P : Program} {w w' : World} {base : Nat} {t ty e : TypeId} {i : TypeInfo} {z : Value} {size bytes : Nat} (ht : P.underlying t = some (.slice e)) (hi : P.info? e = some i) (hz : i.zero = some z)
    (hsize : i.size = size) (hby : i.bytes = bytes) {g n cap : Nat} {xs : List Value} (hown : w.ownsRow base e size (.slice (some ⟨g, 0, none⟩) n cap) n xs)
    {a : Addr} {c : Nat} {news : List Value} (hl : news.length = 1 * size) (hnews : ∀ j u, news[j]? = some u → w.cell? (a.add j) = some u) (h1 : ∀ u ∈ news, u.oneCell' = true)
    (h63 : n + 1 ≤ maxLen) (hbytes : (n + 1) * bytes ≤ 140737488355328) {v' : Value} (hr : (Builtin.append_ #[t, t] ty #[.slice (some ⟨g, 0, none⟩) n cap, .slice (some a) 1 c]).run P w = .ok v' w') :
    ∀ j, j < n * size → w'.cell? ⟨g, j, none⟩ = w.cell? ⟨g, j, none⟩ := by
  intro j hj
  subst hsize
  subst hby
  rcases hown.2 with ⟨e0, _⟩ | ⟨g', cap', cur, e0, -, hg, hnc, hcm, hcs, htake⟩
  · cases e0
  · injection e0 with e1 e2 e3
    injection e1 with e1
    injection e1 with e1
    subst e1 e3
    have hsmall : n + 1 ≤ 9223372036854775807 := by simp only [maxLen] at h63; omega
    by_cases hroom : n + 1 ≤ cap
    · have hfit : n * i.size + news.length ≤ cur.size := by rw [hl, hcs, ← Nat.add_mul]; exact Nat.mul_le_mul_right _ hroom
      have hr2 := run_append_room (P := P) w t ty e i ht hi g n cap cur hg a 1 c news hl hnews h1 hroom hfit
      rw [hr2] at hr
      injection hr with _ hw
      rw [← hw, cell_setRow_same w g j cur _ e _ hg]
      have hjc : j < cur.size := by omega
      simp only [World.cell?, hg, List.getElem?_toArray]
      rw [List.append_assoc, List.getElem?_append_left (by simp; omega), List.getElem?_take, if_pos hj]
      simp
    · have holds : ∀ j u, xs[j]? = some u → w.cell? ((⟨g, 0, none⟩ : Addr).add j) = some u := hown.cells (g := g) rfl
      have hr2 := run_append_grow (P := P) w t ty e i z ht hi hz ⟨g, 0, none⟩ n cap xs hown.1 holds a 1 c news hl hnews (by omega) (by omega) (growslice_fits (by omega) hbytes)
      rw [hr2] at hr
      injection hr with _ hw
      have hlt : g < w.heap.size := (Array.getElem?_eq_some_iff.1 hg).1
      rw [← hw]
      exact World.cell?_of_block (a := ⟨g, j, none⟩) (heap_alloc_old w.drew _ hlt)
/-- step_pushT, told also that the old elements lie where they lay -/
theorem step_pushK {pre : List Value} {e : TypeId} {ops : Array Oper} {o : Oper} {a : Act} {K : Act → World → Prop} {Q : Exit → Act → World → Prop} {E : Prop} {w : World} (s x : Operand) (t : TypeId)
    (hgd : o.guard = none) (ho : o.op = .call { callee := .builtin .append, args := #[s, x], argTypes := #[t, t] })
    (ht : Tryz.prog.underlying t = some (.slice e)) (he : e ≠ 2) (he2 : e ≠ 32) (z : Value) (bytes : Nat)
    (hinfo : (Tryz.prog.info? e).map (fun i => (i.zero, i.size, i.bytes)) = some (some z, pre.length + 1, bytes)) (hzc : z.cells.size = pre.length + 1) (hby : bytes ≤ 100) (hone : ∀ y, y ∈ pre → y.oneCell' = true)
    (lo hi : Nat) (G N C : Nat) (ts : List (List (List Int))) (hs : a.eval s = .slice (some ⟨G, 0, none⟩) N C) (hN : ts.length = N) (hown : OwnT pre e w lo (.slice (some ⟨G, 0, none⟩) N C) ts)
    (u : Value) (r : List (List Int)) (hu : OwnR w lo hi u r) (hhi : hi ≤ w.heap.size) (g : Nat) (hx : a.eval x = .slice (some ⟨g, 0, none⟩) 1 1) (hy : ∀ j y, (pre ++ [u])[j]? = some y → w.cell? ⟨g, j, none⟩ = some y) (hlen : ts.length ≤ 1000000) (hlo : lo ≤ w.heap.size)
    (h : ∀ v' w', OwnT pre e w' lo v' (ts ++ [r]) → Below lo w w' → (∀ j, j < N * (pre.length + 1) → w'.cell? ⟨G, j, none⟩ = w.cell? ⟨G, j, none⟩) → K (a.put o.dst v') w') :
    if Region.wanted o (yielded ops a.tmps) = true then Oper.wp Tryz.prog o a w K Q else E := by
  have hw : Region.wanted o (yielded ops a.tmps) = true := by simp [Region.wanted, hgd]
  rw [if_pos hw]
  subst hN
  obtain ⟨i0, hi0, hz0, hz1, hz2⟩ := info_parts hinfo
  obtain ⟨us, h0, h1, h2⟩ := hown
  obtain ⟨Au, cu, hue, -⟩ := hu.len
  have c1 : ∀ j y, (pre ++ [u])[j]? = some y → w.cell? ((⟨g, 0, none⟩ : Addr).add j) = some y := by
    intro j y hj
    rw [add_plain, Nat.zero_add]
    exact hy j y hj
  have c2 : ∀ y ∈ pre ++ [u], y.oneCell' = true := by
    intro y hy'
    rcases List.mem_append.1 hy' with hm | hm
    · exact hone y hm
    · simp at hm; subst hm; rw [hue]; rfl
  have c3 : (ts.length + 1) * bytes ≤ 140737488355328 := by
    have : (ts.length + 1) * bytes ≤ 1000001 * 100 := Nat.mul_le_mul (by omega) hby
    omega
  have c4 : ts.length + 1 ≤ maxLen := by unfold maxLen; omega
  obtain ⟨v', w', hr, g1, g2, -⟩ := run_append_own (P := Tryz.prog) w lo t o.type e i0 z (pre.length + 1) bytes ht hi0 hz0 hz1 hz2 hzc (by omega) (.slice (some ⟨G, 0, none⟩) ts.length C) ts.length (us.flatMap fun u => pre ++ [u]) h1 ⟨g, 0, none⟩ 1 1 (pre ++ [u]) (by simp) c1 c2 c4 c3 hlo
  have hk := append_keeps ht hi0 hz0 hz1 hz2 h1 (by simp) c1 c2 c4 c3 hr
  unfold Oper.wp execOp
  simp only [ho, resolve, invoke, builtin, Sem.run_bind, Sem.run_pure, Result.andThen_ok, List.map_toArray, List.map_cons, List.map_nil, hs, hx, hr]
  exact h v' w' (OwnT.pushed he he2 h0 h1 h2 hu hhi g1 g2) ((Below.refl lo w).grown g2 hlo (fun k hk => (World.ownsRow.lt h1 k hk).1)) hk
/-- another list of tables is left alone by an append -/
theorem OwnT.other {pre : List Value} {e : TypeId} {w w' : World} {lo lo0 size n : Nat} {v u : Value} {vs : List Value} {ts : List (List (List Int))} (he : e ≠ 2) (he2 : e ≠ 32) (hv : w.ownsRow lo0 e size v n vs) (hu : OwnT pre e w lo u ts) (hg : w.grownBy w' v.ownBlock) (hne : u.ownBlock = none ∨ u.ownBlock ≠ v.ownBlock) : OwnT pre e w' lo u ts := by
  obtain ⟨us, h0, h1, h2⟩ := hu
  refine ⟨us, h0, ⟨h1.1, ?_⟩, fun i t ht => ?_⟩
  · rcases h1.2 with hn | ⟨g, cap, cur, rfl, hgg, hh, rest⟩
    · exact .inl hn
    · refine .inr ⟨g, cap, cur, rfl, hgg, (hg.block g (Array.getElem?_eq_some_iff.1 hh).1 ?_).trans hh, rest⟩
      rcases hne with h | h
      · simp [Value.ownBlock] at h
      · exact h
  · obtain ⟨x, a1, hi, a2, a3⟩ := h2 i t ht
    exact ⟨x, a1, hi, Nat.le_trans a2 hg.size, a3.otherT he he2 hv hg⟩
theorem OwnT.lt {pre : List Value} {e : TypeId} {w : World} {lo : Nat} {v : Value} {ts : List (List (List Int))} (h : OwnT pre e w lo v ts) : ∀ g, v.ownBlock = some g → lo ≤ g ∧ g < w.heap.size := by
  obtain ⟨us, h0, h1, h2⟩ := h
  exact fun g hg => World.ownsRow.lt h1 g hg
/-- step_pushT, told also that other lists are left alone, and that the new slice lies in the old one's block or in a new one -/
theorem step_pushD {pre : List Value} {e : TypeId} {ops : Array Oper} {o : Oper} {a : Act} {K : Act → World → Prop} {Q : Exit → Act → World → Prop} {E : Prop} {w : World} (s x : Operand) (t : TypeId)
    (hgd : o.guard = none) (ho : o.op = .call { callee := .builtin .append, args := #[s, x], argTypes := #[t, t] })
    (ht : Tryz.prog.underlying t = some (.slice e)) (he : e ≠ 2) (he2 : e ≠ 32) (z : Value) (bytes : Nat)
    (hinfo : (Tryz.prog.info? e).map (fun i => (i.zero, i.size, i.bytes)) = some (some z, pre.length + 1, bytes)) (hzc : z.cells.size = pre.length + 1) (hby : bytes ≤ 100) (hone : ∀ y, y ∈ pre → y.oneCell' = true)
    (lo hi : Nat) (v : Value) (ts : List (List (List Int))) (hs : a.eval s = v) (hown : OwnT pre e w lo v ts)
    (u : Value) (r : List (List Int)) (hu : OwnR w lo hi u r) (hhi : hi ≤ w.heap.size) (g : Nat) (hx : a.eval x = .slice (some ⟨g, 0, none⟩) 1 1) (hy : ∀ j y, (pre ++ [u])[j]? = some y → w.cell? ⟨g, j, none⟩ = some y) (hlen : ts.length ≤ 1000000) (hlo : lo ≤ w.heap.size)
    (h : ∀ v' w', OwnT pre e w' lo v' (ts ++ [r]) → Below lo w w' → (∀ u' ts', OwnT pre e w lo u' ts' → (u'.ownBlock = none ∨ u'.ownBlock ≠ v.ownBlock) → OwnT pre e w' lo u' ts' ∧ (u'.ownBlock = none ∨ u'.ownBlock ≠ v'.ownBlock)) → K (a.put o.dst v') w') :
    if Region.wanted o (yielded ops a.tmps) = true then Oper.wp Tryz.prog o a w K Q else E := by
  have hw : Region.wanted o (yielded ops a.tmps) = true := by simp [Region.wanted, hgd]
  rw [if_pos hw]
  obtain ⟨i0, hi0, hz0, hz1, hz2⟩ := info_parts hinfo
  obtain ⟨us, h0, h1, h2⟩ := hown
  obtain ⟨Au, cu, hue, -⟩ := hu.len
  have c1 : ∀ j y, (pre ++ [u])[j]? = some y → w.cell? ((⟨g, 0, none⟩ : Addr).add j) = some y := by
    intro j y hj
    rw [add_plain, Nat.zero_add]
    exact hy j y hj
  have c2 : ∀ y ∈ pre ++ [u], y.oneCell' = true := by
    intro y hy'
    rcases List.mem_append.1 hy' with hm | hm
    · exact hone y hm
    · simp at hm; subst hm; rw [hue]; rfl
  have c3 : (ts.length + 1) * bytes ≤ 140737488355328 := by
    have : (ts.length + 1) * bytes ≤ 1000001 * 100 := Nat.mul_le_mul (by omega) hby
    omega
  have c4 : ts.length + 1 ≤ maxLen := by unfold maxLen; omega
  obtain ⟨v', w', hr, g1, g2, -, g3⟩ := run_append_own_at (P := Tryz.prog) w lo t o.type e i0 z (pre.length + 1) bytes ht hi0 hz0 hz1 hz2 hzc (by omega) v ts.length (us.flatMap fun u => pre ++ [u]) h1 ⟨g, 0, none⟩ 1 1 (pre ++ [u]) (by simp) c1 c2 c4 c3 hlo
  unfold Oper.wp execOp
  simp only [ho, resolve, invoke, builtin, Sem.run_bind, Sem.run_pure, Result.andThen_ok, List.map_toArray, List.map_cons, List.map_nil, hs, hx, hr]
  refine h v' w' (OwnT.pushed he he2 h0 h1 h2 hu hhi g1 g2) ((Below.refl lo w).grown g2 hlo (fun k hk => (World.ownsRow.lt h1 k hk).1)) (fun u' ts' hu' hne => ⟨hu'.other he he2 h1 g2 hne, ?_⟩)
  rcases hc : u'.ownBlock with _ | b
  · exact .inl rfl
  · refine .inr (fun e0 => ?_)
    rcases g3 with g3 | g3
    · rw [g3] at e0
      rcases hne with hne | hne
      · rw [hc] at hne; cases hne
      · exact hne (hc.trans e0)
    · rw [g3] at e0
      injection e0 with e0
      have := (hu'.lt b hc).2
      omega
end Go.Proofs.YtfhdgcndiljjcaaGreatDoor

/- Contracts of sums and multiples of series, of the program. -/
namespace Go.Proofs.YtfhdgcndiljjcaaGreatDoor
open Go.RowKit Go.WideShapes Go.ChangeShapes Go.ChangeAt

set_option maxHeartbeats 1000000 in
theorem plusC_any (n : Nat) (g g' : Nat) (m : Int) (A : Option Addr) (c : Nat) (l : List Int) (m' : Int) (A' : Option Addr) (c' : Nat) (l' : List Int) (W : World)
    (hb : Box W g m A l.length c) (hb' : Box W g' m' A' l'.length c') (hr : RI W A l) (hr' : RI W A' l') (h1 : n < l.length) (h2 : n < l'.length)
    (h3 : 0 ≤ Ser.co l n) (h4 : Ser.co l n ≤ 10000) (h5 : 0 ≤ Ser.co l' n) (h6 : Ser.co l' n ≤ 10000) :
    Calls Tryz.prog 117 #[.int .i64 n, .pointer (some ⟨g, 0, none⟩), .pointer (some ⟨g', 0, none⟩)] W fun e w' => e = .returned (.int .i64 (Ser.co l n + Ser.co l' n)) ∧ Below W.heap.size W w' := by
  obtain ⟨b, off, rfl, hlt, hc⟩ := hr.at n h1
  obtain ⟨b', off', rfl, hlt', hc'⟩ := hr'.at n h2
  obtain ⟨x1, x2, _⟩ := hb
  obtain ⟨y1, y2, _⟩ := hb'
  obtain ⟨X, hX⟩ : ∃ X, Ser.co l n = X := ⟨_, rfl⟩
  obtain ⟨Y, hY⟩ : ∃ Y, Ser.co l' n = Y := ⟨_, rfl⟩
  rw [hX] at hc h3 h4 ⊢
  rw [hY] at hc' h5 h6 ⊢
  have j1 : (0 : Int) ≤ (n : Int) := by omega
  have j2 : (n : Int) < (l.length : Int) := by omega
  have j3 : (n : Int) < (l'.length : Int) := by omega
  clear hr hr' hX hY
  go_enter Tryz.func117, Tryz.ntmps117
  go_wp2
  go_quiet (fail)
  go_wp2
  go_ret
  exact ⟨rfl, below_drewN (Below.refl _ _) _⟩

/-- the world behind the boxes and the result's variable -/
theorem box3_new (w : World) (m m' : Int) (A A' : Option Addr) (n c n' c' : Nat) (W : World) (hW : (((w.alloc (.cells #[.int .i64 m, .slice A n c] 71)).alloc (.cells #[.int .i64 m', .slice A' n' c'] 71)).alloc (.cells #[.int .i64 0, .slice none 0 0] 71)) = W) :
    Box W w.heap.size m A n c ∧ Box W (w.heap.size + 1) m' A' n' c' ∧ Var2 W (w.heap.size + 1 + 1) (.int .i64 0) (.slice none 0 0) ∧ Below w.heap.size w W := by
  subst hW
  obtain ⟨h1, h2, h3⟩ := box2_new w m m' A A' n c n' c' _ rfl
  refine ⟨h1.keep (below_one _ _), h2.keep (below_one _ _), ?_, below_alloc _ h3⟩
  have := Var2.new ((w.alloc (.cells #[.int .i64 m, .slice A n c] 71)).alloc (.cells #[.int .i64 m', .slice A' n' c'] 71)) (.int .i64 0) (.slice none 0 0)
  simpa using this

set_option maxHeartbeats 2000000 in
set_option maxRecDepth 100000 in
theorem plus_any (m : Int) (d : Nat) (A : Option Addr) (c : Nat) (l : List Int) (m' : Int) (A' : Option Addr) (c' : Nat) (l' : List Int) (w : World) (hs : SerOk m d l) (hs' : SerOk m d l') (hr : RI w A l) (hr' : RI w A' l') :
    Calls Tryz.prog 108 #[.agg #[.int .i64 m, .slice A l.length c], .agg #[.int .i64 m', .slice A' l'.length c']] w fun e w' => ∃ v, e = .returned (.agg #[.int .i64 m, v]) ∧ OwnI w' w.heap.size v (Ser.cut m d fun n => Ser.co l n + Ser.co l' n) ∧ Below w.heap.size w w' := by
  obtain ⟨W, hW⟩ : ∃ W, (((w.alloc (.cells #[.int .i64 m, .slice A l.length c] 71)).alloc (.cells #[.int .i64 m', .slice A' l'.length c'] 71)).alloc (.cells #[.int .i64 0, .slice none 0 0] 71)) = W := ⟨_, rfl⟩
  obtain ⟨b1, b2, v3, hwb⟩ := box3_new w m m' A A' l.length c l'.length c' W hW
  have B1 := Lib.hid b1
  have B2 := Lib.hid b2
  have V3 := Lib.hid v3
  have HB := Lib.hid hwb
  have HW := Lib.hid hW
  have R1 := Lib.hid (hr.below hwb)
  have R2 := Lib.hid (hr'.below hwb)
  have HS := Lib.hid (fun W0 (h0 : Below W.heap.size W W0) => seriesOf_any m d 117 #[.pointer (some ⟨w.heap.size, 0, none⟩), .pointer (some ⟨w.heap.size + 1, 0, none⟩)] (fun n => Ser.co l n + Ser.co l' n) W0 (by have := hs.m1; omega) hs.m2 (by have := hs.d2; omega)
    (fun n _ => by have h1 := hs.red n; have h2 := hs'.red n; have h3 := hs.m2; omega)
    (enters_fn Tryz.func117 (of_decide_eq_true (by kernel_rfl)) rfl)
    (fun n W1 hn hb => by
      have h1 := hs.red n
      have h2 := hs'.red n
      have h3 := hs.m2
      have hb2 := h0.trans (hb.mono h0.size)
      exact plusC_any n _ _ m A c l m' A' c' l' W1 (B1.out.keep hb2) (B2.out.keep hb2) (R1.out.below hb2) (R2.out.below hb2) (by rw [hs.len]; omega) (by rw [hs'.len]; omega) (by omega) (by omega) (by omega) (by omega)))
  have HL := Lib.hid hs.len
  have HD := Lib.hid hs.d2
  clear b1 b2 v3 hwb hW hr hr' hs hs'
  go_enter Tryz.func108, Tryz.ntmps108
  go_wp2
  rw [HW.out]
  obtain ⟨x1, x2, x3⟩ := B1.out
  go_region_held3 (fun w' => w'.cell? ⟨w.heap.size, 0, none⟩ = some (.int .i64 m) ∧ w'.cell? ⟨w.heap.size, 1, none⟩ = some (.slice A l.length c) ∧ w.heap.size < w'.heap.size) (first | exact ⟨x1, x2, x3⟩ | exact box_store (by omega) (by assumption) | exact box_call (by assumption) (by assumption)) (first
    | (go_at_call 44; refine (degree_nat _ _ _ _ d _ HL.out (by have := HD.out; omega)).mono ?_; rintro e1 w1 ⟨rfl, hb1⟩)
    | (go_at_call 99; refine (HS.out _ ((below_drew0 W).trans hb1)).mono ?_; rintro e2 w2 ⟨v, rfl, ho2, hb2⟩; obtain ⟨A2, c2, rfl, _⟩ := ho2.form; have hv := V3.out.keep (((below_drew0 W).trans hb1).trans (hb2.mono ((below_drew0 W).trans hb1).size)); have q0 := hv.c0; have q1 := hv.c1; have q2 := hv.fz 0; have q3 := hv.fz 1))
  all_goals
    have hz := ((below_drew0 W).trans hb1).size
    have hg := x3
    have hw2 : Below w.heap.size w w2 := (HB.out.trans (((below_drew0 W).trans hb1).mono HB.out.size)).trans (hb2.mono (by have := HB.out.size; omega))
    obtain ⟨f0, f1, f2, f3⟩ := fin_var (w := w) hv ho2 (by have := V3.out.lt; omega) (by omega) hw2 (.int .i64 m) (.slice A2 (Ser.cut m d fun n => Ser.co l n + Ser.co l' n).length c2)
    have F2 := Lib.hid f2
    have F3 := Lib.hid f3
    clear f2 f3 hw2 ho2 hb2 hb1
    go_wp2
    refine bodyPost_ret (v := .agg #[.int .i64 m, .slice A2 (Ser.cut m d fun n => Ser.co l n + Ser.co l' n).length c2]) (by simp [results, Tryz.results108, go_sem, f0, f1]) rfl ⟨_, rfl, F2.out, F3.out⟩
end Go.Proofs.YtfhdgcndiljjcaaGreatDoor

