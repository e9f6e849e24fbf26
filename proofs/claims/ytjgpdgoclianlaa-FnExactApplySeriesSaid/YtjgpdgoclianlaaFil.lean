/- Contract of frame.filled: the table of the remainders of what a function value tells. -/
import Derived.Test.YtjgpdgoclianlaaRp
import Derived.Test.YtjgpdgoclianlaaSof
import Derived.Deep.RegionHeld3
namespace Go.Proofs.Ytjgpdgoclianlaa
open Go.RowKit Go.WideShapes Go.ChangeShapes Go.ChangeAt

theorem lenRow_any (m : Int) (d i : Nat) (w : World) (hd : d ≤ 1000) (hi : i ≤ d) :
    Calls Try.prog 57 #[.agg #[.int .i64 m, .int .i64 d], .int .i64 i] w fun e w' => e = .returned (.int .i64 ((d - i + 1 : Nat) : Int)) ∧ Below w.heap.size w w' := by
  have HE := Lib.hid (show ((d - i + 1 : Nat) : Int) = (d : Int) - (i : Int) + 1 by omega)
  rw [HE.out]
  go_enter Try.func57, Try.ntmps57
  go_wp2
  go_ret
  exact ⟨rfl, below_one _ _⟩

theorem Span.setCell (lo hi : Nat) (w : World) (g i : Nat) (u : Value) (h1 : lo ≤ g) (h2 : g < hi) : Span lo hi w (w.setCell ⟨g, i, none⟩ u) :=
  Span.of_grown (grown_setCell w g i u) (fun b hb => by injection hb with hb; omega)
/-- the frame's box and the grid's variable of a call of filled -/
def FilV (w W : World) (m : Int) (d : Nat) : Prop :=
  VarC 64 W w.heap.size #[.int .i64 m, .int .i64 d] ∧ VarC 66 W (w.heap.size + 1) #[.int .i64 0, .int .i64 0, .slice none 0 0]
theorem FilV.keep {w W W' : World} {m : Int} {d : Nat} (h : FilV w W m d) (hb : Below W.heap.size W W') : FilV w W' m d := ⟨h.1.keep hb, h.2.keep hb⟩
theorem FilV.far {w W : World} {m : Int} {d : Nat} (h : FilV w W m d) (b i : Nat) (u : Value) (hne : w.heap.size + 2 ≤ b) : FilV w (W.setCell ⟨b, i, none⟩ u) m d := ⟨h.1.far b i u (by omega), h.2.far b i u (by omega)⟩
theorem FilV.c {w W : World} {m : Int} {d : Nat} (h : FilV w W m d) : W.cell? ⟨w.heap.size, 0, none⟩ = some (.int .i64 m) ∧ W.cell? ⟨w.heap.size, 1, none⟩ = some (.int .i64 d) := ⟨h.1.cell 0 _ rfl, h.1.cell 1 _ rfl⟩
theorem cut_stepL (m : Int) (d : Nat) (f : Nat → Int) (k n : Nat) (hn : n = d + 1) (h : k ≤ d) : ((Ser.cut m d f).take k ++ List.replicate (n - k) 0).set k (f k % m) = (Ser.cut m d f).take (k + 1) ++ List.replicate (n - (k + 1)) 0 := by
  subst hn; exact cut_step m d f k h
theorem row_len (m : Int) (d : Nat) (f : Nat → Int) (k : Nat) (h : k ≤ d + 1) : ((Ser.cut m d f).take k ++ List.replicate (d + 1 - k) 0).length = d + 1 := by
  have := Ser.cut_length m d f
  simp; omega

/-- three cells stored -/
def set3 (w : World) (g : Nat) (x y z : Value) : World := ((w.setCell ⟨g, 0, none⟩ x).setCell ⟨g, 1, none⟩ y).setCell ⟨g, 2, none⟩ z
theorem VarC.set3 {t : TypeId} {w : World} {g : Nat} {a b c : Value} (h : VarC t w g #[a, b, c]) (x y z : Value) : VarC t (set3 w g x y z) g #[x, y, z] := ((h.set 0 x).set 1 y).set 2 z
theorem grown_set3 (w : World) (g : Nat) (x y z : Value) : w.grownBy (set3 w g x y z) (some g) := grown_trans (grown_trans (grown_setCell w g 0 x) (grown_setCell _ g 1 y)) (grown_setCell _ g 2 z)
theorem below_set3 {B : Nat} {w w' : World} {g : Nat} (hb : Below B w w') (hg : B ≤ g) (x y z : Value) : Below B w (set3 w' g x y z) := ((hb.setCell hg x).setCell hg y).setCell hg z
/-- a grid is stored into its variable: what the return reads -/
theorem fin_grid {t : TypeId} {w w2 : World} {g lo hi : Nat} {v a b c : Value} {T : List (List Int)} (hv : VarC t w2 g #[a, b, c]) (ho : OwnR w2 lo hi v T) (hg : g < lo ∨ hi ≤ g) (hwg : w.heap.size ≤ g) (hhi : hi ≤ w2.heap.size) (hb : Below w.heap.size w w2) (p q r : Value) :
    (set3 w2 g p q r).cell? ⟨g, 0, none⟩ = some p ∧ (set3 w2 g p q r).cell? ⟨g, 1, none⟩ = some q ∧ (set3 w2 g p q r).cell? ⟨g, 2, none⟩ = some r ∧
    OwnR (set3 w2 g p q r) lo (set3 w2 g p q r).heap.size v T ∧ Below w.heap.size w (set3 w2 g p q r) := by
  have h := hv.set3 p q r
  refine ⟨h.cell 0 _ rfl, h.cell 1 _ rfl, h.cell 2 _ rfl, ?_, below_set3 hb hwg p q r⟩
  exact (ho.far (Span.of_grown (lo := g) (hi := g + 1) (grown_set3 w2 g p q r) (fun b hb => by injection hb with hb; omega)) (by omega)).more (Nat.le_trans hhi (grown_set3 w2 g p q r).size)

theorem kp_call {w w' : World} {a1 a2 : Addr} {x y : Value} (hb : Below w.heap.size w w') (hs : w.cell? a1 = some x ∧ w.cell? a2 = some y) : w'.cell? a1 = some x ∧ w'.cell? a2 = some y :=
  ⟨(hb.cell (World.block_lt_of_cell? w a1 hs.1)).trans hs.1, (hb.cell (World.block_lt_of_cell? w a2 hs.2)).trans hs.2⟩
theorem kp_store {w : World} {a1 a2 b : Addr} {x y u : Value} (h1 : b.block ≠ a1.block) (h2 : b.block ≠ a2.block) (hs : w.cell? a1 = some x ∧ w.cell? a2 = some y) : (w.setCell b u).cell? a1 = some x ∧ (w.setCell b u).cell? a2 = some y :=
  ⟨(World.cell?_of_block (w := w) (Below.heap_setCell w b u a1.block (fun e => h1 e.symm))).trans hs.1, (World.cell?_of_block (w := w) (Below.heap_setCell w b u a2.block (fun e => h2 e.symm))).trans hs.2⟩

set_option maxHeartbeats 4000000 in
set_option maxRecDepth 100000 in
theorem filled_any (m : Int) (d fn : Nat) (cap : Array Value) (f : Nat → Nat → Int) (w : World) (h1 : 1 ≤ m) (h2 : m ≤ 10000) (hd : d ≤ 1000) (hlo : ∀ i j, i + j ≤ d → -1000000000000 ≤ f i j ∧ f i j ≤ 1000000000000)
    (hen : ∀ (args : Array Value) (W : World), (callFunc fn args).run Try.prog W = .ok (.enter fn args) W)
    (hf : ∀ (i j : Nat) (W : World), i + j ≤ d → Below w.heap.size w W → Calls Try.prog fn (#[.int .i64 i, .int .i64 j] ++ cap) W fun e w' => e = .returned (.int .i64 (f i j)) ∧ Below W.heap.size W w') :
    Calls Try.prog 106 #[.agg #[.int .i64 m, .int .i64 d], .func (.func fn) #[] cap] w fun e w' => ∃ v, e = .returned (.agg #[.int .i64 m, .int .i64 d, v]) ∧ OwnR w' w.heap.size w'.heap.size v (Pl.tab m d f) ∧ Below w.heap.size w w' := by
  have HF := Lib.hid hf
  have HL := Lib.hid hlo
  clear hf hlo
  have hmk : ∀ W : World, (Instr.makeSlice 22 (.int .i64 ((d : Int) + 1)) (.int .i64 ((d : Int) + 1))).run Try.prog W = .ok (.slice (some ⟨W.heap.size, 0, none⟩) (d + 1) (d + 1)) (W.alloc (.cells (madeCells #[Value.slice none 0 0] (d + 1)) 45)) := by
    intro W
    have := run_make_row' (P := Try.prog) 22 45 (.slice none 0 0) 24 Try.underlying22 infoRow rfl .i64 .i64 (d + 1) (by omega) (by omega) W
    rwa [show ((d + 1 : Nat) : Int) = (d : Int) + 1 by omega] at this
  have hmk2 : ∀ (n : Nat) (W : World), n ≤ 1001 → (Instr.makeSlice 45 (.int .i64 (n : Int)) (.int .i64 (n : Int))).run Try.prog W = .ok (.slice (some ⟨W.heap.size, 0, none⟩) n n) (W.alloc (.cells (madeCells #[.int .i64 0] n) 2)) := by
    intro n W hn
    exact run_make_row' (P := Try.prog) 45 2 (.int .i64 0) 8 Try.underlying45 info64 rfl .i64 .i64 n (by omega) (by omega) W
  have HM2 := Lib.hid hmk2
  clear hmk2
  go_enter Try.func106, Try.ntmps106
  go_wp2
  go_loopw [15] (fun i wr => ∃ k : Nat, k ≤ d + 1 ∧ i = .int .i64 k ∧ OwnR wr (w.heap.size + 2) wr.heap.size (.slice (some ⟨w.heap.size + 1 + 1, 0, none⟩) (d + 1) (d + 1)) ((Pl.tab m d f).take k ++ List.replicate (d + 1 - k) []) ∧ FilV w wr m d ∧ Below w.heap.size w wr) (fun i _ => d + 1 - (intOf i).toNat)
  case atStart =>
    refine ⟨0, Nat.zero_le _, rfl, ?_, ⟨?_, ?_⟩, below_alloc _ (below_alloc _ (below_one _ _))⟩
    · have h := OwnR.made ((w.alloc (.cells #[.int .i64 m, .int .i64 d] 64)).alloc (.cells #[.int .i64 0, .int .i64 0, .slice none 0 0] 66)) (d + 1) (by unfold maxLen; omega)
      simpa using h
    · exact ((VarC.new 64 w _).keep (below_one _ _)).keep (below_one _ _)
    · have h := (VarC.new 66 (w.alloc (.cells #[.int .i64 m, .int .i64 d] 64)) #[.int .i64 0, .int .i64 0, .slice none 0 0]).keep (below_one _ (.cells (madeCells #[Value.slice none 0 0] (d + 1)) 45))
      simpa using h
  case round =>
    clear hmk
    obtain ⟨k, hk, rfl, hown, hvar, hbel⟩ := hrel
    have HV := Lib.hid hvar
    have HB := Lib.hid hbel
    have HO := Lib.hid hown
    clear hown hbel hvar
    by_cases hlt : k < d + 1
    · obtain ⟨v0, v1⟩ := HV.out.c
      have hkd : (k : Int) < (d : Int) + 1 := by omega
      go_wp2_with fail
      refine (lenRow_any m d k _ hd (by omega)).mono ?_
      rintro e w1 ⟨rfl, hb1⟩
      obtain ⟨N, hN⟩ : ∃ N, d - k + 1 = N := ⟨_, rfl⟩
      have hN1 : N ≤ 1001 := by omega
      have hmk := fun W => HM2.out N W hN1
      rw [hN]
      have HN := Lib.hid hN
      have HB1 := Lib.hid (HB.out.trans (hb1.mono HB.out.size))
      have hb2 := below_one w1 (.cells (madeCells #[.int .i64 0] N) 2)
      have hsz1 := hb1.size
      have ho1 := HO.out.keep (hb1.trans (hb2.mono hsz1))
      have hlen : k < ((Pl.tab m d f).take k ++ List.replicate (d + 1 - k) []).length := by have := Pl.tab_length m d f; simp; omega
      obtain ⟨_, o2, _, o4, _, _, o5, _⟩ := ho1.cell k hlen
      have hput := ho1.put k hlen (.slice (some ⟨w1.heap.size, 0, none⟩) N N) (List.replicate N 0) ((OwnI.made w1 N (by unfold maxLen; omega)).more (by omega))
        (hi' := w1.heap.size + 1) (fun b hb => by have : b = w1.heap.size := by simpa [Value.ownBlock] using hb.symm
                                                  omega) (by omega)
      rw [Pl.tab_step m d f k (by omega)] at hput
      have hv1 := ((HV.out.keep hb1).keep hb2).far (w.heap.size + 1 + 1) k (.slice (some ⟨w1.heap.size, 0, none⟩) N N) (by omega)
      have hbw : Below w.heap.size w ((w1.alloc (.cells (madeCells #[.int .i64 0] N) 2)).setCell ⟨w.heap.size + 1 + 1, k, none⟩ (.slice (some ⟨w1.heap.size, 0, none⟩) N N)) :=
        (below_step HB1.out hb2).setCell (by show w.heap.size ≤ w.heap.size + 1 + 1; omega) _
      obtain ⟨x0, x1⟩ := hv1.c
      obtain ⟨w3, hw3⟩ : ∃ w3, (w1.alloc (.cells (madeCells #[.int .i64 0] N) 2)).setCell ⟨w.heap.size + 1 + 1, k, none⟩ (.slice (some ⟨w1.heap.size, 0, none⟩) N N) = w3 := ⟨_, rfl⟩
      have hs3 : w1.heap.size + 1 = w3.heap.size := by rw [← hw3]; simp [World.setCell]
      rw [hw3] at hput hv1 hbw
      rw [hs3] at hput
      have HP := Lib.hid hput
      have HV3 := Lib.hid hv1
      have HB3 := Lib.hid hbw
      have HW3 := Lib.hid hw3
      clear hN hput hv1 hbw hw3 ho1 hb2 hlen hs3 hsz1 HB1 HV HB HO
      go_wp2_with fail
      rw [HW3.out]
      refine (lenRow_any m d k _ hd (by omega)).mono ?_
      rintro e w4 ⟨rfl, hb4⟩
      rw [HN.out]
      have HP4 := Lib.hid ((HP.out.keep hb4).more hb4.size)
      have HV4 := Lib.hid (HV3.out.keep hb4)
      have HB4 := Lib.hid (below_step HB3.out hb4)
      clear HP HV3 HB3 hb4 HW3 hmk v0 v1 x0 x1 hb1
      go_wp2
      go_loopw [28] (fun i wr => ∃ j : Nat, j ≤ N ∧ i = .int .i64 j ∧ OwnR wr (w.heap.size + 2) wr.heap.size (.slice (some ⟨w.heap.size + 1 + 1, 0, none⟩) (d + 1) (d + 1)) ((Pl.tab m d f).take k ++ (((Ser.cut m (d - k) (f k)).take j ++ List.replicate (N - j) 0) :: List.replicate (d + 1 - (k + 1)) [])) ∧ FilV w wr m d ∧ Below w.heap.size w wr) (fun i _ => N - (intOf i).toNat)
      case atStart => exact ⟨0, Nat.zero_le _, rfl, by simpa using HP4.out, HV4.out, HB4.out⟩
      case round =>
        clear HP4 HV4 HB4
        obtain ⟨j, hj, rfl, hown, hvar, hbel⟩ := hrel
        have HV := Lib.hid hvar
        have HB := Lib.hid hbel
        have HO := Lib.hid hown
        clear hown hbel hvar
        by_cases hjt : j < N
        · obtain ⟨v0, v1⟩ := HV.out.c
          have hNk := HN.out
          obtain ⟨q1, q2⟩ := HL.out k j (by omega)
          obtain ⟨F, hF⟩ : ∃ F, f k j = F := ⟨_, rfl⟩
          have hcl : ∀ W : World, Below wr.heap.size wr W → _ := fun W hW => HF.out k j W (by omega) (HB.out.trans (hW.mono HB.out.size))
          rw [hF] at q1 q2 hcl
          have HC := Lib.hid hcl
          have hTl : k < ((Pl.tab m d f).take k ++ (((Ser.cut m (d - k) (f k)).take j ++ List.replicate (N - j) 0) :: List.replicate (d + 1 - (k + 1)) [])).length := by rw [Pl.tab_mid_length m d f k (by omega)]; omega
          obtain ⟨b, c', g1, g2, g3, g4, hcel⟩ := HO.out.numB k j N hTl (by rw [Pl.tab_mid m d f k (by omega)]; have := row_len m (d - k) (f k) j (by omega); rw [hNk] at this; exact this) hjt
          have hset : ∀ _ : Nat, ((Pl.tab m d f).take k ++ (((Ser.cut m (d - k) (f k)).take j ++ List.replicate (N - j) 0) :: List.replicate (d + 1 - (k + 1)) [])).set k ((Pl.rw' ((Pl.tab m d f).take k ++ (((Ser.cut m (d - k) (f k)).take j ++ List.replicate (N - j) 0) :: List.replicate (d + 1 - (k + 1)) [])) k).set j (F % m)) =
              (Pl.tab m d f).take k ++ (((Ser.cut m (d - k) (f k)).take (j + 1) ++ List.replicate (N - (j + 1)) 0) :: List.replicate (d + 1 - (k + 1)) []) := by
            intro _
            rw [Pl.tab_mid m d f k (by omega), Pl.tab_step2 m d f k (by omega), ← hF, cut_stepL m (d - k) (f k) j N hNk.symm (by omega)]
          have hcell2 : ∀ W, Below wr.heap.size wr W → (W.cell? ⟨w.heap.size + 1 + 1, k, none⟩ = some (.slice (some ⟨b, 0, none⟩) N c') ∧ (∃ y, W.cell? ⟨b, j, none⟩ = some (.int .i64 y)) ∧ W.frozen? ⟨b, j, none⟩ = false ∧
              OwnR (W.setCell ⟨b, j, none⟩ (.int .i64 (F % m))) (w.heap.size + 2) wr.heap.size (.slice (some ⟨w.heap.size + 1 + 1, 0, none⟩) (d + 1) (d + 1)) ((Pl.tab m d f).take k ++ (((Ser.cut m (d - k) (f k)).take (j + 1) ++ List.replicate (N - (j + 1)) 0) :: List.replicate (d + 1 - (k + 1)) []))) := by
            intro W hW
            obtain ⟨c1, c2, c3, c4⟩ := hcel W hW
            have := c4 (F % m)
            rw [hset 0] at this
            exact ⟨c1, ⟨_, c2⟩, c3, this⟩
          have HCE := Lib.hid hcell2
          obtain ⟨c1, _⟩ := hcell2 wr (Below.refl _ _)
          have i1 : (0 : Int) ≤ (j : Int) := by omega
          have i2 : (j : Int) < (N : Int) := by omega
          have i3 : (0 : Int) ≤ (k : Int) := by omega
          have l1 : w.heap.size < wr.heap.size := HV.out.1.lt
          clear hF hcl hTl hcel hset hcell2 hNk
          go_wp2
          go_region_held3 (fun w' => w'.cell? ⟨w.heap.size, 0, none⟩ = some (.int .i64 m) ∧ w'.cell? ⟨w.heap.size + 1 + 1, k, none⟩ = some (.slice (some ⟨b, 0, none⟩) N c')) (first | exact ⟨v0, c1⟩ | exact kp_call hb5 ⟨v0, c1⟩ | exact kp_store (by show b ≠ w.heap.size; omega) g4 (by assumption)) (first
            | (go_at_call 127; refine (remainder_any _ _ _ h1 h2 q1 q2).mono ?_; rintro e w' ⟨rfl, rfl⟩)
            | (refine (HC.out _ (below_drew0 _)).mono ?_; rintro e w5 ⟨rfl, hb5⟩; obtain ⟨_, ⟨y0, s2⟩, s3, s4⟩ := HCE.out w5 (below_step (below_drew0 _) hb5)))
          all_goals
            have k1 := s4.more (show wr.heap.size ≤ (w5.setCell ⟨b, j, none⟩ (.int .i64 (F % m))).heap.size by have := hb5.size; simp only [World.setCell, Array.size_modify]; exact this)
            have k2 := (HV.out.keep (below_step (below_drew0 _) hb5)).far b j (.int .i64 (F % m)) g2
            have k3 := (below_step HB.out (below_step (below_drew0 wr) hb5)).setCell (p := ⟨b, j, none⟩) (by show w.heap.size ≤ b; omega) (.int .i64 (F % m))
            have K1 := Lib.hid k1
            have K2 := Lib.hid k2
            have K3 := Lib.hid k3
            clear k1 k2 k3 s4 HCE HC hb5 s2 s3
            go_wp2
            go_roundw
            case rel => exact ⟨j + 1, by omega, by go_num, K1.out, K2.out, K3.out⟩
            case measure => simp only [intOf]; omega
        · obtain rfl : j = N := by omega
          have ho := HO.out
          have hNk := HN.out
          rw [List.take_of_length_le (l := Ser.cut m (d - k) (f k)) (by rw [Ser.cut_length]; omega), Nat.sub_self, List.replicate_zero, List.append_nil, Pl.tab_done m d f k (by omega)] at ho
          have HO2 := Lib.hid ho
          clear ho HO hNk
          go_wp2
          go_roundw
          case rel => exact ⟨k + 1, by omega, by go_num, HO2.out, HV.out, HB.out⟩
          case measure => simp only [intOf]; omega
    · obtain rfl : k = d + 1 := by omega
      have ho := HO.out
      rw [Pl.tab_take_all, Nat.sub_self, List.replicate_zero, List.append_nil] at ho
      obtain ⟨v0, v1⟩ := HV.out.c
      have hv := HV.out.2
      have q3 := hv.fz 0
      have q4 := hv.fz 1
      have q5 := hv.fz 2
      have q6 := hv.cell 0 _ rfl
      have q7 := hv.cell 1 _ rfl
      have q8 := hv.cell 2 _ rfl
      simp only [List.getElem_toArray, List.getElem_cons_zero, List.getElem_cons_succ] at q6 q7 q8
      obtain ⟨f0, f1, f2, f3, f4⟩ := fin_grid (w := w) hv ho (by omega) (by omega) (Nat.le_refl _) HB.out (.int .i64 m) (.int .i64 d) (.slice (some ⟨w.heap.size + 1 + 1, 0, none⟩) (d + 1) (d + 1))
      have F3 := Lib.hid f3
      have F4 := Lib.hid f4
      unfold set3 at f0 f1 f2
      clear f3 f4 ho hv HO HV HB
      go_wp2
      refine bodyPost_ret (v := .agg #[.int .i64 m, .int .i64 d, .slice (some ⟨w.heap.size + 1 + 1, 0, none⟩) (d + 1) (d + 1)]) (by simp [results, Try.results106, go_sem, f0, f1, f2]) rfl ⟨_, rfl, F3.out.low (by omega), F4.out⟩
end Go.Proofs.Ytjgpdgoclianlaa
