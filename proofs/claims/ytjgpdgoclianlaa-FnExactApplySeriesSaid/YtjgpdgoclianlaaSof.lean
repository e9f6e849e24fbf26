/- Contract of seriesOf: the list of the remainders of what a function value tells. -/
import Derived.Test.YtjgpdgoclianlaaSrs
import Derived.Test.YtjgpdgoclianlaaSeL
namespace Go.Proofs.Ytjgpdgoclianlaa
open Go.RowKit Go.WideShapes Go.ChangeShapes Go.ChangeAt

theorem cut_step (m : Int) (d : Nat) (f : Nat → Int) (k : Nat) (h : k ≤ d) : ((Ser.cut m d f).take k ++ List.replicate (d + 1 - k) 0).set k (f k % m) = (Ser.cut m d f).take (k + 1) ++ List.replicate (d + 1 - (k + 1)) 0 := by
  have hl := Ser.cut_length m d f
  rw [Ser.cut_take_succ m d f k h, List.set_append_right _ _ (by simp; omega), List.length_take, hl, Nat.min_eq_left (by omega), Nat.sub_self, show d + 1 - k = (d + 1 - (k + 1)) + 1 by omega, List.replicate_succ, List.set_cons_zero, List.append_assoc]
  rfl

/-- a function with a Go body is entered, called by whatever value -/
theorem enters_fn {f : FuncId} {fn : Func} {c : Code} (h : Try.prog.funcs[f]? = some fn) (hn : fn.name ≠ "runtime.NumGoroutine") (hb : fn.body = some c) (args : Array Value) (W : World) :
    (callFunc f args).run Try.prog W = .ok (.enter f args) W := by
  simp [callFunc, h, hn, hb]

/-- block g holds a series' variable -/
def Var2 (w : World) (g : Nat) (x y : Value) : Prop := w.heap[g]? = some (.cells #[x, y] 49 (0, 0))
theorem Var2.new (w : World) (x y : Value) : Var2 (w.alloc (.cells #[x, y] 49)) w.heap.size x y := heap_alloc_new w _
theorem Var2.lt {w : World} {g : Nat} {x y : Value} (h : Var2 w g x y) : g < w.heap.size := (Array.getElem?_eq_some_iff.1 h).1
theorem Var2.keep {w w' : World} {g : Nat} {x y : Value} (h : Var2 w g x y) (hb : Below w.heap.size w w') : Var2 w' g x y := (hb.block g h.lt).trans h
theorem Var2.far {w : World} {g : Nat} {x y : Value} (h : Var2 w g x y) (b i : Nat) (u : Value) (hne : b ≠ g) : Var2 (w.setCell ⟨b, i, none⟩ u) g x y :=
  (Below.heap_setCell w ⟨b, i, none⟩ u g (fun e => hne e.symm)).trans h
theorem Var2.c0 {w : World} {g : Nat} {x y : Value} (h : Var2 w g x y) : w.cell? ⟨g, 0, none⟩ = some x := by unfold Var2 at h; simp [World.cell?, h]
theorem Var2.c1 {w : World} {g : Nat} {x y : Value} (h : Var2 w g x y) : w.cell? ⟨g, 1, none⟩ = some y := by unfold Var2 at h; simp [World.cell?, h]
theorem Var2.fz {w : World} {g : Nat} {x y : Value} (h : Var2 w g x y) (k : Nat) : w.frozen? ⟨g, k, none⟩ = false := by unfold Var2 at h; simp [World.frozen?, h]
theorem Var2.set0 {w : World} {g : Nat} {x y : Value} (h : Var2 w g x y) (u : Value) : Var2 (w.setCell ⟨g, 0, none⟩ u) g u y := by
  unfold Var2 at h ⊢; simp [World.setCell, Array.getElem?_modify, h]
theorem Var2.set1 {w : World} {g : Nat} {x y : Value} (h : Var2 w g x y) (u : Value) : Var2 (w.setCell ⟨g, 1, none⟩ u) g x u := by
  unfold Var2 at h ⊢; simp [World.setCell, Array.getElem?_modify, h]
/-- both cells stored -/
def set2 (w : World) (g : Nat) (x y : Value) : World := (w.setCell ⟨g, 0, none⟩ x).setCell ⟨g, 1, none⟩ y
theorem Var2.set2 {w : World} {g : Nat} {x y : Value} (h : Var2 w g x y) (x' y' : Value) : Var2 (set2 w g x' y') g x' y' := (h.set0 x').set1 y'
theorem below_set2 {B : Nat} {w w' : World} {g : Nat} (hb : Below B w w') (hg : B ≤ g) (x y : Value) : Below B w (set2 w' g x y) := (hb.setCell hg x).setCell hg y
theorem grown_set2 (w : World) (g : Nat) (x y : Value) : w.grownBy (set2 w g x y) (some g) := grown_trans (grown_setCell w g 0 x) (grown_setCell _ g 1 y)

/-- a result is stored into its variable: what the return reads -/
theorem fin_var {w w2 : World} {g base : Nat} {v x y : Value} {l : List Int} (hv : Var2 w2 g x y) (ho : OwnI w2 base v l) (hg : g < base) (hwg : w.heap.size ≤ g) (hb : Below w.heap.size w w2) (p q : Value) :
    ((w2.setCell ⟨g, 0, none⟩ p).setCell ⟨g, 1, none⟩ q).cell? ⟨g, 0, none⟩ = some p ∧ ((w2.setCell ⟨g, 0, none⟩ p).setCell ⟨g, 1, none⟩ q).cell? ⟨g, 1, none⟩ = some q ∧
    OwnI ((w2.setCell ⟨g, 0, none⟩ p).setCell ⟨g, 1, none⟩ q) w.heap.size v l ∧ Below w.heap.size w ((w2.setCell ⟨g, 0, none⟩ p).setCell ⟨g, 1, none⟩ q) := by
  have h := hv.set2 p q
  refine ⟨h.c0, h.c1, OwnI.more (base := base) (ho.other (grown_set2 w2 g p q) ?_) (by omega), below_set2 hb hwg p q⟩
  rcases hc : v.ownBlock with _ | b
  · exact .inl rfl
  · refine .inr (fun e => ?_)
    injection e with e
    have := (ho.lt b hc).1
    omega

set_option maxHeartbeats 2000000 in
set_option maxRecDepth 100000 in
theorem seriesOf_any (m : Int) (d fn : Nat) (cap : Array Value) (f : Nat → Int) (w : World) (h1 : 1 ≤ m) (h2 : m ≤ 10000) (hd : d ≤ 1000) (hlo : ∀ n, n ≤ d → -1000000000000 ≤ f n ∧ f n ≤ 1000000000000)
    (hen : ∀ (args : Array Value) (W : World), (callFunc fn args).run Try.prog W = .ok (.enter fn args) W)
    (hf : ∀ (n : Nat) (W : World), n ≤ d → Below w.heap.size w W → Calls Try.prog fn (#[.int .i64 n] ++ cap) W fun e w' => e = .returned (.int .i64 (f n)) ∧ Below W.heap.size W w') :
    Calls Try.prog 115 #[.int .i64 m, .int .i64 d, .func (.func fn) #[] cap] w fun e w' => ∃ v, e = .returned (.agg #[.int .i64 m, v]) ∧ OwnI w' w.heap.size v (Ser.cut m d f) ∧ Below w.heap.size w w' := by
  have HF := Lib.hid hf
  have HL := Lib.hid hlo
  clear hf hlo
  have hmk : ∀ W : World, (Instr.makeSlice 45 (.int .i64 ((d : Int) + 1)) (.int .i64 ((d : Int) + 1))).run Try.prog W = .ok (.slice (some ⟨W.heap.size, 0, none⟩) (d + 1) (d + 1)) (W.alloc (.cells (madeCells #[.int .i64 0] (d + 1)) 2)) := by
    intro W
    have := run_make_row' (P := Try.prog) 45 2 (.int .i64 0) 8 Try.underlying45 info64 rfl .i64 .i64 (d + 1) (by omega) (by omega) W
    rwa [show ((d + 1 : Nat) : Int) = (d : Int) + 1 by omega] at this
  go_enter Try.func115, Try.ntmps115
  go_wp2
  go_loopw [14] (fun i wr => ∃ k : Nat, k ≤ d + 1 ∧ i = .int .i64 k ∧ OwnI wr (w.heap.size + 1) (.slice (some ⟨w.heap.size + 1, 0, none⟩) (d + 1) (d + 1)) ((Ser.cut m d f).take k ++ List.replicate (d + 1 - k) 0) ∧ Var2 wr w.heap.size (.int .i64 0) (.slice none 0 0) ∧ Below w.heap.size w wr) (fun i _ => d + 1 - (intOf i).toNat)
  case atStart =>
    refine ⟨0, Nat.zero_le _, rfl, ?_, (Var2.new w _ _).keep (below_one _ _), below_alloc _ (below_one _ _)⟩
    have h := OwnI.made (w.alloc (.cells #[.int .i64 0, .slice none 0 0] 49)) (d + 1) (by unfold maxLen; omega)
    simpa using h
  case round =>
    clear hmk
    obtain ⟨k, hk, rfl, hown, hvar, hbel⟩ := hrel
    have HV := Lib.hid hvar
    have HB := Lib.hid hbel
    have HO := Lib.hid hown
    clear hown hbel hvar
    by_cases hlt : k < d + 1
    · obtain ⟨q1, q2⟩ := HL.out k (by omega)
      obtain ⟨F, hF⟩ : ∃ F, f k = F := ⟨_, rfl⟩
      have HC := HF.out k wr (by omega) HB.out
      rw [hF] at q1 q2 HC
      have HC' := Lib.hid HC
      have HFk := Lib.hid hF
      clear HC hF
      have hkd : (k : Int) < (d : Int) + 1 := by omega
      go_wp2_with fail
      refine HC'.out.mono ?_
      rintro e w1 ⟨rfl, hb1⟩
      have HO1 := Lib.hid (HO.out.keep hb1)
      have HV1 := Lib.hid (HV.out.keep hb1)
      obtain ⟨_, _, o3, o4⟩ := HO1.out.cells
      have hd1 := o3 k (by simp [Ser.cut_length]; omega)
      have hf1 := o4 k
      obtain ⟨y, hy⟩ : ∃ y, ((Ser.cut m d f).take k ++ List.replicate (d + 1 - k) 0)[k]?.getD 0 = y := ⟨_, rfl⟩
      rw [hy] at hd1
      have hs := HO1.out.set k (f k % m)
      rw [cut_step m d f k (by omega), HFk.out] at hs
      have HS := Lib.hid hs
      have HB1 := Lib.hid (HB.out.trans (hb1.mono HB.out.size))
      clear hy o3 o4 hs hb1
      go_wp2_with (first | (go_at_call 127; refine (remainder_any _ _ _ h1 h2 q1 q2).mono ?_; rintro e w' ⟨rfl, rfl⟩))
      go_roundw
      case rel => exact ⟨k + 1, by omega, by go_num, HS.out, HV1.out.far _ _ _ (by omega), HB1.out.setCell (by show w.heap.size ≤ w.heap.size + 1; omega) _⟩
      case measure => simp only [intOf]; omega
    · obtain rfl : k = d + 1 := by omega
      have ho := HO.out
      rw [Ser.cut_take_all, Nat.sub_self, List.replicate_zero, List.append_nil] at ho
      have HFin := Lib.hid ho
      clear ho
      have v0 := HV.out.c0
      have v1 := HV.out.c1
      have v2 := HV.out.fz 0
      have v3 := HV.out.fz 1
      obtain ⟨v4, v5⟩ : (set2 wr w.heap.size (.int .i64 m) (.slice (some ⟨w.heap.size + 1, 0, none⟩) (d + 1) (d + 1))).cell? ⟨w.heap.size, 0, none⟩ = some (.int .i64 m) ∧
        (set2 wr w.heap.size (.int .i64 m) (.slice (some ⟨w.heap.size + 1, 0, none⟩) (d + 1) (d + 1))).cell? ⟨w.heap.size, 1, none⟩ = some (.slice (some ⟨w.heap.size + 1, 0, none⟩) (d + 1) (d + 1)) := ⟨(HV.out.set2 _ _).c0, (HV.out.set2 _ _).c1⟩
      unfold set2 at v4 v5
      go_wp2
      refine bodyPost_ret (v := .agg #[.int .i64 m, .slice (some ⟨w.heap.size + 1, 0, none⟩) (d + 1) (d + 1)]) (by simp [results, Try.results115, go_sem, v4, v5]) rfl ⟨_, rfl, ?_, below_set2 HB.out (Nat.le_refl _) _ _⟩
      exact (HFin.out.other (grown_set2 wr w.heap.size _ _) (.inr (by simp [Value.ownBlock]))).more (by omega)
end Go.Proofs.Ytjgpdgoclianlaa
