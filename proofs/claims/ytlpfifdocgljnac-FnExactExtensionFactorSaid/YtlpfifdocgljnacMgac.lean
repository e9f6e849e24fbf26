/- Texts of contracts, joined. -/
import Derived.Test.YtlpfifdocgljnacMgab
import Derived.Test.YtlpfifdocgljnacMgaa
import Derived.ProofKit
import Derived.OpenShut
import Derived.ChangeSame
import Derived.Deep.DeepCutAuto
import Derived.Deep.MidRow
import Derived.Deep.WholeRow
import Derived.Laws.CopyOwn
import Derived.Deep.QuietTactic
import Derived.BigQuiet
import Derived.WalkLawsBesides
import Derived.OrdersHeld
import Derived.Deep.RegionHeld3
import Derived.Deep.DrawnRows
import Derived.Maps.Own
import Derived.Maps.Views
import Derived.RegionTactic
import Derived.Tactics2
import Derived.Defers
import Derived.Recover
import Derived.Laws.Pointers
/- Contracts of MultiplySeries, of the program and of the model. -/
namespace Go.Proofs.Ytlpfifdocgljnac
open Go.RowKit Go.WideShapes Go.ChangeShapes Go.ChangeAt

set_option maxHeartbeats 1000000 in
theorem timesC_any (n : Nat) (g g' : Nat) (m : Int) (d : Nat) (A : Option Addr) (c : Nat) (l : List Int) (m' : Int) (A' : Option Addr) (c' : Nat) (l' : List Int) (W : World)
    (hb : Box W g m A l.length c) (hb' : Box W g' m' A' l'.length c') (hs : SerOk m d l) (hs' : SerOk m d l') (hr : RI W A l) (hr' : RI W A' l') (hn : n ≤ d) :
    Calls Try.prog 133 #[.int .i64 n, .pointer (some ⟨g, 0, none⟩), .pointer (some ⟨g', 0, none⟩)] W fun e w' => e = .returned (.int .i64 (Ser.cv n (Ser.co l) (Ser.co l'))) ∧ Below W.heap.size W w' := by
  obtain ⟨x1, x2, _⟩ := hb
  obtain ⟨y1, y2, _⟩ := hb'
  have HP := Lib.hid (productAt_any m d n A c l m' A' c' l' W hs hs' hr hr' hn)
  clear hs hs' hr hr'
  go_enter Try.func133, Try.ntmps133
  go_wp2_with fail
  refine HP.out.mono ?_
  rintro e w1 ⟨rfl, hb1⟩
  go_wp2
  go_ret
  exact ⟨rfl, hb1⟩

theorem psum_bd (f : Nat → Int) (B : Int) (hf : ∀ i, 0 ≤ f i ∧ f i ≤ B) : ∀ n : Nat, 0 ≤ Ser.psum f n ∧ Ser.psum f n ≤ n * B := by
  intro n
  induction n with
  | zero => simp [Ser.psum]
  | succ n ih =>
    have := hf n
    have e : ((n + 1 : Nat) : Int) * B = n * B + B := by rw [show ((n + 1 : Nat) : Int) = (n : Int) + 1 by omega, Int.add_mul, Int.one_mul]
    rw [Ser.psum, e]
    omega
theorem cv_bd {m : Int} {l l' : List Int} (m2 : m ≤ 10000) (h : Ser.Red m l) (h' : Ser.Red m l') (n : Nat) (hn : n ≤ 1000) : 0 ≤ Ser.cv n (Ser.co l) (Ser.co l') ∧ Ser.cv n (Ser.co l) (Ser.co l') ≤ 100100000000 := by
  rw [Ser.cv_psum]
  have := psum_bd (fun i => Ser.co l i * Ser.co l' (n - i)) 100000000 (fun i => by
    have h1 := h i
    have h2 := h' (n - i)
    exact ⟨Int.mul_nonneg h1.1 h2.1, (mul_bd h1.1 (by omega) (by omega) (by omega)).2⟩) (n + 1)
  refine ⟨this.1, Int.le_trans this.2 ?_⟩
  omega

set_option maxHeartbeats 2000000 in
set_option maxRecDepth 100000 in
theorem times_any (m : Int) (d : Nat) (A : Option Addr) (c : Nat) (l : List Int) (m' : Int) (A' : Option Addr) (c' : Nat) (l' : List Int) (w : World) (hs : SerOk m d l) (hs' : SerOk m d l') (hr : RI w A l) (hr' : RI w A' l') :
    Calls Try.prog 131 #[.agg #[.int .i64 m, .slice A l.length c], .agg #[.int .i64 m', .slice A' l'.length c']] w fun e w' => ∃ v, e = .returned (.agg #[.int .i64 m, v]) ∧ OwnI w' w.heap.size v (Ser.mulL m d l l') ∧ Below w.heap.size w w' := by
  obtain ⟨W, hW⟩ : ∃ W, (((w.alloc (.cells #[.int .i64 m, .slice A l.length c] 84)).alloc (.cells #[.int .i64 m', .slice A' l'.length c'] 84)).alloc (.cells #[.int .i64 0, .slice none 0 0] 84)) = W := ⟨_, rfl⟩
  obtain ⟨b1, b2, v3, hwb⟩ := box3_new w m m' A A' l.length c l'.length c' W hW
  have B1 := Lib.hid b1
  have B2 := Lib.hid b2
  have V3 := Lib.hid v3
  have HB := Lib.hid hwb
  have HW := Lib.hid hW
  have R1 := Lib.hid (hr.below hwb)
  have R2 := Lib.hid (hr'.below hwb)
  have HS := Lib.hid (fun W0 (h0 : Below W.heap.size W W0) => seriesOf_any m d 133 #[.pointer (some ⟨w.heap.size, 0, none⟩), .pointer (some ⟨w.heap.size + 1, 0, none⟩)] (Ser.mul (Ser.co l) (Ser.co l')) W0 (by have := hs.m1; omega) hs.m2 (by have := hs.d2; omega)
    (fun n hn => by have := cv_bd hs.m2 hs.red hs'.red n (by have := hs.d2; omega); rw [Ser.mul_at]; omega)
    (enters_fn Try.func133 (of_decide_eq_true (by kernel_rfl)) rfl)
    (fun n W1 hn hb => by
      have hb2 := h0.trans (hb.mono h0.size)
      exact timesC_any n _ _ m d A c l m' A' c' l' W1 (B1.out.keep hb2) (B2.out.keep hb2) hs hs' (R1.out.below hb2) (R2.out.below hb2) hn))
  have HL := Lib.hid hs.len
  have HD := Lib.hid hs.d2
  obtain ⟨L, hLL⟩ : ∃ L, Ser.mulL m d l l' = L := ⟨_, rfl⟩
  unfold Ser.mulL at hLL ⊢
  rw [hLL] at HS ⊢
  clear b1 b2 v3 hwb hW hr hr' hs hs' hLL
  go_enter Try.func131, Try.ntmps131
  go_wp2
  rw [HW.out]
  obtain ⟨x1, x2, x3⟩ := B1.out
  go_region_held3 (fun w' => w'.cell? ⟨w.heap.size, 0, none⟩ = some (.int .i64 m) ∧ w'.cell? ⟨w.heap.size, 1, none⟩ = some (.slice A l.length c) ∧ w.heap.size < w'.heap.size) (first | exact ⟨x1, x2, x3⟩ | exact box_store (by omega) (by assumption) | exact box_call (by assumption) (by assumption)) (first
    | (go_at_call 102; refine (degree_nat _ _ _ _ d _ HL.out (by have := HD.out; omega)).mono ?_; rintro e1 w1 ⟨rfl, hb1⟩)
    | (go_at_call 96; refine (HS.out _ ((below_drew0 W).trans hb1)).mono ?_; rintro e2 w2 ⟨v, rfl, ho2, hb2⟩; obtain ⟨A2, c2, rfl, _⟩ := ho2.form; have hv := V3.out.keep (((below_drew0 W).trans hb1).trans (hb2.mono ((below_drew0 W).trans hb1).size)); have q0 := hv.c0; have q1 := hv.c1; have q2 := hv.fz 0; have q3 := hv.fz 1))
  all_goals
    have hz := ((below_drew0 W).trans hb1).size
    have hg := x3
    have hw2 : Below w.heap.size w w2 := (HB.out.trans (((below_drew0 W).trans hb1).mono HB.out.size)).trans (hb2.mono (by have := HB.out.size; omega))
    obtain ⟨f0, f1, f2, f3⟩ := fin_var (w := w) hv ho2 (by have := V3.out.lt; omega) (by omega) hw2 (.int .i64 m) (.slice A2 L.length c2)
    have F2 := Lib.hid f2
    have F3 := Lib.hid f3
    clear f2 f3 hw2 ho2 hb2 hb1
    go_wp2
    refine bodyPost_ret (v := .agg #[.int .i64 m, .slice A2 L.length c2]) (by simp [results, Try.results131, go_sem, f0, f1]) rfl ⟨_, rfl, F2.out, F3.out⟩

end Go.Proofs.Ytlpfifdocgljnac

/- A series among a law's arguments: what its reading tells. -/
namespace Go.Proofs.Ytlpfifdocgljnac
open Go.RowKit Go.WideShapes Go.ChangeShapes Go.ChangeAt

theorem use_it {p q : Prop} (h : p) (k : p → q) : q := k h
theorem Var2.drew {w : World} {g : Nat} {x y : Value} (h : Var2 w g x y) : Var2 w.drew g x y := h
theorem cells_i64 : Try.prog.cellsOf 2 = 1 := by kernel_rfl
theorem cells_i64s : Try.prog.cellsOf 35 = 1 := by kernel_rfl
end Go.Proofs.Ytlpfifdocgljnac

/- Variables of series: what a store into one leaves alone; making one of a monomial. -/
namespace Go.Proofs.Ytlpfifdocgljnac
open Go.RowKit Go.WideShapes Go.ChangeShapes Go.ChangeAt

theorem t_ne : ¬ (2 : TypeId) = (84 : TypeId) := by decide
theorem own_ne_var {w : World} {g base : Nat} {x y : Value} {v : Value} {l : List Int} (hv : Var2 w g x y) (h : OwnI w base v l) : v.ownBlock ≠ some g := by
  intro e
  unfold OwnI at h
  unfold Var2 at hv
  rcases h.2 with ⟨rfl, _⟩ | ⟨g', cap, cur, rfl, _, hg, _⟩
  · simp [Value.ownBlock] at e
  · simp [Value.ownBlock] at e
    subst e
    rw [hg] at hv
    injection hv with hv
    injection hv with _ hv
    exact t_ne hv
theorem OwnI.set2 {w : World} {g base : Nat} {x y : Value} {v : Value} {l : List Int} (h : OwnI w base v l) (hv : Var2 w g x y) (x' y' : Value) : OwnI (set2 w g x' y') base v l :=
  h.other (grown_set2 w g x' y') (.inr (own_ne_var hv h))
theorem Var2.set2' {w : World} {g g' : Nat} {x y : Value} (h : Var2 w g x y) (hne : g' ≠ g) (x' y' : Value) : Var2 (Proofs.Ytlpfifdocgljnac.set2 w g' x' y') g x y := (h.far g' 0 x' hne).far g' 1 y' hne
theorem RI.set2 {w : World} {g : Nat} {x : Int} {A' : Option Addr} {n c : Nat} {A : Option Addr} {l : List Int} (h : RI w A l) (hv : Var2 w g (.int .i64 x) (.slice A' n c)) (hl : 2 ≤ l.length) (x' y' : Value) : RI (Proofs.Ytlpfifdocgljnac.set2 w g x' y') A l := by
  intro hne
  obtain ⟨b, off, e, hlt, hc⟩ := h hne
  have hbg : b ≠ g := by
    rintro rfl
    have h0 := hc 0 (by omega)
    have h1 := hc 1 (by omega)
    unfold Var2 at hv
    simp only [World.cell?, hv] at h0 h1
    match off, h0, h1 with
    | 0, h0, h1 => simp at h1
    | off + 1, h0, h1 => simp at h1
  refine ⟨b, off, e, by simpa [Proofs.Ytlpfifdocgljnac.set2, World.setCell] using hlt, fun k hk => ?_⟩
  have h1 : (w.setCell ⟨g, 0, none⟩ x').cell? ⟨b, off + k, none⟩ = w.cell? ⟨b, off + k, none⟩ := World.cell?_setCell_other _ _ _ _ (by intro e; injection e with e; exact hbg e.symm)
  have h2 : (Proofs.Ytlpfifdocgljnac.set2 w g x' y').cell? ⟨b, off + k, none⟩ = (w.setCell ⟨g, 0, none⟩ x').cell? ⟨b, off + k, none⟩ := World.cell?_setCell_other _ _ _ _ (by intro e; injection e with e; exact hbg e.symm)
  rw [h2, h1]
  exact hc k hk
theorem RI.drew {w : World} {A : Option Addr} {l : List Int} (h : RI w A l) : RI w.drew A l := h

/-- a variable made of a result: the store comes into a variable that lay there before the call, or into a new one -/
theorem reg_fin2 {wk cur wd : World} {g : Nat} {A : Option Addr} {n c : Nat} {l : List Int} {x y : Value} (hk : wk.heap.size ≤ g) (hgc : g < cur.heap.size) (hv : Var2 wd g x y) (ho : OwnI wd cur.heap.size (.slice A n c) l) (hb : Below wk.heap.size wk wd) (M : Int) :
    Var2 ((wd.setCell ⟨g, 0, none⟩ (.int .i64 M)).setCell ⟨g, 1, none⟩ (.slice A n c)) g (.int .i64 M) (.slice A n c) ∧ OwnI ((wd.setCell ⟨g, 0, none⟩ (.int .i64 M)).setCell ⟨g, 1, none⟩ (.slice A n c)) wk.heap.size (.slice A n c) l ∧
    Below wk.heap.size wk ((wd.setCell ⟨g, 0, none⟩ (.int .i64 M)).setCell ⟨g, 1, none⟩ (.slice A n c)) ∧ wk.heap.size ≤ g := by
  obtain ⟨f0, f1, f2, f3⟩ := fin_var (w := wk) hv ho hgc hk hb (.int .i64 M) (.slice A n c)
  exact ⟨hv.set2 _ _, f2, f3, hk⟩
theorem reg_new2 {wk cur wd : World} {A : Option Addr} {n c : Nat} {l : List Int} (hk : wk.heap.size ≤ cur.heap.size) (ho : OwnI wd cur.heap.size (.slice A n c) l) (hb : Below wk.heap.size wk wd) (M : Int) :
    Var2 (wd.alloc (.cells #[.int .i64 M, .slice A n c] 84)) wd.heap.size (.int .i64 M) (.slice A n c) ∧ OwnI (wd.alloc (.cells #[.int .i64 M, .slice A n c] 84)) wk.heap.size (.slice A n c) l ∧
    Below wk.heap.size wk (wd.alloc (.cells #[.int .i64 M, .slice A n c] 84)) ∧ wk.heap.size ≤ wd.heap.size :=
  ⟨Var2.new _ _ _, (ho.keep (below_one _ _)).more hk, below_alloc _ hb, hb.size⟩
theorem one_in {W w' : World} {g : Nat} {m : Int} {A : Option Addr} {n c : Nat} (h : Box W g m A n c) (hb : Below W.heap.size W w') :
    (w'.cell? ⟨g, 0, none⟩ = some (.int .i64 m) ∧ w'.cell? ⟨g, 1, none⟩ = some (.slice A n c)) ∧ True ∧ Below W.heap.size W w' := ⟨box_in h hb, trivial, hb⟩
end Go.Proofs.Ytlpfifdocgljnac

/- Contracts of InverseOfSeries, of the program and of the model. -/
namespace Go.Proofs.Ytlpfifdocgljnac
open Go.RowKit Go.WideShapes Go.ChangeShapes Go.ChangeAt

theorem remainder_big (m n : Int) (w : World) (h1 : 1 ≤ m) (h2 : m ≤ 10000) (h3 : -1000000000000000000 ≤ n) (h4 : n ≤ 1000000000000000000) :
    Calls Try.prog 108 #[.int .i64 m, .int .i64 n] w fun e w' => e = .returned (.int .i64 (n % m)) ∧ w = w' := by
  by_cases hn : 0 ≤ n
  · have h5 := Int.emod_nonneg n (show m ≠ 0 by omega)
    have h6 := Int.emod_lt_of_pos n (show 0 < m by omega)
    go_enter Try.func108, Try.ntmps108
    go_wp2
    go_ret
    exact ⟨rfl, rfl⟩
  · obtain ⟨r, a1, a2, a3, a4, a5⟩ := rem_neg m n (by omega) (by omega)
    have H4 := Lib.hid a4
    clear a4 a5
    by_cases hr : r = 0
    · subst hr
      go_enter Try.func108, Try.ntmps108
      go_wp2
      go_ret
      exact ⟨ret_int (by rw [H4.out]; simp), rfl⟩
    · have hr' : 0 < r := by omega
      clear hr
      go_enter Try.func108, Try.ntmps108
      go_wp2
      go_ret
      exact ⟨ret_int (by rw [H4.out, if_neg (by omega)]; omega), rfl⟩

/-- the program's list while the inverse is made -/
def ivL (m u : Int) (a : Nat → Int) (d n : Nat) : List Int := Ser.invC m u a n ++ List.replicate (d - n) 0
theorem ivL_len (m u : Int) (a : Nat → Int) (d n : Nat) (h : n ≤ d) : (ivL m u a d n).length = d + 1 := by
  unfold ivL; rw [List.length_append, Ser.invC_length, List.length_replicate]; omega
theorem ivL_red {m u : Int} (hm : 0 < m) (h1 : 0 ≤ u) (h2 : u < m) (a : Nat → Int) (d n : Nat) : Ser.Red m (ivL m u a d n) := by
  intro i
  unfold ivL
  rw [Ser.co_pad]
  exact Ser.invC_red hm h1 h2 a n i
theorem ivL_zero {m u : Int} (h1 : 0 ≤ u) (h2 : u < m) (a : Nat → Int) (d : Nat) : Ser.cut m d (Ser.mon 0 u) = ivL m u a d 0 := by
  refine Ser.list_ext (by rw [Ser.cut_length, ivL_len _ _ _ _ _ (Nat.zero_le _)]) (fun i hi => ?_)
  rw [Ser.cut_length] at hi
  unfold ivL
  rw [Ser.co_pad, Ser.co_cut (by omega)]
  unfold Ser.mon
  cases i with
  | zero => rw [if_pos rfl, Int.emod_eq_of_lt h1 h2]; rfl
  | succ i => rw [if_neg (by omega), Int.zero_emod, Ser.co_over (by simp [Ser.invC])]
theorem ivL_step (m u : Int) (a : Nat → Int) (d n : Nat) (h : n + 1 ≤ d) : (ivL m u a d n).set (n + 1) ((-u * Ser.cv (n + 1) a (Ser.co (ivL m u a d n))) % m) = ivL m u a d (n + 1) := by
  have e : Ser.co (ivL m u a d n) = Ser.co (Ser.invC m u a n) := by unfold ivL; rw [Ser.co_pad]
  rw [e]
  unfold ivL
  rw [List.set_append_right _ _ (by rw [Ser.invC_length]; omega), Ser.invC_length, Nat.sub_self, show d - n = (d - (n + 1)) + 1 by omega, List.replicate_succ, List.set_cons_zero, Ser.invC, List.append_assoc]
  rfl
theorem ivL_all (m u : Int) (a : Nat → Int) (d : Nat) : ivL m u a d d = Ser.invC m u a d := by unfold ivL; rw [Nat.sub_self]; simp

theorem Box.set1 {w : World} {g : Nat} {m : Int} {A : Option Addr} {n c : Nat} (h : Box w g m A n c) (b i : Nat) (x : Value) (hne : b ≠ g) : Box (w.setCell ⟨b, i, none⟩ x) g m A n c := by
  refine ⟨?_, ?_, by simpa [World.setCell] using h.2.2⟩
  · rw [World.cell?_setCell_other _ _ _ _ (by intro e; injection e with e; exact hne e)]; exact h.1
  · rw [World.cell?_setCell_other _ _ _ _ (by intro e; injection e with e; exact hne e)]; exact h.2.1
theorem box22_set {w : World} {g g' b i : Nat} {m m' : Int} {A A' : Option Addr} {n c n' c' : Nat} {x : Value} (hne : b ≠ g) (hne' : b ≠ g')
    (h : (w.cell? ⟨g, 0, none⟩ = some (.int .i64 m) ∧ w.cell? ⟨g, 1, none⟩ = some (.slice A n c) ∧ g < w.heap.size) ∧ (w.cell? ⟨g', 0, none⟩ = some (.int .i64 m') ∧ w.cell? ⟨g', 1, none⟩ = some (.slice A' n' c') ∧ g' < w.heap.size)) :
    ((w.setCell ⟨b, i, none⟩ x).cell? ⟨g, 0, none⟩ = some (.int .i64 m) ∧ (w.setCell ⟨b, i, none⟩ x).cell? ⟨g, 1, none⟩ = some (.slice A n c) ∧ g < (w.setCell ⟨b, i, none⟩ x).heap.size) ∧
    ((w.setCell ⟨b, i, none⟩ x).cell? ⟨g', 0, none⟩ = some (.int .i64 m') ∧ (w.setCell ⟨b, i, none⟩ x).cell? ⟨g', 1, none⟩ = some (.slice A' n' c') ∧ g' < (w.setCell ⟨b, i, none⟩ x).heap.size) := by
  refine ⟨⟨?_, ?_, by simpa [World.setCell] using h.1.2.2⟩, ⟨?_, ?_, by simpa [World.setCell] using h.2.2.2⟩⟩
  · rw [World.cell?_setCell_other _ _ _ _ (by intro e; injection e with e; exact hne e)]; exact h.1.1
  · rw [World.cell?_setCell_other _ _ _ _ (by intro e; injection e with e; exact hne e)]; exact h.1.2.1
  · rw [World.cell?_setCell_other _ _ _ _ (by intro e; injection e with e; exact hne' e)]; exact h.2.1
  · rw [World.cell?_setCell_other _ _ _ _ (by intro e; injection e with e; exact hne' e)]; exact h.2.2.1
/-! a box and one number of its list, across a call -/
theorem bc_call {w w' : World} {g : Nat} {m : Int} {A : Option Addr} {n c b o : Nat} {x : Value} (hb : Below w.heap.size w w')
    (h : (w.cell? ⟨g, 0, none⟩ = some (.int .i64 m) ∧ w.cell? ⟨g, 1, none⟩ = some (.slice A n c) ∧ g < w.heap.size) ∧ (w.cell? ⟨b, o, none⟩ = some x ∧ b < w.heap.size)) :
    (w'.cell? ⟨g, 0, none⟩ = some (.int .i64 m) ∧ w'.cell? ⟨g, 1, none⟩ = some (.slice A n c) ∧ g < w'.heap.size) ∧ (w'.cell? ⟨b, o, none⟩ = some x ∧ b < w'.heap.size) :=
  ⟨box_call hb h.1, (hb.cell (p := ⟨b, o, none⟩) h.2.2).trans h.2.1, Nat.lt_of_lt_of_le h.2.2 hb.size⟩

def ivsM (m : Int) (l : List Int) : Int × List Int × Int :=
  if isS m l = true then (if gcdI (Ser.co l 0) m = 1 then (m, Ser.invC m (egI m (Ser.co l 0)).2 (Ser.co l) (l.length - 1), 0) else (0, [], 5)) else (0, [], 1)
theorem ivsM_len (m : Int) (l : List Int) : (ivsM m l).2.1.length ≤ 1048576 := by
  unfold ivsM
  split
  · rename_i h
    obtain ⟨d, e, s⟩ := serOk_of h
    have := s.d2
    split
    · dsimp only; rw [Ser.invC_length]; omega
    · simp
  · simp
end Go.Proofs.Ytlpfifdocgljnac

/- Contracts of equations as arrays. -/
namespace Go.Proofs.Ytlpfifdocgljnac
open Go.RowKit Go.WideShapes Go.ChangeShapes Go.ChangeAt

/-- an equation's cells -/
def arrE (l : List Int) : Array Value := (l.map (Value.int .i64)).toArray
theorem arrE_at {l : List Int} {k : Nat} (h : k < l.length) : (arrE l)[k]? = some (.int .i64 (Ser.co l k)) := by
  unfold arrE Ser.co
  rw [List.getElem?_toArray, List.getElem?_map, List.getElem?_eq_getElem h]
  rfl
theorem arrE_size (l : List Int) : (arrE l).size = l.length := by simp [arrE]
set_option maxHeartbeats 1000000 in
theorem eqLast_any (m : Int) (e : List Int) (w : World) (h : Sys.Ok m e) :
    Calls Try.prog 127 #[.agg (arrE e)] w fun r w' => r = .returned (.int .i64 (Sys.lastE e)) ∧ Below w.heap.size w w' := by
  obtain ⟨W, hW⟩ : ∃ W, w.alloc (.cells (arrE e) 96) = W := ⟨_, rfl⟩
  have hv : VarC 96 W w.heap.size (arrE e) := by rw [← hW]; exact VarC.new _ _ _
  have HB := Lib.hid (show Below w.heap.size w W by rw [← hW]; exact below_one _ _)
  have HV := Lib.hid hv
  have HW := Lib.hid hW
  have HL := Lib.hid h.len
  have HF : Hid (∀ k, Sys.lastF e (k + 1) = if Ser.co e (k + 1) = 0 then Sys.lastF e k else k + 1) := Lib.hid (fun k => rfl)
  have HE : Hid (Sys.lastE e = Sys.lastF e 10) := Lib.hid rfl
  obtain ⟨cs, hcs⟩ : ∃ cs, arrE e = cs := ⟨_, rfl⟩
  rw [hcs] at HW ⊢
  clear hv hW
  go_enter Try.func127, Try.ntmps127
  go_wp2
  rw [HW.out]
  go_loopw [3] (fun i wr => ∃ k : Nat, k ≤ 10 ∧ i = .int .i64 k ∧ Sys.lastE e = Sys.lastF e k ∧ wr = W) (fun i _ => (intOf i).toNat)
  case atStart => exact ⟨10, Nat.le_refl _, rfl, HE.out, rfl⟩
  case round =>
    obtain ⟨k, hk, rfl, hl, rfl⟩ := hrel
    by_cases h0 : k = 0
    · subst h0
      have HR := Lib.hid hl
      clear hl
      go_wp2
      go_ret
      exact ⟨by rw [HR.out]; rfl, HB.out⟩
    · obtain ⟨q, hq⟩ : ∃ q, k = q + 1 := ⟨k - 1, by omega⟩
      have hc := HV.out.cell k _ (arrE_at (by rw [HL.out]; omega))
      have hf := HF.out q
      rw [← hq] at hf
      have j1 : (0 : Int) < (k : Int) := by omega
      have j2 : (k : Int) < 11 := by omega
      have j3 : (0 : Int) ≤ (k : Int) := by omega
      have hqk : q ≤ 10 ∧ (k : Int) - 1 = (q : Int) ∧ q < k := by omega
      obtain ⟨q1, q2, q3⟩ := hqk
      obtain ⟨X, hX⟩ : ∃ X, Ser.co e k = X := ⟨_, rfl⟩
      rw [hX] at hc hf
      have hL := Lib.hid hl
      clear hX hl hq h0
      by_cases hx : X = 0
      · rw [if_pos hx] at hf
        subst hx
        have Hf := Lib.hid hf
        clear hf
        go_wp2
        go_roundw
        case rel => exact ⟨q, q1, rfl, by rw [hL.out, Hf.out], by trivial⟩
        case measure => simp only [intOf]; omega
      · rw [if_neg hx] at hf
        obtain ⟨k1, k2⟩ := ne_facts hx
        have Hf := Lib.hid hf
        clear hf
        go_wp2
        go_ret
        exact ⟨by rw [hL.out, Hf.out]; rfl, HB.out⟩
/-! a whole equation out of and into its variable -/
section
theorem info_eqn : (Try.prog.info? 96).map (·.size) = some 11 := by kernel_rfl
theorem VarC.loadE {w : World} {g : Nat} {cs : Array Value} {T : TypeId} (h : VarC T w g cs) (hs : cs.size = 11) :
    (Instr.loadAt 96 (.pointer (some ⟨g, 0, none⟩))).run Try.prog w = .ok (.agg cs) w := by
  simp only [Instr.loadAt, Instr.sureAddr, Sem.run_bind, Sem.run_pure, Result.andThen]
  exact run_loadVar_row w g T 96 cs (0, 0) _ h Try.underlying96 rfl (by rw [hs]; exact info_eqn)
theorem VarC.storeE {w : World} {g : Nat} {cs cs' : Array Value} {T : TypeId} (h : VarC T w g cs) (hs : cs.size = 11) (hs' : cs'.size = 11) (h1 : cs'.all (·.oneCell') = true) :
    (Instr.storeAt 96 (.pointer (some ⟨g, 0, none⟩)) (.agg cs')).run Try.prog w = .ok () (w.setRow g cs') := by
  simp only [Instr.storeAt, Instr.sureAddr, Sem.run_bind, Sem.run_pure, Result.andThen]
  exact run_storeVar_row w g T 96 cs cs' h (by rw [hs']; exact info_eqn) (by rw [hs, hs']) h1
theorem VarC.cellsE {w : World} {g : Nat} {cs : Array Value} {T : TypeId} (h : VarC T w g cs) (hs : cs.size = 11) :
    (loadCellsFrom ⟨g, 0, none⟩ 0 11 #[]).run Try.prog w = .ok cs w := by
  have := run_loadCells_list (P := Try.prog) w ⟨g, 0, none⟩ cs.toList (fun j v hv => by
    have hadd : (⟨g, 0, none⟩ : Addr).add j = ⟨g, j, none⟩ := by unfold Addr.add; split <;> simp_all
    rw [hadd]
    exact h.cell j v (by simpa using hv))
  rw [← hs]
  simpa [loadCells] using this
theorem VarC.putE {w : World} {g : Nat} {cs cs' : Array Value} {T : TypeId} (h : VarC T w g cs) (hs : cs.size = 11) (hs' : cs'.size = 11) (h1 : cs'.all (·.oneCell') = true) :
    (storeCells ⟨g, 0, none⟩ cs'.toList 0).run Try.prog w = .ok () (w.setRow g cs') := by
  have := run_storeVar_row (P := Try.prog) w g T 96 cs cs' h (by rw [hs']; exact info_eqn) (by rw [hs, hs']) h1
  cases hq : Try.prog.info? 96 with
  | none => have := info_eqn; simp [hq] at this
  | some i =>
    have hi := info_eqn
    have hs2 : cs'.size = i.size := by simp [hq] at hi; omega
    simpa [storeVar, sizeOf, typeInfo, hq, Value.cells, hs2] using this
theorem VarC.varE {w : World} {g : Nat} {cs : Array Value} {T : TypeId} (h : VarC T w g cs) (hs : cs.size = 11) : (loadVar 96 ⟨g, 0, none⟩).run Try.prog w = .ok (.agg cs) w :=
  run_loadVar_row w g T 96 cs (0, 0) _ h Try.underlying96 rfl (by rw [hs]; exact info_eqn)
/-- a whole equation is loaded, in a plain region -/
theorem wpL_loadE {ops : Array Oper} {rest : List Oper} {op : Oper} {a : Act} {w : World} {Q : Exit → Act → World → Prop} (hgd : op.guard = none) (x : Operand) (ho : op.op = .load 96 x)
    (g : Nat) (cs : Array Value) (T : TypeId) (hx : a.eval x = .pointer (some ⟨g, 0, none⟩)) (hv : VarC T w g cs) (hs : cs.size = 11)
    (h : wpList Try.prog ops Q rest (a.put op.dst (.agg cs)) w) : wpList Try.prog ops Q (op :: rest) a w :=
  wpList_plain hgd fun _ hK => by
    unfold Oper.wp execOp
    simp only [ho, hx, Sem.run_bind, hv.loadE hs, Result.andThen_ok, Sem.run_pure]
    exact hK _ _ h
/-- a whole equation is stored, in a plain region -/
theorem wpL_storeE {ops : Array Oper} {rest : List Oper} {op : Oper} {a : Act} {w : World} {Q : Exit → Act → World → Prop} (hgd : op.guard = none) (x y : Operand) (ho : op.op = .store 96 x y)
    (g : Nat) (cs cs' : Array Value) (T : TypeId) (hx : a.eval x = .pointer (some ⟨g, 0, none⟩)) (hy : a.eval y = .agg cs') (hv : VarC T w g cs) (hs : cs.size = 11) (hs' : cs'.size = 11) (h1 : cs'.all (·.oneCell') = true)
    (h : wpList Try.prog ops Q rest (a.put op.dst undef) (w.setRow g cs')) : wpList Try.prog ops Q (op :: rest) a w :=
  wpList_plain hgd fun _ hK => by
    unfold Oper.wp execOp
    simp only [ho, hx, hy, Sem.run_bind, hv.storeE hs hs' h1, Result.andThen_ok, Sem.run_pure]
    exact hK _ _ h
theorem VarC.setRow {w : World} {g : Nat} {cs cs' : Array Value} {T : TypeId} (h : VarC T w g cs) : VarC T (w.setRow g cs') g cs' := setRow_heap w g cs cs' T (0, 0) h
theorem VarC.setRow_ne {w : World} {g g' : Nat} {cs cs' : Array Value} {T : TypeId} (h : VarC T w g cs) (hne : g ≠ g') : VarC T (w.setRow g' cs') g cs := (setRow_other w g' g cs' hne).trans h
theorem arrE_one (l : List Int) : (arrE l).all (·.oneCell') = true := by
  unfold arrE
  rw [Array.all_eq_true_iff_forall_mem]
  intro v hv
  simp at hv
  obtain ⟨x, -, rfl⟩ := hv
  rfl
theorem arrE_set (l : List Int) (k : Nat) (x : Int) : (arrE l).setIfInBounds k (.int .i64 x) = arrE (l.set k x) := by
  unfold arrE
  rw [List.setIfInBounds_toArray, List.map_set]
end
/-- the first k numbers of an equation lessened -/
def lessP (m q : Int) (e f : List Int) (k : Nat) : List Int := (List.range 11).map fun i => if i < k then (Ser.co e i - q * Ser.co f i) % m else Ser.co e i
theorem lessP_len (m q : Int) (e f : List Int) (k : Nat) : (lessP m q e f k).length = 11 := by simp [lessP]
theorem lessP_co {m q : Int} {e f : List Int} {k i : Nat} (h : i ≤ 10) : Ser.co (lessP m q e f k) i = if i < k then (Ser.co e i - q * Ser.co f i) % m else Ser.co e i := by
  unfold Ser.co lessP
  rw [List.getElem?_map, List.getElem?_range (by omega)]; rfl
theorem lessP_zero {m : Int} {e : List Int} (h : e.length = 11) (q : Int) (f : List Int) : lessP m q e f 0 = e := by
  refine Ser.list_ext (by rw [lessP_len, h]) (fun i hi => ?_)
  rw [lessP_len] at hi
  rw [lessP_co (by omega), if_neg (by omega)]
theorem lessP_end (m q : Int) (e f : List Int) : lessP m q e f 11 = Sys.lessE m q e f := by
  refine Ser.list_ext (by rw [lessP_len]; unfold Sys.lessE; rw [Ser.cut_length]) (fun i hi => ?_)
  rw [lessP_len] at hi
  unfold Sys.lessE
  rw [lessP_co (by omega), if_pos (by omega), Ser.co_cut (by omega)]
theorem lessP_step {m q : Int} {e f : List Int} {k : Nat} (h : k ≤ 10) : (lessP m q e f k).set k ((Ser.co e k - q * Ser.co f k) % m) = lessP m q e f (k + 1) := by
  refine Ser.list_ext (by rw [List.length_set, lessP_len, lessP_len]) (fun i hi => ?_)
  rw [List.length_set, lessP_len] at hi
  rw [Ser.co_set (by rw [lessP_len]; omega), lessP_co (by omega), lessP_co (by omega)]
  by_cases e : i = k
  · rw [if_pos e, if_pos (by omega), e]
  · rw [if_neg e]
    by_cases c : i < k
    · rw [if_pos c, if_pos (by omega)]
    · rw [if_neg c, if_neg (by omega)]
set_option maxHeartbeats 4000000 in
set_option maxRecDepth 100000 in
theorem eqLess_any (m q : Int) (e f : List Int) (w : World) (m1 : 2 ≤ m) (m2 : m ≤ 10000) (q1 : -10000 ≤ q) (q2 : q ≤ 10000) (he : e.length = 11) (hf : f.length = 11) (he2 : ∀ i, -10000 ≤ Ser.co e i ∧ Ser.co e i ≤ 10000) (hf2 : ∀ i, -10000 ≤ Ser.co f i ∧ Ser.co f i ≤ 10000) :
    Calls Try.prog 115 #[.agg (arrE e), .int .i64 m, .int .i64 q, .agg (arrE f)] w fun r w' => r = .returned (.agg (arrE (Sys.lessE m q e f))) ∧ Below w.heap.size w w' := by
  obtain ⟨Z, hZ⟩ : ∃ Z : Array Value, Z = #[.int .i64 0, .int .i64 0, .int .i64 0, .int .i64 0, .int .i64 0, .int .i64 0, .int .i64 0, .int .i64 0, .int .i64 0, .int .i64 0, .int .i64 0] := ⟨_, rfl⟩
  obtain ⟨W, hW⟩ : ∃ W, ((w.alloc (.cells (arrE e) 96)).alloc (.cells (arrE f) 96)).alloc (.cells Z 96) = W := ⟨_, rfl⟩
  have v1 : VarC 96 W w.heap.size (arrE e) := by rw [← hW]; exact ((VarC.new _ _ _).keep (below_one _ _)).keep (below_one _ _)
  have v2 : VarC 96 W (w.heap.size + 1) (arrE f) := by
    rw [← hW]
    have := (VarC.new 96 (w.alloc (.cells (arrE e) 96)) (arrE f)).keep (below_one _ (.cells Z 96))
    simpa using this
  have v3 : VarC 96 W (w.heap.size + 1 + 1) Z := by
    rw [← hW]
    have := VarC.new 96 ((w.alloc (.cells (arrE e) 96)).alloc (.cells (arrE f) 96)) Z
    simpa using this
  have HB := Lib.hid (show Below w.heap.size w W by rw [← hW]; exact below_alloc _ (below_alloc _ (below_one _ _)))
  have V1 := Lib.hid v1
  have V2 := Lib.hid v2
  have V3 := Lib.hid v3
  have hZs : Z.size = 11 := by rw [hZ]; rfl
  have HZ := Lib.hid hZs
  rw [hZ] at hW
  have HW := Lib.hid hW
  have HE := Lib.hid he
  have HFL := Lib.hid hf
  clear v1 v2 v3 hW hZ hZs
  obtain ⟨ce, hce⟩ : ∃ c, arrE e = c := ⟨_, rfl⟩
  obtain ⟨cf, hcf⟩ : ∃ c, arrE f = c := ⟨_, rfl⟩
  have HR := Lib.hid (show VarC 96 W w.heap.size (arrE (lessP m q e f 0)) by rw [lessP_zero he]; exact V1.out)
  rw [hce, hcf] at HW
  rw [hce, hcf]
  clear hce he hf
  go_enter Try.func115, Try.ntmps115
  go_wp2
  rw [HW.out]
  go_loopw [9, 10] (fun _ i wr => ∃ k : Nat, k ≤ 11 ∧ i = .int .i64 k ∧ VarC 96 wr w.heap.size (arrE (lessP m q e f k)) ∧ VarC 96 wr (w.heap.size + 1) (arrE f) ∧ VarC 96 wr (w.heap.size + 1 + 1) Z ∧ Below w.heap.size w wr) (fun _ i _ => 11 - (intOf i).toNat)
  case atStart => exact ⟨0, Nat.zero_le _, rfl, HR.out, V2.out, V3.out, HB.out⟩
  case round =>
    obtain ⟨k, hk, rfl, v1, v2, v3, hb⟩ := hrel
    have VV1 := Lib.hid v1
    have VV2 := Lib.hid v2
    have VV3 := Lib.hid v3
    have HBB := Lib.hid hb
    clear v1 v2 v3 hb HR V1 V2 V3
    by_cases hlt : k < 11
    · have j1 : (0 : Int) ≤ (k : Int) := by omega
      have j2 : (k : Int) < 11 := by omega
      have hst := lessP_step (m := m) (q := q) (e := e) (f := f) (k := k) (by omega)
      have c1 := VV1.out.cell k _ (arrE_at (by rw [lessP_len]; omega))
      rw [lessP_co (by omega), if_neg (by omega)] at c1
      have c2 := VV2.out.cell k _ (arrE_at (by rw [HFL.out]; omega))
      have bx := he2 k
      have bY := hf2 k
      obtain ⟨X, hX⟩ : ∃ X, Ser.co e k = X := ⟨_, rfl⟩
      obtain ⟨Y, hY⟩ : ∃ Y, Ser.co f k = Y := ⟨_, rfl⟩
      rw [hX, hY] at hst
      rw [hX] at c1 bx
      rw [hY] at c2 bY
      have hq : -100000000 ≤ q * Y ∧ q * Y ≤ 100000000 := by
        have a1 := Int.natAbs_mul q Y
        have a2 : q.natAbs * Y.natAbs ≤ 10000 * 10000 := Nat.mul_le_mul (by omega) (by omega)
        omega
      obtain ⟨P, hP⟩ : ∃ P, q * Y = P := ⟨_, rfl⟩
      rw [hP] at hq hst
      have hw1 : IntKind.i64.wrap (q * Y) = P := by rw [hP, IntKind.wrap_i64]; omega
      obtain ⟨D, hD⟩ : ∃ D, X - P = D := ⟨_, rfl⟩
      rw [hD] at hst
      have hw2 : IntKind.i64.wrap (X - P) = D := by rw [hD, IntKind.wrap_i64]; omega
      have HRM := Lib.hid (fun W0 => remainder_any m D W0 (by omega) m2 (by omega) (by omega))
      obtain ⟨R, hR⟩ : ∃ R, D % m = R := ⟨_, rfl⟩
      rw [hR] at hst HRM
      have fz := VV1.out.fz k
      have h1 := VV1.out.set k (.int .i64 R)
      rw [arrE_set, hst] at h1
      have H1 := Lib.hid (show VarC 96 (wr.drew.setCell ⟨w.heap.size, k, none⟩ (.int .i64 R)) w.heap.size (arrE (lessP m q e f (k + 1))) from h1)
      have H2 := Lib.hid (show VarC 96 (wr.drew.setCell ⟨w.heap.size, k, none⟩ (.int .i64 R)) (w.heap.size + 1) (arrE f) from VV2.out.drew.far _ _ _ (by omega))
      have H3 := Lib.hid (show VarC 96 (wr.drew.setCell ⟨w.heap.size, k, none⟩ (.int .i64 R)) (w.heap.size + 1 + 1) Z from VV3.out.drew.far _ _ _ (by omega))
      have H4 := Lib.hid (show Below w.heap.size w (wr.drew.setCell ⟨w.heap.size, k, none⟩ (.int .i64 R)) from (below_step HBB.out (below_drew0 wr)).setCell (Nat.le_refl _) _)
      have HS0 : Hid (wr.drew.cell? ⟨w.heap.size, k, none⟩ = some (.int .i64 X) ∧ wr.drew.cell? ⟨w.heap.size + 1, k, none⟩ = some (.int .i64 Y)) := Lib.hid ⟨c1, c2⟩
      have d1 := HS0.out.1
      have fz2 : wr.drew.frozen? ⟨w.heap.size, k, none⟩ = false := fz
      clear hst hX hY hP hD hR h1 c1 c2 fz bx bY hq
      go_upto_region 4 with fail
      refine region_till (fun w' => w'.cell? ⟨w.heap.size, k, none⟩ = some (.int .i64 X) ∧ w'.cell? ⟨w.heap.size + 1, k, none⟩ = some (.int .i64 Y)) 13 (by kernel_rfl) ?_
      refine till_take (i := 0) (dst := some 13) (.int .i64 k) rfl rfl (by kernel_rfl) (by kernel_rfl) (by kernel_rfl) (by kernel_rfl) (fun _ _ _ h => h) (Or.inl ⟨by rfl, ?_⟩) HS0.out ?_
      · rintro w' ⟨a1, a2⟩
        go_simp
      simp only [Act.put, List.setIfInBounds_toArray, List.set_cons_zero, List.set_cons_succ]
      refine till_take (i := 1) (dst := some 14) (.int .i64 m) rfl rfl (by kernel_rfl) (by kernel_rfl) (by kernel_rfl) (by kernel_rfl) (fun _ _ _ h => h) (Or.inl ⟨by rfl, ?_⟩) HS0.out ?_
      · rintro w' ⟨a1, a2⟩
        go_simp
      simp only [Act.put, List.setIfInBounds_toArray, List.set_cons_zero, List.set_cons_succ]
      refine till_take (i := 2) (dst := some 15) (.int .i64 k) rfl rfl (by kernel_rfl) (by kernel_rfl) (by kernel_rfl) (by kernel_rfl) (fun _ _ _ h => h) (Or.inl ⟨by rfl, ?_⟩) HS0.out ?_
      · rintro w' ⟨a1, a2⟩
        go_simp
      simp only [Act.put, List.setIfInBounds_toArray, List.set_cons_zero, List.set_cons_succ]
      refine till_take (i := 3) (dst := some 16) (.pointer (some ⟨w.heap.size, k, none⟩)) rfl rfl (by kernel_rfl) (by kernel_rfl) (by kernel_rfl) (by kernel_rfl) (fun _ _ _ h => h) (Or.inl ⟨by rfl, ?_⟩) HS0.out ?_
      · rintro w' ⟨a1, a2⟩
        go_simp
      simp only [Act.put, List.setIfInBounds_toArray, List.set_cons_zero, List.set_cons_succ]
      refine till_take (i := 4) (dst := some 17) (.int .i64 X) rfl rfl (by kernel_rfl) (by kernel_rfl) (by kernel_rfl) (by kernel_rfl) (fun _ _ _ h => h) (Or.inl ⟨by rfl, ?_⟩) HS0.out ?_
      · rintro w' ⟨a1, a2⟩
        go_simp
      simp only [Act.put, List.setIfInBounds_toArray, List.set_cons_zero, List.set_cons_succ]
      refine till_take (i := 5) (dst := some 18) (.int .i64 q) rfl rfl (by kernel_rfl) (by kernel_rfl) (by kernel_rfl) (by kernel_rfl) (fun _ _ _ h => h) (Or.inl ⟨by rfl, ?_⟩) HS0.out ?_
      · rintro w' ⟨a1, a2⟩
        go_simp
      simp only [Act.put, List.setIfInBounds_toArray, List.set_cons_zero, List.set_cons_succ]
      refine till_take (i := 6) (dst := some 19) (.int .i64 k) rfl rfl (by kernel_rfl) (by kernel_rfl) (by kernel_rfl) (by kernel_rfl) (fun _ _ _ h => h) (Or.inl ⟨by rfl, ?_⟩) HS0.out ?_
      · rintro w' ⟨a1, a2⟩
        go_simp
      simp only [Act.put, List.setIfInBounds_toArray, List.set_cons_zero, List.set_cons_succ]
      refine till_take (i := 7) (dst := some 20) (.pointer (some ⟨w.heap.size + 1, k, none⟩)) rfl rfl (by kernel_rfl) (by kernel_rfl) (by kernel_rfl) (by kernel_rfl) (fun _ _ _ h => h) (Or.inl ⟨by rfl, ?_⟩) HS0.out ?_
      · rintro w' ⟨a1, a2⟩
        go_simp
      simp only [Act.put, List.setIfInBounds_toArray, List.set_cons_zero, List.set_cons_succ]
      refine till_take (i := 8) (dst := some 21) (.int .i64 Y) rfl rfl (by kernel_rfl) (by kernel_rfl) (by kernel_rfl) (by kernel_rfl) (fun _ _ _ h => h) (Or.inl ⟨by rfl, ?_⟩) HS0.out ?_
      · rintro w' ⟨a1, a2⟩
        go_simp
      simp only [Act.put, List.setIfInBounds_toArray, List.set_cons_zero, List.set_cons_succ]
      refine till_take (i := 9) (dst := some 22) (.int .i64 P) rfl rfl (by kernel_rfl) (by kernel_rfl) (by kernel_rfl) (by kernel_rfl) (fun _ _ _ h => h) (Or.inl ⟨by rfl, ?_⟩) HS0.out ?_
      · rintro w' ⟨a1, a2⟩
        go_simp
      simp only [Act.put, List.setIfInBounds_toArray, List.set_cons_zero, List.set_cons_succ]
      refine till_take (i := 10) (dst := some 23) (.int .i64 D) rfl rfl (by kernel_rfl) (by kernel_rfl) (by kernel_rfl) (by kernel_rfl) (fun _ _ _ h => h) (Or.inl ⟨by rfl, ?_⟩) HS0.out ?_
      · rintro w' ⟨a1, a2⟩
        go_simp
      simp only [Act.put, List.setIfInBounds_toArray, List.set_cons_zero, List.set_cons_succ]
      refine till_one (i := 11) (by kernel_rfl) rfl (fun K hK => ?_)
      go_simp
      (go_at_call 108; with_reducible refine Calls.mono (HRM.out _) ?_; rintro e w5 ⟨rfl, rfl⟩)
      dsimp only
      refine hK.out _ _ (fun _ => HS0.out) ?_
      clear hK K
      try simp only [Act.put, List.setIfInBounds_toArray, List.set_cons_zero, List.set_cons_succ]
      refine till_one (i := 12) (by kernel_rfl) rfl (fun K hK => ?_)
      go_simp
      try dsimp only
      refine hK.out _ _ (fun _ => HS0.out) ?_
      clear hK K
      try simp only [Act.put, List.setIfInBounds_toArray, List.set_cons_zero, List.set_cons_succ]
      refine till_one (i := 13) (by kernel_rfl) rfl (fun K hK => ?_)
      go_simp
      refine hK.out _ _ (fun hne => absurd rfl hne) ?_
      clear hK K
      refine till_done (by kernel_rfl) ?_
      go_wp2
      go_roundw
      case rel => exact ⟨k + 1, by omega, by go_num, H1.out, H2.out, H3.out, H4.out⟩
      case measure => simp only [intOf]; omega
    · obtain rfl : k = 11 := by omega
      have j2 : ¬ ((11 : Nat) : Int) < 11 := by omega
      have v1 := VV1.out
      rw [lessP_end] at v1
      obtain ⟨R, hR⟩ : ∃ R, Sys.lessE m q e f = R := ⟨_, rfl⟩
      have hRl : R.length = 11 := by rw [← hR]; unfold Sys.lessE; rw [Ser.cut_length]
      rw [hR] at v1
      have HRR := Lib.hid hR
      have hs1 : (arrE R).size = 11 := by rw [arrE_size, hRl]
      have ho1 := arrE_one R
      obtain ⟨cR, hcR⟩ : ∃ c, arrE R = c := ⟨_, rfl⟩
      rw [hcR] at v1 hs1 ho1
      have HCR := Lib.hid hcR
      have VR := Lib.hid v1
      have HS1 := Lib.hid hs1
      have HO1 := Lib.hid ho1
      have V4 := Lib.hid (show VarC 96 (wr.setRow (w.heap.size + 1 + 1) cR) (w.heap.size + 1 + 1) cR from VV3.out.setRow)
      have HB9 := Lib.hid (below_setRow HBB.out (show w.heap.size ≤ w.heap.size + 1 + 1 by omega) cR)
      clear v1 hR hRl hcR hs1 ho1
      go_upto_region 6 with fail
      refine wp_region_list ?_
      refine wpL_loadE rfl _ rfl _ cR _ rfl VR.out HS1.out ?_
      refine wpL_storeE rfl _ _ rfl _ Z cR _ rfl rfl VV3.out HZ.out HS1.out HO1.out ?_
      go_wp2
      refine bodyPost_ret (v := .agg cR) (by simp [results, Try.results115, asAddr, V4.out.varE HS1.out]) rfl ⟨by rw [← HCR.out, HRR.out], HB9.out⟩
set_option maxHeartbeats 4000000 in
set_option maxRecDepth 100000 in
theorem eqTimes_any (m q : Int) (e : List Int) (w : World) (m1 : 2 ≤ m) (m2 : m ≤ 10000) (q1 : -10000 ≤ q) (q2 : q ≤ 10000) (he : e.length = 11) (he2 : ∀ i, -10000 ≤ Ser.co e i ∧ Ser.co e i ≤ 10000) :
    Calls Try.prog 81 #[.agg (arrE e), .int .i64 m, .int .i64 q] w fun r w' => r = .returned (.agg (arrE (Sys.timesE m q e))) ∧ Below w.heap.size w w' := by
  obtain ⟨Z, hZ⟩ : ∃ Z : Array Value, Z = #[.int .i64 0, .int .i64 0, .int .i64 0, .int .i64 0, .int .i64 0, .int .i64 0, .int .i64 0, .int .i64 0, .int .i64 0, .int .i64 0, .int .i64 0] := ⟨_, rfl⟩
  obtain ⟨W, hW⟩ : ∃ W, (w.alloc (.cells (arrE e) 96)).alloc (.cells Z 96) = W := ⟨_, rfl⟩
  have v1 : VarC 96 W w.heap.size (arrE e) := by rw [← hW]; exact (VarC.new _ _ _).keep (below_one _ _)
  have v2 : VarC 96 W (w.heap.size + 1) Z := by
    rw [← hW]
    have := VarC.new 96 (w.alloc (.cells (arrE e) 96)) Z
    simpa using this
  have HB := Lib.hid (show Below w.heap.size w W by rw [← hW]; exact below_alloc _ (below_one _ _))
  have V1 := Lib.hid v1
  have V2 := Lib.hid v2
  have hZs : Z.size = 11 := by rw [hZ]; rfl
  have HZ := Lib.hid hZs
  have hz0 : Z = arrE (List.replicate 11 0) := by rw [hZ]; rfl
  have HL := Lib.hid (eqLess_any m (-q) (List.replicate 11 0) e W m1 m2 (by omega) (by omega) (by simp) he (fun i => by rw [Ser.co_zeros]; omega) he2)
  rw [← hz0, hZ] at HL
  have hte : Sys.lessE m (-q) (List.replicate 11 0) e = Sys.timesE m q e := Ser.cut_congr (Ser.Eq.of m 10 (fun k _ => by rw [Ser.co_zeros]; congr 1; rw [Int.neg_mul]; omega))
  rw [hte] at HL
  rw [hZ] at hW
  have HW := Lib.hid hW
  have hse : (arrE e).size = 11 := by rw [arrE_size, he]
  have HSE := Lib.hid hse
  have hsr : (arrE (Sys.timesE m q e)).size = 11 := by rw [arrE_size]; unfold Sys.timesE; rw [Ser.cut_length]
  have HSR := Lib.hid hsr
  have HOR := Lib.hid (arrE_one (Sys.timesE m q e))
  obtain ⟨ce, hce⟩ : ∃ c, arrE e = c := ⟨_, rfl⟩
  obtain ⟨cr, hcr⟩ : ∃ c, arrE (Sys.timesE m q e) = c := ⟨_, rfl⟩
  rw [hce] at HW HL V1 HSE
  rw [hcr] at HL HSR HOR
  rw [hce, hcr]
  have w1 : IntKind.i64.wrap (-q) = -q := by rw [IntKind.wrap_i64]; omega
  clear v1 v2 hW hz0 hse hsr hce hcr hte he he2 hZ hZs
  go_enter Try.func81, Try.ntmps81
  go_upto_region 1 with fail
  rw [HW.out]
  go_wp2_with (first
    | (refine wpL_loadE rfl _ rfl _ ce _ rfl V1.out HSE.out ?_)
    | (go_at_call 115; with_reducible refine Calls.mono HL.out ?_; rintro r w2 ⟨rfl, hb2⟩)
    | (refine wpL_storeE rfl _ _ rfl _ Z cr _ rfl rfl (V2.out.keep hb2) HZ.out HSR.out HOR.out ?_))
  have V4 := Lib.hid (show VarC 96 (w2.setRow (w.heap.size + 1) cr) (w.heap.size + 1) cr from (V2.out.keep hb2).setRow)
  have HB9 := Lib.hid (below_setRow (below_step HB.out hb2) (show w.heap.size ≤ w.heap.size + 1 by omega) cr)
  clear hb2
  refine bodyPost_ret (v := .agg cr) (by simp [results, Try.results81, Act.put, asAddr, V4.out.varE HSR.out]) rfl ⟨rfl, HB9.out⟩
end Go.Proofs.Ytlpfifdocgljnac

/- Contracts of sums over equations, and of divisions that may have no quotient. -/
namespace Go.Proofs.Ytlpfifdocgljnac
open Go.RowKit Go.WideShapes Go.ChangeShapes Go.ChangeAt

/-- a solution's numbers, 1 at 0 -/
def solX (s : List Int) : Nat → Int := fun i => if i = 0 then 1 else Ser.co s i
theorem low_one (e s : List Int) : Sys.low e 1 (solX s) = Ser.co e 0 := by
  show (0 : Int) + Ser.co e 0 * 1 = _
  omega
theorem low_succ (e : List Int) {s : List Int} {k : Nat} (h : 0 < k) : Sys.low e (k + 1) (solX s) = Sys.low e k (solX s) + Ser.co e k * Ser.co s k := by
  show Sys.low e k (solX s) + Ser.co e k * solX s k = _
  unfold solX
  rw [if_neg (by omega)]
theorem mulB {x y : Int} (h1 : -10000 ≤ x ∧ x ≤ 10000) (h2 : -10000 ≤ y ∧ y ≤ 10000) : -100000000 ≤ x * y ∧ x * y ≤ 100000000 := by
  have a1 := Int.natAbs_mul x y
  have a2 : x.natAbs * y.natAbs ≤ 10000 * 10000 := Nat.mul_le_mul (by omega) (by omega)
  omega
theorem low_bd {e s : List Int} (he : ∀ i, -10000 ≤ Ser.co e i ∧ Ser.co e i ≤ 10000) (hs : ∀ i, -10000 ≤ Ser.co s i ∧ Ser.co s i ≤ 10000) : ∀ k : Nat, -(k : Int) * 100000000 ≤ Sys.low e k (solX s) ∧ Sys.low e k (solX s) ≤ (k : Int) * 100000000
  | 0 => by simp [Sys.low, Ser.psum]
  | k + 1 => by
    have ih := low_bd he hs k
    have hx : -100000000 ≤ Ser.co e k * solX s k ∧ Ser.co e k * solX s k ≤ 100000000 := mulB (he k) (by unfold solX; split; omega; exact hs k)
    have : Sys.low e (k + 1) (solX s) = Sys.low e k (solX s) + Ser.co e k * solX s k := rfl
    rw [this]
    omega
set_option maxHeartbeats 4000000 in
theorem valueBefore_any (m : Int) (e s : List Int) (k : Nat) (w : World) (m1 : 2 ≤ m) (m2 : m ≤ 10000) (hk0 : 1 ≤ k) (hk : k ≤ 10) (he : e.length = 11) (hs : s.length = 11) (he2 : ∀ i, -10000 ≤ Ser.co e i ∧ Ser.co e i ≤ 10000) (hs2 : ∀ i, -10000 ≤ Ser.co s i ∧ Ser.co s i ≤ 10000) :
    Calls Try.prog 109 #[.agg (arrE e), .int .i64 m, .agg (arrE s), .int .i64 k] w fun r w' => r = .returned (.int .i64 (Sys.low e k (solX s) % m)) ∧ Below w.heap.size w w' := by
  obtain ⟨W, hW⟩ : ∃ W, (w.alloc (.cells (arrE e) 96)).alloc (.cells (arrE s) 96) = W := ⟨_, rfl⟩
  have v1 : VarC 96 W w.heap.size (arrE e) := by rw [← hW]; exact (VarC.new _ _ _).keep (below_one _ _)
  have v2 : VarC 96 W (w.heap.size + 1) (arrE s) := by
    rw [← hW]
    have := VarC.new 96 (w.alloc (.cells (arrE e) 96)) (arrE s)
    simpa using this
  have HB := Lib.hid (show Below w.heap.size w W by rw [← hW]; exact below_alloc _ (below_one _ _))
  have V1 := Lib.hid v1
  have V2 := Lib.hid v2
  have HW := Lib.hid hW
  have HE := Lib.hid he
  have HSL := Lib.hid hs
  have c0 := v1.cell 0 _ (arrE_at (by omega))
  rw [← low_one e s] at c0
  obtain ⟨ce, hce⟩ : ∃ c, arrE e = c := ⟨_, rfl⟩
  obtain ⟨cs, hcs⟩ : ∃ c, arrE s = c := ⟨_, rfl⟩
  rw [hce, hcs] at HW
  rw [hce, hcs]
  clear v1 v2 hW he hs hce hcs
  go_enter Try.func109, Try.ntmps109
  go_upto_region 1 with fail
  rw [HW.out]
  go_wp2
  go_loopw [9, 10] (fun s9 s10 wr => ∃ i n : Nat, 1 ≤ i ∧ i ≤ k ∧ s9 = .int .i64 (Sys.low e i (solX s)) ∧ s10 = .int .i64 i ∧ wr = W.drewN n) (fun _ s10 _ => k + 1 - (intOf s10).toNat)
  case atStart => exact ⟨1, 0, Nat.le_refl _, hk0, rfl, rfl, rfl⟩
  case round =>
    obtain ⟨i, n, hi1, hik, rfl, rfl, hw⟩ := hrel
    have HWN := Lib.hid hw
    have hcell : ∀ p : Addr, wr.cell? p = W.cell? p := by intro p; rw [hw]; rfl
    clear hw c0
    have hb := low_bd (e := e) (s := s) he2 hs2 i
    by_cases hlt : i < k
    · have hlt2 : (i : Int) < (k : Int) := by omega
      have h1 := (hcell ⟨w.heap.size, i, none⟩).trans (V1.out.cell i _ (arrE_at (by rw [HE.out]; omega)))
      have h2 := (hcell ⟨w.heap.size + 1, i, none⟩).trans (V2.out.cell i _ (arrE_at (by rw [HSL.out]; omega)))
      have hst := low_succ e (s := s) (k := i) hi1
      have hm := mulB (he2 i) (hs2 i)
      obtain ⟨S, hS⟩ : ∃ S, Sys.low e i (solX s) = S := ⟨_, rfl⟩
      obtain ⟨X, hX⟩ : ∃ X, Ser.co e i = X := ⟨_, rfl⟩
      obtain ⟨Y, hY⟩ : ∃ Y, Ser.co s i = Y := ⟨_, rfl⟩
      rw [hS] at hst hb ⊢
      rw [hX] at hst hm h1
      rw [hY] at hst hm h2
      obtain ⟨P, hP⟩ : ∃ P, X * Y = P := ⟨_, rfl⟩
      rw [hP] at hst hm
      have hw1 : IntKind.i64.wrap (X * Y) = P := by rw [hP, IntKind.wrap_i64]; omega
      obtain ⟨D, hD⟩ : ∃ D, S + P = D := ⟨_, rfl⟩
      rw [hD] at hst
      have hw2 : IntKind.i64.wrap (S + P) = D := by rw [hD, IntKind.wrap_i64]; omega
      have j1 : (0 : Int) ≤ (i : Int) := by omega
      have j2 : (i : Int) < 11 := by omega
      have HST := Lib.hid hst
      clear hst hS hX hY hP hD hcell hm hb
      go_wp2
      go_quiet (fail)
      go_wp2
      go_roundw
      case rel => exact ⟨i + 1, n + nq, by omega, hlt, by rw [HST.out], by go_num, by rw [HWN.out, World.drewN_drewN]⟩
      case measure => simp only [intOf]; omega
    · obtain rfl : i = k := by omega
      have hlt2 : ¬ (i : Int) < (i : Int) := by omega
      obtain ⟨S, hS⟩ : ∃ S, Sys.low e i (solX s) = S := ⟨_, rfl⟩
      rw [hS] at hb ⊢
      have HRM := Lib.hid (fun W0 => remainder_any m S W0 (by omega) m2 (by omega) (by omega))
      have HSS := Lib.hid hS
      clear hcell hS
      go_wp2_with fail
      refine (HRM.out _).mono ?_
      rintro r w5 ⟨rfl, rfl⟩
      go_wp2
      go_ret
      exact ⟨by rw [HSS.out]; rfl, by rw [HWN.out]; exact below_drewN HB.out _⟩
set_option maxHeartbeats 2000000 in
theorem quot_yes (m a b : Int) (w : World) (h : (solM m b a).2 = 0) :
    Calls Try.prog 107 #[.int .i64 m, .int .i64 a, .int .i64 b] w fun r w' => r = .returned (.int .i64 (solM m b a).1) ∧ Below w.heap.size w w' := by
  have hs := fun W0 => SolveModulo_any m b a W0
  rw [h] at hs
  obtain ⟨X, hX⟩ : ∃ X, (solM m b a).1 = X := ⟨_, rfl⟩
  rw [hX] at hs ⊢
  have HS := Lib.hid hs
  clear hs hX h
  go_enter Try.func107, Try.ntmps107
  go_wp2_with fail
  refine (HS.out _).mono ?_
  rintro r w2 ⟨rfl, hb2⟩
  have HB := Lib.hid hb2
  clear hb2
  go_wp2
  go_ret
  exact ⟨rfl, HB.out⟩
set_option maxHeartbeats 2000000 in
theorem quot_no (m a b : Int) (w : World) (h : (solM m b a).2 ≠ 0) :
    Calls Try.prog 107 #[.int .i64 m, .int .i64 a, .int .i64 b] w fun r w' => (∃ s, r = .panicked [{ v := .iface 9 s, recovered := false }]) ∧ Below w.heap.size w w' := by
  have hs := fun W0 => SolveModulo_any m b a W0
  obtain ⟨X, hX⟩ : ∃ X, (solM m b a).1 = X := ⟨_, rfl⟩
  obtain ⟨C, hC⟩ : ∃ C, (solM m b a).2 = C := ⟨_, rfl⟩
  rw [hC] at hs h
  rw [hX] at hs
  obtain ⟨k1, k2⟩ := ne_facts h
  have HS := Lib.hid hs
  clear hs hX hC h
  go_enter Try.func107, Try.ntmps107
  go_wp2_with fail
  refine (HS.out _).mono ?_
  rintro r w2 ⟨rfl, hb2⟩
  have HB := Lib.hid hb2
  clear hb2
  go_wp2
  exact ⟨rfl, ⟨_, rfl⟩, HB.out⟩
end Go.Proofs.Ytlpfifdocgljnac

/- A region that draws its order, and whose last operations store into what the others load: a condition on the world that holds till then. -/
namespace Go.Proofs.Ytlpfifdocgljnac
open Go

section
variable {P : Program} {ops : Array Oper} {Q : Exit → Act → World → Prop} {md : Region.Mode} {S : World → Prop} {n : Nat}

/-- in whatever order; S holds behind every operation below number n -/
def wpTilN (P : Program) (md : Region.Mode) (ops : Array Oper) (Q : Exit → Act → World → Prop) (S : World → Prop) (n : Nat) : Nat → Array Bool → Act → World → Prop
  | 0, listed, a, w => Region.ready md ops listed = [] ∧ Q .normal a w
  | fuel + 1, listed, a, w => (Region.ready md ops listed = [] → Q .normal a w) ∧
    ∀ i ∈ Region.ready md ops listed, wpOp P ops Q i (fun a' w' => (i < n → S w') ∧ wpTilN P md ops Q S n fuel (listed.setIfInBounds i true) a' w') a w
theorem any_of_tilN : ∀ (fuel : Nat) (listed : Array Bool) (a : Act) (w : World), wpTilN P md ops Q S n fuel listed a w → wpAny P md ops Q fuel listed a w
  | 0, _, _, _, h => h
  | fuel + 1, _, _, _, h => ⟨h.1, fun i hi => wpOp_mono (fun a' w' k => any_of_tilN fuel _ a' w' k.2) (h.2 i hi)⟩
/-- what is listed cannot be waited for by what may come up -/
theorem no_waitN {i : Nat} {listed : Array Bool} {oj : Oper} (hr : i ∈ Region.ready md ops listed) (hall : ∀ e ∈ oj.after, Region.binds md e = true → listed.getD e.on false = true) :
    ∀ e ∈ oj.after, Region.binds md e = true → e.on ≠ i := by
  intro e he hb heq
  have h1 := hall e he hb
  have h0 := (mem_ready.1 hr).1
  rw [heq] at h1
  by_cases h : i < listed.size
  · simp [h] at h0 h1
    rw [h0] at h1
    exact absurd h1 (by decide)
  · simp [Array.getElem?_eq_none (Nat.le_of_not_lt h)] at h1
/-- number k waits for number i, maybe by others -/
def waitT (md : Region.Mode) (ops : Array Oper) (i : Nat) : Nat → Nat → Bool
  | 0, _ => false
  | f + 1, k => match ops[k]? with
    | none => false
    | some o => o.after.any fun e => Region.binds md e && (e.on == i || waitT md ops i f e.on)
/-- what is listed has waited for what is listed -/
def Clos (md : Region.Mode) (ops : Array Oper) (listed : Array Bool) : Prop := ∀ l o, ops[l]? = some o → listed.getD l false = true → ∀ e ∈ o.after, Region.binds md e = true → listed.getD e.on false = true
theorem waitT_listed {i : Nat} {listed : Array Bool} (hc : Clos md ops listed) : ∀ (f k : Nat) (o : Oper), ops[k]? = some o → (∀ e ∈ o.after, Region.binds md e = true → listed.getD e.on false = true) → waitT md ops i f k = true → listed.getD i false = true
  | 0, _, _, _, _, h => by cases h
  | f + 1, k, o, ho, hw, h => by
    unfold waitT at h
    rw [ho] at h
    obtain ⟨e, he, h2⟩ := Array.any_eq_true'.1 h
    rw [Bool.and_eq_true, Bool.or_eq_true] at h2
    rcases h2.2 with h3 | h3
    · rw [← (by simpa using h3 : e.on = i)]
      exact hw e he h2.1
    · cases hq : ops[e.on]? with
      | none =>
        cases f with
        | zero => cases h3
        | succ f => unfold waitT at h3; rw [hq] at h3; cases h3
      | some o2 => exact waitT_listed hc f e.on o2 hq (hc e.on o2 hq (hw e he h2.1)) h3
theorem not_listed {i : Nat} {listed : Array Bool} (h0 : listed.getD i true = false) (h1 : listed.getD i false = true) : False := by
  by_cases h : i < listed.size
  · simp [h] at h0 h1
    rw [h0] at h1
    exact absurd h1 (by decide)
  · simp [Array.getElem?_eq_none (Nat.le_of_not_lt h)] at h1
theorem set_listed {l j : Nat} {listed : Array Bool} (h : (listed.setIfInBounds j true).getD l false = true) : l = j ∨ listed.getD l false = true := by
  by_cases e : l = j
  · exact .inl e
  · rw [getD_set_ne false (fun x => e x.symm)] at h
    exact .inr h
theorem listed_set {l j : Nat} {listed : Array Bool} (h : listed.getD l false = true) : (listed.setIfInBounds j true).getD l false = true := by
  by_cases e : j = l
  · subst e
    by_cases hs : j < listed.size
    · simp [hs]
    · simp [Array.getElem?_eq_none (Nat.le_of_not_lt hs)] at h
  · rw [getD_set_ne false e]
    exact h
/-- an operation that yields v in every world of S may be taken first, if number n waits for it -/
theorem tilN_first {i : Nat} {oi : Oper} {v : Value} (hi : ops[i]? = some oi) (hsel : ∀ (j : Nat) (o : Oper) cs b, ops[j]? = some o → o.op ≠ .select cs b)
    (hQ : ∀ c a w, Q (.panic c) (a.put oi.dst v) w → Q (.panic c) a w) (hn : ∀ k on, n ≤ k → ops[k]? = some on → waitT md ops i ops.size k = true) :
    ∀ (fuel : Nat) (listed : Array Bool) (a : Act) (w : World), Clos md ops listed →
      (∀ j oj, ops[j]? = some oj → j ≠ i → listed.getD j true = false → (∀ e ∈ oj.after, Region.binds md e = true → e.on ≠ i) → oi.apart ops oj = true) →
      i ∈ Region.ready md ops listed → YieldsIf P ops S oi v a → S w →
      wpTilN P md ops Q S n fuel (listed.setIfInBounds i true) (a.put oi.dst v) w → wpTilN P md ops Q S n (fuel + 1) listed a w := by
  intro fuel
  induction fuel with
  | zero =>
    intro listed a w _ _ hr hy hS H
    refine ⟨fun e => (by rw [e] at hr; cases hr), fun j hj => ?_⟩
    by_cases hji : j = i
    · subst hji
      exact hy.wpOp hi hS ⟨fun _ => hS, H⟩
    · have hk := ready_mono hj hji
      rw [H.1] at hk
      cases hk
  | succ fuel ih =>
    intro listed a w hcl hfree hr hy hS H
    refine ⟨fun e => (by rw [e] at hr; cases hr), fun j hj => ?_⟩
    by_cases hji : j = i
    · subst hji
      exact hy.wpOp hi hS ⟨fun _ => hS, H⟩
    · obtain ⟨hun, oj, hoj, hall⟩ := mem_ready.1 hj
      have hnot := no_waitN hr hall
      have hjn : j < n := by
        apply Classical.byContradiction
        intro hge
        exact not_listed (mem_ready.1 hr).1 (waitT_listed hcl _ j oj hoj hall (hn j oj (by omega) hoj))
      have k2 := wpOp_putIf hoj (hfree j oj hoj hji hun hnot) (fun cs b => hsel i oi cs b hi) (fun cs b => hsel j oj cs b hoj) hQ hy (H.2 j (ready_mono hj hji))
      have hfree' : ∀ k ok, ops[k]? = some ok → k ≠ i → (listed.setIfInBounds j true).getD k true = false →
          (∀ e ∈ ok.after, Region.binds md e = true → e.on ≠ i) → oi.apart ops ok = true := by
        intro k ok hk hki hu hno
        refine hfree k ok hk hki ?_ hno
        by_cases hjk : j = k
        · subst hjk; exact hun
        · rw [getD_set_ne true hjk] at hu; exact hu
      have hcl' : Clos md ops (listed.setIfInBounds j true) := by
        intro l o ho hl e he hb
        rcases set_listed hl with rfl | hl
        · rw [hoj] at ho
          injection ho with ho
          subst ho
          exact listed_set (hall e he hb)
        · exact listed_set (hcl l o ho hl e he hb)
      refine wpOp_mono (fun a' w' k3 => ⟨fun _ => k3.2.1 hjn, ih (listed.setIfInBounds j true) a' w' hcl' hfree' (ready_mono hr (Ne.symm hji)) k3.1 (k3.2.1 hjn) ?_⟩) k2
      rw [Array.setIfInBounds_comm _ _ hji]
      exact k3.2.2
/-- number n and all behind it wait for number i; what is listed is closed -/
def waitN (md : Region.Mode) (ops : Array Oper) (listed : Array Bool) (n i : Nat) : Bool :=
  ((List.range ops.size).all fun k => decide (k < n) || waitT md ops i ops.size k) &&
    (List.range ops.size).all fun l => !(listed.getD l false) || ((ops[l]?).map fun o => o.after.all fun e => !(Region.binds md e) || listed.getD e.on false).getD true
theorem tilN_take {i : Nat} {oi : Oper} {dst : Option Tmp} (v : Value) {fuel : Nat} {listed : Array Bool} {a : Act} {w : World} (hi : ops[i]? = some oi) (hd : oi.dst = dst) (hs : Region.noSelect ops = true) (hf : Region.free md ops listed i = true)
    (hr : (Region.ready md ops listed).contains i = true) (hw : waitN md ops listed n i = true) (hQ : ∀ c a w, Q (.panic c) (a.put dst v) w → Q (.panic c) a w) (hy : YieldsIf P ops S oi v a) (hS : S w)
    (h : wpTilN P md ops Q S n fuel (listed.setIfInBounds i true) (a.put dst v) w) : wpTilN P md ops Q S n (fuel + 1) listed a w := by
  subst hd
  unfold waitN at hw
  rw [Bool.and_eq_true] at hw
  have hsz : ∀ {k : Nat} {on : Oper}, ops[k]? = some on → k < ops.size := fun {k on} ho => by
    apply Classical.byContradiction
    intro h
    rw [Array.getElem?_eq_none (by omega)] at ho
    cases ho
  refine tilN_first hi (Region.noSelect_spec hs) hQ (fun k on hk ho => ?_) fuel listed a w (fun l o ho hl e he hb => ?_) (Region.free_spec hi hf) (by simpa using hr) hy hS h
  · have h1 := List.all_eq_true.1 hw.1 k (List.mem_range.2 (hsz ho))
    simp only [Bool.or_eq_true, decide_eq_true_eq] at h1
    rcases h1 with h1 | h1
    · omega
    · exact h1
  · have h1 := List.all_eq_true.1 hw.2 l (List.mem_range.2 (hsz ho))
    rw [ho, hl] at h1
    have h2 : (o.after.all fun e => !(Region.binds md e) || listed.getD e.on false) = true := by simpa using h1
    have h3 := Array.all_eq_true_iff_forall_mem.1 h2 e he
    rw [hb] at h3
    simpa using h3
/-- one operation alone may come up -/
theorem tilN_one {i : Nat} {o : Oper} {fuel : Nat} {listed : Array Bool} {a : Act} {w : World} (hr : Region.ready md ops listed = [i]) (ho : ops[i]? = some o)
    (h : ∀ K : Act → World → Prop, Shut (∀ a w, (i < n → S w) → wpTilN P md ops Q S n fuel (listed.setIfInBounds i true) a w → K a w) → if Region.wanted o (yielded ops a.tmps) = true then Oper.wp P o a w K Q else K (a.put o.dst undef) w) :
    wpTilN P md ops Q S n (fuel + 1) listed a w := by
  refine ⟨fun e => (by rw [e] at hr; cases hr), fun j hj => ?_⟩
  rw [hr] at hj
  obtain rfl : j = i := by simpa using hj
  exact wpOp_step ho (fun K hK => h K (fun a w hS hW => hK a w ⟨hS, hW⟩))
theorem tilN_done {fuel : Nat} {listed : Array Bool} {a : Act} {w : World} (hr : Region.ready md ops listed = []) (h : Q .normal a w) : wpTilN P md ops Q S n fuel listed a w := by
  cases fuel with
  | zero => exact ⟨hr, h⟩
  | succ f => exact ⟨fun _ => h, by rw [hr]; simp⟩
theorem region_tilN {id : Nat} {a : Act} {w : World} (S : World → Prop) (n : Nat) (hm : P.follows .mixedOrders = true) (h : wpTilN P .any ops Q S n ops.size (Array.replicate ops.size false) a w.drew) : (Code.region id ops true).wp P Q a w :=
  wp_region_any hm (any_of_tilN _ _ _ _ h)
end
end Go.Proofs.Ytlpfifdocgljnac

/- A system's equations in a map: what it holds, and Euclid's step. -/
namespace Go.Proofs.Ytlpfifdocgljnac
open Go.RowKit Go.WideShapes Go.ChangeShapes Go.ChangeAt

/-- how an equation reads -/
def litE (l : List Int) : DataW Unit := .agg (l.map fun x => .lit (.int .i64 x))
def cellInt : Value → Int
  | .int _ x => x
  | _ => 0
def isCellI : Value → Bool
  | .int .i64 _ => true
  | _ => false
def rdE : Value → Option (DataW Unit × List MemPlace)
  | .agg cs => if cs.size = 11 ∧ cs.toList.all isCellI = true then some (litE (cs.toList.map cellInt), []) else none
  | _ => none
theorem map_inj {α β : Type} {f : α → β} (hf : ∀ x y, f x = f y → x = y) : ∀ {l r : List α}, l.map f = r.map f → l = r
  | [], [], _ => rfl
  | [], _ :: _, h => by cases h
  | _ :: _, [], h => by cases h
  | x :: l, y :: r, h => by
    rw [List.map_cons, List.map_cons] at h
    injection h with h1 h2
    rw [hf x y h1, map_inj hf h2]
theorem litE_inj {l r : List Int} (h : litE l = litE r) : l = r := by
  unfold litE at h
  injection h with h
  exact map_inj (fun x y e => by injection e with e; injection e) h
theorem rdE_arr {l : List Int} (h : l.length = 11) : rdE (.agg (arrE l)) = some (litE l, []) := by
  unfold rdE
  dsimp only
  have e : (arrE l).toList.map cellInt = l := by
    unfold arrE
    rw [List.toList_toArray, List.map_map]
    exact (List.map_congr_left (fun x _ => rfl)).trans (List.map_id l)
  rw [if_pos ⟨by rw [arrE_size, h], by unfold arrE; simp [isCellI]⟩, e]
theorem rdE_inv {v : Value} {l : List Int} {ps : List MemPlace} (h : rdE v = some (litE l, ps)) : l.length = 11 ∧ v = .agg (arrE l) := by
  unfold rdE at h
  split at h
  · rename_i cs
    split at h
    · rename_i hc
      have h1 := litE_inj (Prod.mk.inj (Option.some.inj h)).1
      have hs : cs.toList = l.map (Value.int .i64) := by
        rw [← h1, List.map_map]
        refine ((List.map_congr_left (fun x hx => ?_)).trans (List.map_id cs.toList)).symm
        have := List.all_eq_true.1 hc.2 x hx
        unfold isCellI at this
        split at this
        · rfl
        · cases this
      refine ⟨by rw [← h1, List.length_map, Array.length_toList, hc.1], ?_⟩
      unfold arrE
      rw [← hs, Array.toArray_toList]
    · cases h
  · cases h
/-- the map holds the rows -/
structure MapRows (D : DataW Unit) (rows : Nat → List Int) : Prop where
  isMap : Maps.IsMap D
  at_ : ∀ k : Nat, 0 < k → k ≤ 10 → D.atKey (.int .i64 k) (litE (List.replicate 11 0)) = litE (rows k)
theorem MapRows.put {D : DataW Unit} {rows : Nat → List Int} (h : MapRows D rows) (k : Nat) (r : List Int) : MapRows (D.put (.int .i64 k) (litE r)) (Sys.upd rows k r) := by
  refine ⟨h.isMap.put _ _, fun j h0 hj => ?_⟩
  unfold Sys.upd
  by_cases e : j = k
  · rw [if_pos e, e]
    exact Maps.atKey_put_same (k := .int .i64 (k : Int)) h.isMap (show WideAt.IsKeyLit (.int .i64 (k : Int)) from True.intro) _ _
  · rw [if_neg e, Maps.atKey_put_other (fun he => e (by injection he with _ he; omega))]
    exact h.at_ j h0 hj
theorem MapRows.empty : MapRows (.map []) Sys.none0 := ⟨Maps.isMap_empty, fun _ _ _ => rfl⟩
abbrev OwnM (w : World) (M n : Nat) (D : DataW Unit) : Prop := w.ownsMap Try.prog 2 rdE M n D
theorem lit_wf {k : Nat} (h : k ≤ 10) : (Lit.int .i64 (k : Int)).wf = true := by
  have h1 : IntKind.i64.min = -9223372036854775808 := by decide
  have h2 : IntKind.i64.max = 9223372036854775807 := by decide
  unfold Lit.wf
  rw [Bool.and_eq_true, decide_eq_true_eq, decide_eq_true_eq, h1, h2]
  omega
theorem key_lit {k : Nat} (h : k ≤ 10) : keyOf Try.prog 2 (.int .i64 (k : Int)) = some (.int .i64 (k : Int)) := Maps.keyOf_int_mk Try.underlying2 (lit_wf h)
theorem OwnM.look {w : World} {M n : Nat} {D : DataW Unit} {rows : Nat → List Int} (h : OwnM w M n D) (hm : MapRows D rows) {k : Nat} (h0 : 0 < k) (hk : k ≤ 10) :
    (Instr.lookup 115 (.map (some M)) (.int .i64 (k : Int)) false).run Try.prog w = .ok (.agg (arrE (rows k))) w := by
  obtain ⟨v, ps, hrun, hv⟩ := World.ownsMap.lookup h (Maps.int_keyed Try.underlying2) Try.underlying115 (z := .agg (arrE (List.replicate 11 0))) (Try.zeroValue96 _) (rdE_arr (by simp)) (key_lit hk)
  rw [hm.at_ k h0 hk] at hv
  rw [(rdE_inv hv).2] at hrun
  exact hrun
end Go.Proofs.Ytlpfifdocgljnac

/- Contract of the addition of an equation to a system. -/
namespace Go.Proofs.Ytlpfifdocgljnac
open Go.RowKit Go.WideShapes Go.ChangeShapes Go.ChangeAt

/-- a whole equation is loaded, in a region that draws its order -/
theorem yieldsE {ops : Array Oper} {S : World → Prop} {op : Oper} {a : Act} (hw : Region.wanted op (yielded ops a.tmps) = true) (x : Operand) (ho : op.op = .load 96 x)
    (g : Nat) (cs : Array Value) (T : TypeId) (hx : a.eval x = .pointer (some ⟨g, 0, none⟩)) (hS : ∀ w, S w → VarC T w g cs) (hs : cs.size = 11) : YieldsIf Try.prog ops S op (.agg cs) a :=
  .inl ⟨hw, fun w hw' => by
    unfold execOp
    simp only [ho, hx, Sem.run_bind, (hS w hw').loadE hs, Result.andThen_ok, Sem.run_pure]⟩
/-- a whole equation is stored -/
theorem wp_storeE {op : Oper} {a : Act} {w : World} {K : Act → World → Prop} {Q : Exit → Act → World → Prop} (x y : Operand) (ho : op.op = .store 96 x y)
    (g : Nat) (cs cs' : Array Value) (T : TypeId) (hx : a.eval x = .pointer (some ⟨g, 0, none⟩)) (hy : a.eval y = .agg cs') (hv : VarC T w g cs) (hs : cs.size = 11) (hs' : cs'.size = 11) (h1 : cs'.all (·.oneCell') = true)
    (h : K (a.put op.dst undef) (w.setRow g cs')) : op.wp Try.prog a w K Q := by
  unfold Oper.wp execOp
  simp only [ho, hx, hy, Sem.run_bind, hv.storeE hs hs' h1, Result.andThen_ok, Sem.run_pure]
  exact h
theorem grown_setRow (w : World) (g : Nat) (cs : Array Value) : w.grownBy (w.setRow g cs) (some g) :=
  ⟨rfl, rfl, rfl, by simp, fun k _ hne => setRow_other w g k cs (fun e => hne (by rw [e]))⟩
theorem grown_of_below {w w' : World} (h : Below w.heap.size w w') (r : Option Nat) : w.grownBy w' r := ⟨h.os, h.tape, h.output, h.size, fun k hk _ => h.block k hk⟩
/-- what an addition leaves behind -/
def AddPost (o : Option (Nat → List Int)) (M n : Nat) (w : World) (q : Ending) (w' : World) : Prop :=
  match o with
  | some r => q = .returned (.tuple #[]) ∧ (∃ D, OwnM w' M n D ∧ MapRows D r) ∧ w.grownBy w' (some M)
  | none => (∃ s, q = .panicked [{ v := .iface 9 s, recovered := false }]) ∧ w.grownBy w' (some M)
theorem sys_e0 {m : Int} {e : List Int} (m1 : 2 ≤ m) (m2 : m ≤ 10000) (h : Sys.Ok m e) : (solM m 0 (Ser.co e 0)).2 = 0 ↔ Ser.co e 0 = 0 := by
  have hr := h.red 0
  obtain ⟨s1, s2⟩ := Sys.sol_facts (m := m) (c := 0) (b := Ser.co e 0) m1 m2 (by omega) (by omega) hr.1 hr.2
  have hg : gcdI m 0 = m := by unfold gcdI; simp; omega
  rw [hg] at s1 s2
  by_cases h0 : Ser.co e 0 = 0
  · rw [h0] at s1 ⊢
    exact ⟨fun _ => rfl, fun _ => (s1 (Int.dvd_zero m)).1⟩
  · have hd : ¬ m ∣ Ser.co e 0 := fun hd => h0 ((Int.emod_eq_of_lt hr.1 hr.2).symm.trans (Int.emod_eq_zero_of_dvd hd))
    exact ⟨fun h => by rw [(s2 hd).1] at h; exact absurd h (by decide), fun h => absurd h h0⟩
set_option maxHeartbeats 8000000 in
set_option maxRecDepth 100000 in
theorem add_zero (m : Int) (m1 : 2 ≤ m) (m2 : m ≤ 10000) (rows : Nat → List Int) (e : List Int) (M n : Nat) (D : DataW Unit) (w : World) (he : Sys.Ok m e) (hl : Sys.lastE e = 0) (hM : OwnM w M n D) (hD : MapRows D rows) :
    Calls Try.prog 106 #[.agg #[.int .i64 m, .map (some M)], .agg (arrE e)] w (AddPost (Sys.addS m 0 rows e) M n w) := by
  obtain ⟨W, hW⟩ : ∃ W, (w.alloc (.cells #[.int .i64 m, .map (some M)] 117)).alloc (.cells (arrE e) 96) = W := ⟨_, rfl⟩
  have v1 : VarC 117 W w.heap.size #[.int .i64 m, .map (some M)] := by rw [← hW]; exact (VarC.new _ _ _).keep (below_one _ _)
  have v2 : VarC 96 W (w.heap.size + 1) (arrE e) := by
    rw [← hW]
    have := VarC.new 96 (w.alloc (.cells #[.int .i64 m, .map (some M)] 117)) (arrE e)
    simpa using this
  have hM2 : OwnM W M n D := by rw [← hW]; exact (hM.alloc _).alloc _
  have HB := Lib.hid (show Below w.heap.size w W by rw [← hW]; exact below_alloc _ (below_one _ _))
  have V1 := Lib.hid v1
  have V2 := Lib.hid v2
  have HM := Lib.hid hM2
  have HD := Lib.hid hD
  have HW := Lib.hid hW
  have hla := fun W0 => eqLast_any m e W0 he
  rw [hl] at hla
  have HLA := Lib.hid hla
  have hse : (arrE e).size = 11 := by rw [arrE_size, he.len]
  have HSE := Lib.hid hse
  have hc0 := v2.cell 0 _ (arrE_at (by rw [he.len]; omega))
  have hz := sys_e0 m1 m2 he
  have HMk : Hid (∀ w', Below W.heap.size W w' → OwnM w' M n D) := Lib.hid (fun w' h => World.ownsMap.kept HM.out (grown_of_below h none) (by simp))
  obtain ⟨X, hX⟩ : ∃ X, Ser.co e 0 = X := ⟨_, rfl⟩
  rw [hX] at hc0 hz
  have hA : Sys.addS m 0 rows e = if X = 0 then some rows else none := by unfold Sys.addS; rw [hX]
  obtain ⟨ce, hce⟩ : ∃ c, arrE e = c := ⟨_, rfl⟩
  rw [hce] at HW HLA V2 HSE
  rw [hce]
  have HC0 : Hid (∀ w', Below W.heap.size W w' → w'.cell? ⟨w.heap.size + 1, 0, none⟩ = some (.int .i64 X)) := Lib.hid (fun w' h => (h.cell (p := ⟨w.heap.size + 1, 0, none⟩) v2.lt).trans hc0)
  clear v1 v2 hW hM hM2 hla hl he hse hce hX hD hc0
  by_cases h0 : X = 0
  · rw [if_pos h0] at hA
    have HQ := Lib.hid (fun W0 => quot_yes m X 0 W0 (hz.2 h0))
    rw [hA]
    clear hA hz h0
    go_enter Try.func106, Try.ntmps106
    go_upto_region 1 with fail
    rw [HW.out]
    go_wp2_with (refine wpL_loadE rfl _ rfl _ ce _ rfl V2.out HSE.out ?_)
    refine (HLA.out _).mono ?_
    rintro r w2 ⟨rfl, hb2⟩
    have x1 := (V1.out.keep hb2).cell 0 _ rfl
    have x2 := (V1.out.keep hb2).cell 1 _ rfl
    have x3 := HC0.out _ hb2
    go_wp2_with fail
    refine (HQ.out _).mono ?_
    rintro r w3 ⟨rfl, hb3⟩
    have hb := below_step hb2 hb3
    go_wp2
    go_end0
    exact ⟨rfl, ⟨D, HMk.out _ hb, HD.out⟩, grown_of_below (below_step HB.out hb) _⟩
  · rw [if_neg h0] at hA
    have HQ := Lib.hid (fun W0 => quot_no m X 0 W0 (fun h => h0 (hz.1 h)))
    rw [hA]
    clear hA hz h0
    go_enter Try.func106, Try.ntmps106
    go_upto_region 1 with fail
    rw [HW.out]
    go_wp2_with (refine wpL_loadE rfl _ rfl _ ce _ rfl V2.out HSE.out ?_)
    refine (HLA.out _).mono ?_
    rintro r w2 ⟨rfl, hb2⟩
    have x1 := (V1.out.keep hb2).cell 0 _ rfl
    have x2 := (V1.out.keep hb2).cell 1 _ rfl
    have x3 := HC0.out _ hb2
    go_wp2_with fail
    refine (HQ.out _).mono ?_
    rintro r w3 ⟨⟨s, rfl⟩, hb3⟩
    go_wp2
    exact ⟨rfl, ⟨_, rfl⟩, grown_of_below (below_step HB.out (below_step hb2 hb3)) _⟩
end Go.Proofs.Ytlpfifdocgljnac

/- Contracts of greatestDivisor and CommonDivisor, of the program and of the model. -/
namespace Go.Proofs.Ytlpfifdocgljnac
open Go.RowKit Go.WideShapes Go.ChangeShapes Go.ChangeAt

set_option maxHeartbeats 1000000 in
theorem greatestDivisor_any (a b : Int) (w : World) (h1 : -4000000000000000000 ≤ a) (h2 : a ≤ 4000000000000000000) (h3 : -4000000000000000000 ≤ b) (h4 : b ≤ 4000000000000000000) :
    Calls Try.prog 128 #[.int .i64 a, .int .i64 b] w fun e w' => e = .returned (.int .i64 (gcdI a b)) ∧ Below w.heap.size w w' := by
  go_enter Try.func128, Try.ntmps128
  go_wp2
  go_loopw [0, 1] (fun x y wr => ∃ (X Y : Int), x = .int .i64 X ∧ y = .int .i64 Y ∧ -4000000000000000000 ≤ X ∧ X ≤ 4000000000000000000 ∧ -4000000000000000000 ≤ Y ∧ Y ≤ 4000000000000000000 ∧ gcdI X Y = gcdI a b ∧ Below w.heap.size w wr) (fun _ y _ => (intOf y).natAbs)
  case atStart => exact ⟨a, b, rfl, rfl, h1, h2, h3, h4, rfl, Below.refl _ _⟩
  case round =>
    obtain ⟨X, Y, rfl, rfl, b1, b2, b3, b4, heq, hbel⟩ := hrel
    have HE := Lib.hid heq
    have HB := Lib.hid hbel
    clear heq hbel
    by_cases hY : Y = 0
    · subst hY
      have h0 : gcdI X 0 = X.natAbs := by simp [gcdI]
      have H0 := Lib.hid h0
      clear h0
      by_cases hX : X < 0
      · go_wp2
        go_ret
        exact ⟨ret_int (by rw [← HE.out, H0.out]; omega), HB.out⟩
      · go_wp2
        go_ret
        exact ⟨ret_int (by rw [← HE.out, H0.out]; omega), HB.out⟩
    · obtain ⟨n1, n2⟩ := ne_facts hY
      have hlt : (X.tmod Y).natAbs < Y.natAbs := by rw [Int.natAbs_tmod]; exact Nat.mod_lt _ (by omega)
      have hg : gcdI Y (X.tmod Y) = gcdI X Y := by
        unfold gcdI; rw [Int.natAbs_tmod, Nat.gcd_comm Y.natAbs, ← Nat.gcd_rec, Nat.gcd_comm]
      have HG := Lib.hid hg
      have HL := Lib.hid hlt
      have c1 : -4000000000000000000 ≤ X.tmod Y ∧ X.tmod Y ≤ 4000000000000000000 := by omega
      obtain ⟨c1, c2⟩ := c1
      clear hg hlt
      go_wp2
      go_quiet (fail)
      go_wp2
      go_roundw
      case rel => exact ⟨Y, X.tmod Y, rfl, rfl, b3, b4, c1, c2, HG.out.trans HE.out, below_drewN HB.out _⟩
      case measure => simp only [intOf]; exact HL.out


end Go.Proofs.Ytlpfifdocgljnac

/- Contract of the addition of an equation to a system: the step. -/
namespace Go.Proofs.Ytlpfifdocgljnac
open Go.RowKit Go.WideShapes Go.ChangeShapes Go.ChangeAt

/-- the number in a cell -/
def cellN (w : World) (a : Addr) : Nat := match w.cell? a with
  | some (.int _ x) => x.toNat
  | _ => 0
theorem cellN_int {w : World} {a : Addr} {k : IntKind} {x : Int} (h : w.cell? a = some (.int k x)) : cellN w a = x.toNat := by unfold cellN; rw [h]
theorem Sys.Ok.bd {m : Int} {e : List Int} (m2 : m ≤ 10000) (h : Sys.Ok m e) (i : Nat) : -10000 ≤ Ser.co e i ∧ Ser.co e i ≤ 10000 := by have := h.red i; omega
theorem Sys.Ok.lessE {m q : Int} {e f : List Int} (hm : 0 < m) : Sys.Ok m (Sys.lessE m q e f) := Sys.Ok.cut hm _
set_option maxHeartbeats 16000000 in
set_option maxRecDepth 100000 in
theorem add_succ (m : Int) (m1 : 2 ≤ m) (m2 : m ≤ 10000) (L : Nat) (hL : L < 10) (M : Nat)
    (ih : ∀ (rows : Nat → List Int) (e : List Int) (n : Nat) (D : DataW Unit) (w : World), Sys.Tri m rows → Sys.Ok m e → Sys.lastE e ≤ L → n + 2 ^ L ≤ 1000000000 → OwnM w M n D → MapRows D rows →
      Calls Try.prog 106 #[.agg #[.int .i64 m, .map (some M)], .agg (arrE e)] w (AddPost (Sys.addS m L rows e) M (n + (2 ^ L - 1)) w))
    (rows : Nat → List Int) (e : List Int) (n : Nat) (D : DataW Unit) (w : World) (hT : Sys.Tri m rows) (he : Sys.Ok m e) (hl : Sys.lastE e = L + 1) (hn : n + 2 ^ (L + 1) ≤ 1000000000) (hM : OwnM w M n D) (hD : MapRows D rows) :
    Calls Try.prog 106 #[.agg #[.int .i64 m, .map (some M)], .agg (arrE e)] w (AddPost (Sys.addS m (L + 1) rows e) M (n + (2 ^ (L + 1) - 1)) w) := by
  obtain ⟨W, hW⟩ : ∃ W, (w.alloc (.cells #[.int .i64 m, .map (some M)] 117)).alloc (.cells (arrE e) 96) = W := ⟨_, rfl⟩
  have v1 : VarC 117 W w.heap.size #[.int .i64 m, .map (some M)] := by rw [← hW]; exact (VarC.new _ _ _).keep (below_one _ _)
  have v2 : VarC 96 W (w.heap.size + 1) (arrE e) := by
    rw [← hW]
    have := VarC.new 96 (w.alloc (.cells #[.int .i64 m, .map (some M)] 117)) (arrE e)
    simpa using this
  have hM2 : OwnM W M n D := by rw [← hW]; exact (hM.alloc _).alloc _
  have hMlt := Lib.hid hM.lt
  have HB := Lib.hid (show Below w.heap.size w W by rw [← hW]; exact below_alloc _ (below_one _ _))
  have V1 := Lib.hid v1
  have V2 := Lib.hid v2
  have HM := Lib.hid hM2
  have HD := Lib.hid hD
  have HW := Lib.hid hW
  have HOE := Lib.hid he
  have HT := Lib.hid hT
  have hla := fun W0 => eqLast_any m e W0 he
  rw [hl] at hla
  obtain ⟨K, hK⟩ : ∃ K, L + 1 = K := ⟨_, rfl⟩
  rw [hK] at hla
  have HLA := Lib.hid hla
  have HKL := Lib.hid hK
  have HLE := Lib.hid (hl.trans hK)
  have hse : (arrE e).size = 11 := by rw [arrE_size, he.len]
  have HSE := Lib.hid hse
  have j0 : (0 : Int) < (K : Int) := by omega
  have j1 : (0 : Int) ≤ (K : Int) := by omega
  have j2 : (K : Int) < 11 := by omega
  have hkk : ¬ (K : Int) = 0 := by omega
  obtain ⟨k1, k2⟩ := ne_facts hkk
  have HK0 := Lib.hid (show 0 < K ∧ K ≤ 10 by omega)
  have HMk : Hid (∀ w', Below W.heap.size W w' → OwnM w' M n D) := Lib.hid (fun w' h => World.ownsMap.kept HM.out (grown_of_below h none) (by simp))
  obtain ⟨P, hP⟩ : ∃ P, Sys.euc m K 20000 (rows K) e = P := ⟨_, rfl⟩
  have HP := Lib.hid hP
  obtain ⟨R0, hR0⟩ : ∃ R, Sys.addS m (L + 1) rows e = R := ⟨_, rfl⟩
  have hRR : R0 = match Sys.addS m L (Sys.upd rows K P.1) (Sys.timesE m (m / gcdI m (Ser.co P.1 K)) P.1) with
      | none => none
      | some r2 => Sys.addS m L r2 P.2 := by
    subst hK
    rw [← hR0, ← hP]
    conv => lhs; unfold Sys.addS
    rw [if_pos hl]
    rfl
  rw [hR0]
  have HRR := Lib.hid hRR
  have hEO := Sys.euc_ok (m := m) (k := K) (by omega) (by omega) 20000 (rows K) e (hT.ok _) he (by have := he.red K; omega)
  rw [hP] at hEO
  have HEO := Lib.hid hEO
  have hor := hT.ok K
  have HOR := Lib.hid hor
  obtain ⟨ce, hce⟩ : ∃ c, arrE e = c := ⟨_, rfl⟩
  obtain ⟨cr, hcr⟩ : ∃ c, arrE (rows K) = c := ⟨_, rfl⟩
  have hsr : cr.size = 11 := by rw [← hcr, arrE_size, hor.len]
  have hor1 : cr.all (·.oneCell') = true := by rw [← hcr]; exact arrE_one _
  rw [hce] at HW HLA V2 HSE
  rw [hce]
  have HCE := Lib.hid hce
  have HCR := Lib.hid hcr
  have HSR := Lib.hid hsr
  have HO1 := Lib.hid hor1
  have hp1 : 2 ^ (L + 1) = 2 * 2 ^ L := by rw [Nat.pow_succ]; omega
  have hp2 : 1 ≤ 2 ^ L := Nat.one_le_two_pow
  obtain ⟨p, hp⟩ : ∃ p, 2 ^ L = p := ⟨_, rfl⟩
  rw [hp] at ih hp1 hp2
  rw [hp1] at hn ⊢
  have hNB : Hid (n + 2 * p ≤ 1000000000 ∧ 1 ≤ p) := Lib.hid ⟨hn, hp2⟩
  have HLL := Lib.hid hL
  clear v1 v2 hW hM hM2 hla hl he hse hD hT hP hR0 hRR hEO hor hsr hor1 hce hcr hkk hn hL hK hp hp1 hp2
  go_enter Try.func106, Try.ntmps106
  go_upto_region 1 with fail
  rw [HW.out]
  go_wp2_with (refine wpL_loadE rfl _ rfl _ ce _ rfl V2.out HSE.out ?_)
  refine (HLA.out _).mono ?_
  rintro r w2 ⟨rfl, hb2⟩
  have x1 := (V1.out.keep hb2).cell 0 _ rfl
  have x2 := (V1.out.keep hb2).cell 1 _ rfl
  have hlk := OwnM.look (HMk.out _ hb2) HD.out HK0.out.1 HK0.out.2
  rw [HCR.out] at hlk
  have hvn := VarC.new 96 w2 #[.int .i64 0, .int .i64 0, .int .i64 0, .int .i64 0, .int .i64 0, .int .i64 0, .int .i64 0, .int .i64 0, .int .i64 0, .int .i64 0, .int .i64 0]
  go_upto_region 4 with fail
  go_wp2_with (refine wpL_storeE rfl _ _ rfl _ #[.int .i64 0, .int .i64 0, .int .i64 0, .int .i64 0, .int .i64 0, .int .i64 0, .int .i64 0, .int .i64 0, .int .i64 0, .int .i64 0, .int .i64 0] cr _ rfl rfl hvn rfl HSR.out HO1.out ?_)
  rw [World.setRow_alloc_new]
  simp only [Act.put]
  clear hvn hlk x1 x2
  have hb3 := below_step hb2 (below_one w2 (.cells cr 96))
  have v5 := VarC.new 96 w2 cr
  have hg5 : W.heap.size ≤ w2.heap.size := hb2.size
  obtain ⟨w3, hw3⟩ : ∃ w3, w2.alloc (.cells cr 96) = w3 := ⟨_, rfl⟩
  rw [hw3] at hb3 v5 ⊢
  obtain ⟨G, hG⟩ : ∃ G, w2.heap.size = G := ⟨_, rfl⟩
  rw [hG] at v5 hg5 ⊢
  have hWs : w.heap.size + 1 < W.heap.size := V2.out.lt
  have HG := Lib.hid (show w.heap.size + 1 < G by omega)
  have V5 := Lib.hid v5
  have B3 := Lib.hid (below_step HB.out hb3)
  have M3 := Lib.hid (HMk.out _ hb3)
  have S3 := Lib.hid (V1.out.keep hb3)
  have E3 := Lib.hid (V2.out.keep hb3)
  clear hb2 hb3 v5 hg5 hw3 hG hWs HMk HW HLA HM V1 V2
  go_wp2
  go_loopw [19] (fun _ wr => ∃ (r' e' : List Int) (nn : Nat), Sys.Ok m r' ∧ Sys.Ok m e' ∧ Sys.euc m K nn r' e' = P ∧ (Ser.co e' K).toNat < nn ∧ VarC 96 wr (w.heap.size + 1) (arrE e') ∧ VarC 96 wr G (arrE r') ∧ VarC 117 wr w.heap.size #[.int .i64 m, .map (some M)] ∧ OwnM wr M n D ∧ Below w.heap.size w wr) (fun _ wr => cellN wr ⟨w.heap.size + 1, K, none⟩)
  case atStart => exact ⟨rows K, e, 20000, HOR.out, HOE.out, HP.out, by have := HOE.out.red K; omega, by rw [HCE.out]; exact E3.out, by rw [HCR.out]; exact V5.out, S3.out, M3.out, B3.out⟩
  case round =>
    obtain ⟨r', e', nn, o1, o2, hP, hnn, v3, v5, vs, hM, hB⟩ := hrel
    clear V5 B3 M3 S3 E3
    have c3 := v3.cell K _ (arrE_at (by rw [o2.len]; omega))
    have c5 := v5.cell K _ (arrE_at (by rw [o1.len]; omega))
    by_cases h0 : Ser.co e' K = 0
    · rw [h0] at c3
      have hPe : P = (r', e') := by
        obtain ⟨q, rfl⟩ : ∃ q, nn = q + 1 := ⟨nn - 1, by omega⟩
        rw [← hP]
        unfold Sys.euc
        rw [if_pos h0]
      clear hP hnn h0 c5
      subst hPe
      have O1 := Lib.hid o1
      have O2 := Lib.hid o2
      have EV := Lib.hid v3
      have RV := Lib.hid v5
      have SV := Lib.hid vs
      have HMM := Lib.hid hM
      have HBB := Lib.hid hB
      clear o1 o2 v3 v5 vs hM hB
      have s0 := SV.out.cell 0 _ rfl
      have s1 := SV.out.cell 1 _ rfl
      have hsz : (arrE r').size = 11 := by rw [arrE_size, O1.out.len]
      have HSZ := Lib.hid hsz
      have hval := rdE_arr O1.out.len
      obtain ⟨cs, hcs⟩ : ∃ c, arrE r' = c := ⟨_, rfl⟩
      rw [hcs] at RV HSZ hval
      have HCS := Lib.hid hcs
      have HVAL := Lib.hid hval
      have HKY := Lib.hid (key_lit (show K ≤ 10 from HK0.out.2))
      have hnm : n < maxLen := by have := hNB.out; unfold maxLen; omega
      clear hsz hcs hval
      go_upto_region 7 with fail
      go_wp2_with (first
        | (refine wpL_loadE rfl _ rfl _ cs _ rfl RV.out HSZ.out ?_)
        | (at_mapUpdate; refine wpList_mapUpdate_own _ rfl _ _ _ 115 rfl 2 96 (Maps.int_keyed Try.underlying2) Try.underlying115 rdE M n D rfl HMM.out hnm _ _ (.int .i64 (K : Int)) rfl rfl HKY.out (litE r') [] HVAL.out ?_; intro w4 hown4 hgrow4))
      have hMl := hMlt.out
      have hGl := HG.out
      have RV4 := RV.out.other hgrow4 (by intro e; injection e; omega)
      have SV4 := SV.out.other hgrow4 (by intro e; injection e; omega)
      have EV4 := EV.out.other hgrow4 (by intro e; injection e; omega)
      have c4 := RV4.cell K _ (by rw [← HCS.out]; exact arrE_at (by rw [O1.out.len]; omega))
      have hred := O1.out.red K
      obtain ⟨C, hC⟩ : ∃ C, Ser.co r' K = C := ⟨_, rfl⟩
      obtain ⟨g1, g2, g3⟩ := Sys.gcd_facts m1 C
      have hHRR := HRR.out
      try dsimp only at hHRR
      rw [hC] at c4 hred hHRR
      obtain ⟨g, hg⟩ : ∃ g, gcdI m C = g := ⟨_, rfl⟩
      have HGD := Lib.hid (fun W0 => by have := greatestDivisor_any m C W0 (by omega) (by omega) (by omega) (by omega); rw [hg] at this; exact this)
      rw [hg] at g1 g2 hHRR
      have hq0 : 0 ≤ m / g ∧ m / g ≤ m := ⟨Int.ediv_nonneg (by omega) (by omega), Int.ediv_le_self _ (by omega)⟩
      have htd : m.tdiv g = m / g := Int.tdiv_eq_ediv_of_nonneg (by omega)
      have HTM := Lib.hid (fun W0 => eqTimes_any m (m / g) r' W0 m1 m2 (by omega) (by omega) O1.out.len (O1.out.bd m2))
      have hTo : Sys.Ok m (Sys.timesE m (m / g) r') := Sys.Ok.cut (by omega) _
      have hov := HEO.out.over (fun j hj => HT.out.tri K HK0.out.1 j hj) (fun j hj => Sys.lastE_over HOE.out j (by rw [HLE.out]; exact hj))
      have hTl : Sys.lastE (Sys.timesE m (m / g) r') ≤ L := Sys.lastE_le_of (fun j hj => by
        by_cases hj10 : j ≤ 10
        · unfold Sys.timesE
          rw [Ser.co_cut hj10]
          by_cases hjk : j = K
          · rw [hjk, hC, ← hg]; exact Sys.times_zero (hg ▸ g1) (hg ▸ g2) (hg ▸ g3)
          · rw [show Ser.co r' j = 0 from hov.1 j (by have := HKL.out; omega)]; simp
        · exact Ser.co_over (by rw [hTo.len]; omega))
      have HTU := Lib.hid (HT.out.upd K O1.out hov.1)
      have HMR := Lib.hid (HD.out.put K r')
      have HOW := Lib.hid hown4
      obtain ⟨Q, hQ⟩ : ∃ Q, m / g = Q := ⟨_, rfl⟩
      rw [hQ] at hq0 htd HTM hTo hTl hHRR
      have HTA := Lib.hid (Sys.addS_ok m1 m2 L (Sys.upd rows K r') (Sys.timesE m Q r') HTU.out hTo hTl (by have := HKL.out; have := HK0.out; omega))
      have IH1 := Lib.hid (fun W0 (h : OwnM W0 M (n + 1) (D.put (.int .i64 (K : Int)) (litE r'))) => ih (Sys.upd rows K r') (Sys.timesE m Q r') (n + 1) (D.put (.int .i64 (K : Int)) (litE r')) W0 HTU.out hTo hTl (by have := hNB.out; omega) h HMR.out)
      have HEL := Lib.hid (show Sys.lastE e' ≤ L from Sys.lastE_le_of (fun j hj => by
        by_cases hjk : j = K
        · rw [hjk]; exact HEO.out.z
        · exact hov.2 j (by have := HKL.out; omega)))
      obtain ⟨q0, q1⟩ := hq0
      have hwQ : IntKind.i64.wrap Q = Q := by rw [IntKind.wrap_i64]; omega
      have hgn : ¬ g = 0 := by omega
      have hgn1 : ¬ g = -1 := by omega
      have GR4 := Lib.hid (grown_trans (grown_of_below HBB.out (some M)) hgrow4)
      rw [HCS.out] at HTM
      obtain ⟨cT, hcT⟩ : ∃ c, arrE (Sys.timesE m Q r') = c := ⟨_, rfl⟩
      rw [hcT] at HTM IH1
      have HS0 : Hid ((VarC 96 w4.drew G cs ∧ w4.drew.cell? ⟨w.heap.size, 0, none⟩ = some (.int .i64 m) ∧ w4.drew.cell? ⟨w.heap.size, 1, none⟩ = some (.map (some M))) ∧ w4.drew.cell? ⟨G, K, none⟩ = some (.int .i64 C)) := Lib.hid ⟨⟨RV4.drew, SV4.cell 0 _ rfl, SV4.cell 1 _ rfl⟩, c4⟩
      have HSK : Hid (∀ w', Below w4.heap.size w4 w' → (VarC 96 w' G cs ∧ w'.cell? ⟨w.heap.size, 0, none⟩ = some (.int .i64 m) ∧ w'.cell? ⟨w.heap.size, 1, none⟩ = some (.map (some M))) ∧ w'.cell? ⟨G, K, none⟩ = some (.int .i64 C)) := Lib.hid (fun w' h => ⟨⟨RV4.keep h, (SV4.keep h).cell 0 _ rfl, (SV4.keep h).cell 1 _ rfl⟩, by
        rw [(h.cell (p := ⟨G, K, none⟩) RV4.lt)]; exact c4⟩)
      have HRX := Lib.hid hHRR
      have EV5 := Lib.hid EV4
      have HCC := Lib.hid hC
      have SV5 := Lib.hid SV4
      clear hg hC g3 hov hTo hTl hQ hred hown4 hgrow4 RV4 SV4 EV4 hcT hHRR HRR s0 s1 c3 hMl hGl c4 g2
      refine region_tilN (fun w' => (VarC 96 w' G cs ∧ w'.cell? ⟨w.heap.size, 0, none⟩ = some (.int .i64 m) ∧ w'.cell? ⟨w.heap.size, 1, none⟩ = some (.map (some M))) ∧ w'.cell? ⟨G, K, none⟩ = some (.int .i64 C)) 15 (by kernel_rfl) ?_
      refine tilN_take (i := 0) (dst := some 40) (.agg #[.int .i64 m, .map (some M)]) rfl rfl (by kernel_rfl) (by kernel_rfl) (by kernel_rfl) (by kernel_rfl) (fun _ _ _ h => h) (Or.inl ⟨by rfl, ?_⟩) HS0.out ?_
      · rintro w' ⟨⟨a0, a1, a2⟩, a3⟩
        go_simp
      simp only [Act.put, List.setIfInBounds_toArray, List.set_cons_zero, List.set_cons_succ]
      refine tilN_take (i := 1) (dst := some 41) (.agg cs) rfl rfl (by kernel_rfl) (by kernel_rfl) (by kernel_rfl) (by kernel_rfl) (fun _ _ _ h => h) (yieldsE (by rfl) _ rfl _ cs _ rfl (fun w' h => h.1.1) HSZ.out) HS0.out ?_
      simp only [Act.put, List.setIfInBounds_toArray, List.set_cons_zero, List.set_cons_succ]
      refine tilN_take (i := 2) (dst := some 42) (.pointer (some ⟨w.heap.size, 0, none⟩)) rfl rfl (by kernel_rfl) (by kernel_rfl) (by kernel_rfl) (by kernel_rfl) (fun _ _ _ h => h) (Or.inl ⟨by rfl, ?_⟩) HS0.out ?_
      · rintro w' ⟨⟨a0, a1, a2⟩, a3⟩
        go_simp
      simp only [Act.put, List.setIfInBounds_toArray, List.set_cons_zero, List.set_cons_succ]
      refine tilN_take (i := 3) (dst := some 43) (.int .i64 m) rfl rfl (by kernel_rfl) (by kernel_rfl) (by kernel_rfl) (by kernel_rfl) (fun _ _ _ h => h) (Or.inl ⟨by rfl, ?_⟩) HS0.out ?_
      · rintro w' ⟨⟨a0, a1, a2⟩, a3⟩
        go_simp
      simp only [Act.put, List.setIfInBounds_toArray, List.set_cons_zero, List.set_cons_succ]
      refine tilN_take (i := 4) (dst := some 44) (.pointer (some ⟨w.heap.size, 0, none⟩)) rfl rfl (by kernel_rfl) (by kernel_rfl) (by kernel_rfl) (by kernel_rfl) (fun _ _ _ h => h) (Or.inl ⟨by rfl, ?_⟩) HS0.out ?_
      · rintro w' ⟨⟨a0, a1, a2⟩, a3⟩
        go_simp
      simp only [Act.put, List.setIfInBounds_toArray, List.set_cons_zero, List.set_cons_succ]
      refine tilN_take (i := 5) (dst := some 45) (.int .i64 m) rfl rfl (by kernel_rfl) (by kernel_rfl) (by kernel_rfl) (by kernel_rfl) (fun _ _ _ h => h) (Or.inl ⟨by rfl, ?_⟩) HS0.out ?_
      · rintro w' ⟨⟨a0, a1, a2⟩, a3⟩
        go_simp
      simp only [Act.put, List.setIfInBounds_toArray, List.set_cons_zero, List.set_cons_succ]
      refine tilN_take (i := 6) (dst := some 46) (.pointer (some ⟨w.heap.size, 0, none⟩)) rfl rfl (by kernel_rfl) (by kernel_rfl) (by kernel_rfl) (by kernel_rfl) (fun _ _ _ h => h) (Or.inl ⟨by rfl, ?_⟩) HS0.out ?_
      · rintro w' ⟨⟨a0, a1, a2⟩, a3⟩
        go_simp
      simp only [Act.put, List.setIfInBounds_toArray, List.set_cons_zero, List.set_cons_succ]
      refine tilN_take (i := 7) (dst := some 47) (.int .i64 m) rfl rfl (by kernel_rfl) (by kernel_rfl) (by kernel_rfl) (by kernel_rfl) (fun _ _ _ h => h) (Or.inl ⟨by rfl, ?_⟩) HS0.out ?_
      · rintro w' ⟨⟨a0, a1, a2⟩, a3⟩
        go_simp
      simp only [Act.put, List.setIfInBounds_toArray, List.set_cons_zero, List.set_cons_succ]
      refine tilN_take (i := 8) (dst := some 48) (.int .i64 K) rfl rfl (by kernel_rfl) (by kernel_rfl) (by kernel_rfl) (by kernel_rfl) (fun _ _ _ h => h) (Or.inl ⟨by rfl, ?_⟩) HS0.out ?_
      · rintro w' ⟨⟨a0, a1, a2⟩, a3⟩
        go_simp
      simp only [Act.put, List.setIfInBounds_toArray, List.set_cons_zero, List.set_cons_succ]
      refine tilN_take (i := 9) (dst := some 49) (.pointer (some ⟨G, K, none⟩)) rfl rfl (by kernel_rfl) (by kernel_rfl) (by kernel_rfl) (by kernel_rfl) (fun _ _ _ h => h) (Or.inl ⟨by rfl, ?_⟩) HS0.out ?_
      · rintro w' ⟨⟨a0, a1, a2⟩, a3⟩
        go_simp
      simp only [Act.put, List.setIfInBounds_toArray, List.set_cons_zero, List.set_cons_succ]
      refine tilN_take (i := 10) (dst := some 50) (.int .i64 C) rfl rfl (by kernel_rfl) (by kernel_rfl) (by kernel_rfl) (by kernel_rfl) (fun _ _ _ h => h) (Or.inl ⟨by rfl, ?_⟩) HS0.out ?_
      · rintro w' ⟨⟨a0, a1, a2⟩, a3⟩
        go_simp
      simp only [Act.put, List.setIfInBounds_toArray, List.set_cons_zero, List.set_cons_succ]
      refine tilN_one (i := 11) (by kernel_rfl) rfl (fun K hK => ?_)
      go_simp
      (go_at_call 128; with_reducible refine Calls.mono (HGD.out _) ?_; rintro e w5 ⟨rfl, hb5⟩; have b5 := below_step (below_drew0 w4) hb5)
      dsimp only
      refine hK.out _ _ (fun _ => HSK.out _ b5) ?_
      clear hK K
      try simp only [Act.put, List.setIfInBounds_toArray, List.set_cons_zero, List.set_cons_succ]
      refine tilN_take (i := 12) (dst := some 52) (.int .i64 Q) rfl rfl (by kernel_rfl) (by kernel_rfl) (by kernel_rfl) (by kernel_rfl) (fun _ _ _ h => h) (Or.inl ⟨by rfl, ?_⟩) (HSK.out _ b5) ?_
      · rintro w' ⟨⟨a0, a1, a2⟩, a3⟩
        go_simp
      simp only [Act.put, List.setIfInBounds_toArray, List.set_cons_zero, List.set_cons_succ]
      refine tilN_one (i := 13) (by kernel_rfl) rfl (fun K hK => ?_)
      go_simp
      (go_at_call 81; with_reducible refine Calls.mono (HTM.out _) ?_; rintro e w6 ⟨rfl, hb6⟩; have b6 := below_step b5 hb6)
      dsimp only
      refine hK.out _ _ (fun _ => HSK.out _ b6) ?_
      clear hK K
      try simp only [Act.put, List.setIfInBounds_toArray, List.set_cons_zero, List.set_cons_succ]
      have hM6 : OwnM w6 M (n + 1) (D.put (.int .i64 (K : Int)) (litE r')) := World.ownsMap.kept HOW.out (grown_of_below b6 none) (by simp)
      have HM6 := Lib.hid hM6
      have HI6 := Lib.hid (IH1.out w6 HM6.out)
      have GR6 := Lib.hid (grown_trans GR4.out (grown_of_below b6 (some M)))
      have RV6 := Lib.hid ((HSK.out _ b6).1.1)
      have SV6 := Lib.hid (SV5.out.keep b6)
      have EV6 := Lib.hid (EV5.out.keep b6)
      have HMl := Lib.hid hMlt.out
      clear hM6 b5 b6 hb5 hb6
      cases hA1 : Sys.addS m L (Sys.upd rows K r') (Sys.timesE m Q r') with
      | none =>
        have hr := HRX.out
        rw [hA1] at hr
        dsimp only at hr
        have hi := HI6.out
        rw [hA1] at hi
        have HII := Lib.hid hi
        rw [hr]
        clear hi hr hA1
        refine tilN_one (i := 14) (by kernel_rfl) rfl (fun K hK => ?_)
        go_simp
        go_at_call 106
        refine HII.out.mono ?_
        rintro q w7 ⟨⟨s, rfl⟩, hg7⟩
        clear hK
        go_wp2
        exact ⟨rfl, ⟨s, rfl⟩, grown_trans GR6.out hg7⟩
      | some r2 =>
        have hr := HRX.out
        rw [hA1] at hr
        dsimp only at hr
        have hi := HI6.out
        rw [hA1] at hi
        have HII := Lib.hid hi
        have HT2 := Lib.hid ((HTA.out.1 r2 hA1).tri)
        have HRY := Lib.hid hr
        clear hi hr hA1 HRX HI6 HTA
        refine tilN_one (i := 14) (by kernel_rfl) rfl (fun K' hK => ?_)
        go_simp
        go_at_call 106
        refine HII.out.mono ?_
        rintro q w7 ⟨rfl, ⟨D7, hM7, hD7⟩, hg7⟩
        have hMl := HMl.out
        have hGl := HG.out
        have RV7 := RV6.out.other hg7 (by intro e; injection e; omega)
        have SV7 := SV6.out.other hg7 (by intro e; injection e; omega)
        have EV7 := EV6.out.other hg7 (by intro e; injection e; omega)
        have GR7 := Lib.hid (grown_trans GR6.out hg7)
        have s0 := SV7.cell 0 _ rfl
        have s1 := SV7.cell 1 _ rfl
        have c7 := RV7.cell K _ (by rw [← HCS.out]; exact arrE_at (by rw [O1.out.len]; omega))
        have hne := HCC.out
        rw [hne] at c7
        dsimp only
        refine hK.out _ _ (fun _ => ⟨⟨RV7, s0, s1⟩, c7⟩) ?_
        clear hK K'
        refine tilN_done (by kernel_rfl) ?_
        have EV8 := Lib.hid EV7
        have HM8 := Lib.hid hM7
        have HD8 := Lib.hid hD7
        have hse : (arrE e').size = 11 := by rw [arrE_size, O2.out.len]
        have HSE2 := Lib.hid hse
        have hfin : n + 1 + (p - 1) + (p - 1) = n + (2 * p - 1) := by have := hNB.out; omega
        have hih := ih r2 e' (n + 1 + (p - 1)) D7 w7 HT2.out O2.out HEL.out (by have := hNB.out; omega) HM8.out HD8.out
        rw [hfin, ← HRY.out] at hih
        have HIH := Lib.hid hih
        obtain ⟨ce', hce'⟩ : ∃ c, arrE e' = c := ⟨_, rfl⟩
        rw [hce'] at EV8 HSE2 HIH
        clear hse hfin hih hce' RV7 SV7 EV7 c7 hM7 hD7 hg7 hMl hGl hne
        go_upto_region 9 with fail
        go_wp2_with (first
          | (refine wpL_loadE rfl _ rfl _ ce' _ rfl EV8.out HSE2.out ?_))
        refine HIH.out.mono ?_
        rintro q w9 hq
        cases R0 with
        | none =>
          obtain ⟨⟨s, rfl⟩, hg9⟩ := hq
          go_wp2
          exact ⟨rfl, ⟨s, rfl⟩, grown_trans GR7.out hg9⟩
        | some r9 =>
          obtain ⟨rfl, hD9, hg9⟩ := hq
          go_wp2
          go_end0
          exact ⟨rfl, hD9, grown_trans GR7.out hg9⟩
    · have hst : Sys.euc m K (nn - 1) e' (Sys.lessE m (Ser.co r' K / Ser.co e' K) r' e') = P := by
        obtain ⟨q, rfl⟩ : ∃ q, nn = q + 1 := ⟨nn - 1, by omega⟩
        rw [← hP, Nat.add_sub_cancel]
        conv => rhs; unfold Sys.euc
        rw [if_neg h0]
      have hat := Sys.less_at (row := r') (k := K) (by have := HK0.out; omega) o2 h0
      have b1 := o1.red K
      have b2 := o2.red K
      have hmod := Int.emod_lt_of_pos (Ser.co r' K) (show 0 < Ser.co e' K by omega)
      have hmod0 := Int.emod_nonneg (Ser.co r' K) h0
      obtain ⟨X, hX⟩ : ∃ X, Ser.co r' K = X := ⟨_, rfl⟩
      obtain ⟨Y, hY⟩ : ∃ Y, Ser.co e' K = Y := ⟨_, rfl⟩
      rw [hX, hY] at hst hat hmod hmod0
      rw [hX] at c5 b1
      rw [hY] at c3 b2 h0 hnn
      have hq0 : 0 ≤ X / Y ∧ X / Y ≤ X := ⟨Int.ediv_nonneg b1.1 b2.1, Int.ediv_le_self _ b1.1⟩
      have htd : X.tdiv Y = X / Y := Int.tdiv_eq_ediv_of_nonneg b1.1
      have HLS := Lib.hid (fun W0 => eqLess_any m (X / Y) r' e' W0 m1 m2 (by omega) (by omega) o1.len o2.len (o1.bd m2) (o2.bd m2))
      have hol : Sys.Ok m (Sys.lessE m (X / Y) r' e') := Sys.Ok.lessE (by omega)
      obtain ⟨Q, hQ⟩ : ∃ Q, X / Y = Q := ⟨_, rfl⟩
      rw [hQ] at hst hat hq0 htd HLS hol
      have hwQ : IntKind.i64.wrap Q = Q := by rw [IntKind.wrap_i64]; omega
      obtain ⟨E2, hE2⟩ : ∃ E2, Sys.lessE m Q r' e' = E2 := ⟨_, rfl⟩
      rw [hE2] at hst hat HLS hol
      have hYn : ¬ Y = -1 := by omega
      have cE2 : ∀ (w' : World), VarC 96 w' (w.heap.size + 1) (arrE E2) → w'.cell? ⟨w.heap.size + 1, K, none⟩ = some (.int .i64 (X % Y)) := fun w' h => by
        rw [h.cell K _ (arrE_at (by rw [hol.len]; have := HK0.out; omega)), hat]
      have CE2 := Lib.hid cE2
      have hs1 : (arrE r').size = 11 := by rw [arrE_size, o1.len]
      have hs2 : (arrE e').size = 11 := by rw [arrE_size, o2.len]
      have hs3 : (arrE E2).size = 11 := by rw [arrE_size, hol.len]
      have ho2 := arrE_one e'
      have ho3 := arrE_one E2
      obtain ⟨a1, ha1⟩ : ∃ c, arrE r' = c := ⟨_, rfl⟩
      obtain ⟨a2, ha2⟩ : ∃ c, arrE e' = c := ⟨_, rfl⟩
      obtain ⟨a3, ha3⟩ : ∃ c, arrE E2 = c := ⟨_, rfl⟩
      rw [ha1] at v5 hs1
      rw [ha2] at v3 hs2 ho2
      rw [ha3] at hs3 ho3
      rw [ha1, ha2, ha3] at HLS
      have A2 := Lib.hid ha2
      have A3 := Lib.hid ha3
      have Z1 := Lib.hid hs1
      have Z2 := Lib.hid hs2
      have Z3 := Lib.hid hs3
      have U2 := Lib.hid ho2
      have U3 := Lib.hid ho3
      have O2 := Lib.hid o2
      have OL := Lib.hid hol
      have HST := Lib.hid hst
      have HAT := Lib.hid hat
      have HNN : Hid ((X % Y).toNat < nn - 1) := Lib.hid (by omega)
      have HMZ : Hid ((X % Y).toNat < Y.toNat) := Lib.hid (by omega)
      have EV := Lib.hid v3
      have RV := Lib.hid v5
      have SV := Lib.hid vs
      have HMM := Lib.hid hM
      have HBB := Lib.hid hB
      have C3 := Lib.hid c3
      have sv0 := vs.cell 0 _ rfl
      have HS0 : Hid ((VarC 96 wr.drew (w.heap.size + 1) a2 ∧ VarC 96 wr.drew G a1) ∧ wr.drew.cell? ⟨w.heap.size, 0, none⟩ = some (.int .i64 m) ∧ wr.drew.cell? ⟨w.heap.size + 1, K, none⟩ = some (.int .i64 Y) ∧ wr.drew.cell? ⟨G, K, none⟩ = some (.int .i64 X)) := Lib.hid ⟨⟨v3.drew, v5.drew⟩, sv0, c3, c5⟩
      have HSK : Hid (∀ w', Below wr.heap.size wr w' → (VarC 96 w' (w.heap.size + 1) a2 ∧ VarC 96 w' G a1) ∧ w'.cell? ⟨w.heap.size, 0, none⟩ = some (.int .i64 m) ∧ w'.cell? ⟨w.heap.size + 1, K, none⟩ = some (.int .i64 Y) ∧ w'.cell? ⟨G, K, none⟩ = some (.int .i64 X)) := Lib.hid (fun w' h => ⟨⟨v3.keep h, v5.keep h⟩, (vs.keep h).cell 0 _ rfl, (h.cell (p := ⟨w.heap.size + 1, K, none⟩) v3.lt).trans c3, (h.cell (p := ⟨G, K, none⟩) v5.lt).trans c5⟩)
      obtain ⟨qb1, qb2⟩ := hq0
      obtain ⟨yb1, yb2⟩ := b2
      obtain ⟨xb1, xb2⟩ := b1
      clear hX hY hQ hE2 ha1 ha2 ha3 hs1 hs2 hs3 ho2 ho3 hP hst hat hol hmod hmod0 hnn v3 v5 vs hM hB c5 cE2 sv0 o1 o2
      go_upto_region 6 with fail
      refine region_tilN (fun w' => (VarC 96 w' (w.heap.size + 1) a2 ∧ VarC 96 w' G a1) ∧ w'.cell? ⟨w.heap.size, 0, none⟩ = some (.int .i64 m) ∧ w'.cell? ⟨w.heap.size + 1, K, none⟩ = some (.int .i64 Y) ∧ w'.cell? ⟨G, K, none⟩ = some (.int .i64 X)) 13 (by kernel_rfl) ?_
      refine tilN_take (i := 0) (dst := some 23) (.agg a2) rfl rfl (by kernel_rfl) (by kernel_rfl) (by kernel_rfl) (by kernel_rfl) (fun _ _ _ h => h) (yieldsE (by rfl) _ rfl _ a2 _ rfl (fun w' h => h.1.1) Z2.out) HS0.out ?_
      simp only [Act.put, List.setIfInBounds_toArray, List.set_cons_zero, List.set_cons_succ]
      refine tilN_take (i := 1) (dst := some 24) (.agg a1) rfl rfl (by kernel_rfl) (by kernel_rfl) (by kernel_rfl) (by kernel_rfl) (fun _ _ _ h => h) (yieldsE (by rfl) _ rfl _ a1 _ rfl (fun w' h => h.1.2) Z1.out) HS0.out ?_
      simp only [Act.put, List.setIfInBounds_toArray, List.set_cons_zero, List.set_cons_succ]
      refine tilN_take (i := 2) (dst := some 25) (.pointer (some ⟨w.heap.size, 0, none⟩)) rfl rfl (by kernel_rfl) (by kernel_rfl) (by kernel_rfl) (by kernel_rfl) (fun _ _ _ h => h) (Or.inl ⟨by rfl, ?_⟩) HS0.out ?_
      · rintro w' ⟨⟨h1, h2⟩, h3, h4, h5⟩
        go_simp
      simp only [Act.put, List.setIfInBounds_toArray, List.set_cons_zero, List.set_cons_succ]
      refine tilN_take (i := 3) (dst := some 26) (.int .i64 m) rfl rfl (by kernel_rfl) (by kernel_rfl) (by kernel_rfl) (by kernel_rfl) (fun _ _ _ h => h) (Or.inl ⟨by rfl, ?_⟩) HS0.out ?_
      · rintro w' ⟨⟨h1, h2⟩, h3, h4, h5⟩
        go_simp
      simp only [Act.put, List.setIfInBounds_toArray, List.set_cons_zero, List.set_cons_succ]
      refine tilN_take (i := 4) (dst := some 27) (.int .i64 K) rfl rfl (by kernel_rfl) (by kernel_rfl) (by kernel_rfl) (by kernel_rfl) (fun _ _ _ h => h) (Or.inl ⟨by rfl, ?_⟩) HS0.out ?_
      · rintro w' ⟨⟨h1, h2⟩, h3, h4, h5⟩
        go_simp
      simp only [Act.put, List.setIfInBounds_toArray, List.set_cons_zero, List.set_cons_succ]
      refine tilN_take (i := 5) (dst := some 28) (.pointer (some ⟨G, K, none⟩)) rfl rfl (by kernel_rfl) (by kernel_rfl) (by kernel_rfl) (by kernel_rfl) (fun _ _ _ h => h) (Or.inl ⟨by rfl, ?_⟩) HS0.out ?_
      · rintro w' ⟨⟨h1, h2⟩, h3, h4, h5⟩
        go_simp
      simp only [Act.put, List.setIfInBounds_toArray, List.set_cons_zero, List.set_cons_succ]
      refine tilN_take (i := 6) (dst := some 29) (.int .i64 X) rfl rfl (by kernel_rfl) (by kernel_rfl) (by kernel_rfl) (by kernel_rfl) (fun _ _ _ h => h) (Or.inl ⟨by rfl, ?_⟩) HS0.out ?_
      · rintro w' ⟨⟨h1, h2⟩, h3, h4, h5⟩
        go_simp
      simp only [Act.put, List.setIfInBounds_toArray, List.set_cons_zero, List.set_cons_succ]
      refine tilN_take (i := 7) (dst := some 30) (.int .i64 K) rfl rfl (by kernel_rfl) (by kernel_rfl) (by kernel_rfl) (by kernel_rfl) (fun _ _ _ h => h) (Or.inl ⟨by rfl, ?_⟩) HS0.out ?_
      · rintro w' ⟨⟨h1, h2⟩, h3, h4, h5⟩
        go_simp
      simp only [Act.put, List.setIfInBounds_toArray, List.set_cons_zero, List.set_cons_succ]
      refine tilN_take (i := 8) (dst := some 31) (.pointer (some ⟨w.heap.size + 1, K, none⟩)) rfl rfl (by kernel_rfl) (by kernel_rfl) (by kernel_rfl) (by kernel_rfl) (fun _ _ _ h => h) (Or.inl ⟨by rfl, ?_⟩) HS0.out ?_
      · rintro w' ⟨⟨h1, h2⟩, h3, h4, h5⟩
        go_simp
      simp only [Act.put, List.setIfInBounds_toArray, List.set_cons_zero, List.set_cons_succ]
      refine tilN_take (i := 9) (dst := some 32) (.int .i64 Y) rfl rfl (by kernel_rfl) (by kernel_rfl) (by kernel_rfl) (by kernel_rfl) (fun _ _ _ h => h) (Or.inl ⟨by rfl, ?_⟩) HS0.out ?_
      · rintro w' ⟨⟨h1, h2⟩, h3, h4, h5⟩
        go_simp
      simp only [Act.put, List.setIfInBounds_toArray, List.set_cons_zero, List.set_cons_succ]
      refine tilN_take (i := 10) (dst := some 33) (.int .i64 Q) rfl rfl (by kernel_rfl) (by kernel_rfl) (by kernel_rfl) (by kernel_rfl) (fun _ _ _ h => h) (Or.inl ⟨by rfl, ?_⟩) HS0.out ?_
      · rintro w' ⟨⟨h1, h2⟩, h3, h4, h5⟩
        go_simp
      simp only [Act.put, List.setIfInBounds_toArray, List.set_cons_zero, List.set_cons_succ]
      refine tilN_take (i := 11) (dst := some 34) (.agg a2) rfl rfl (by kernel_rfl) (by kernel_rfl) (by kernel_rfl) (by kernel_rfl) (fun _ _ _ h => h) (yieldsE (by rfl) _ rfl _ a2 _ rfl (fun w' h => h.1.1) Z2.out) HS0.out ?_
      simp only [Act.put, List.setIfInBounds_toArray, List.set_cons_zero, List.set_cons_succ]
      refine tilN_one (i := 12) (by kernel_rfl) rfl (fun K hK => ?_)
      go_simp
      (go_at_call 115; with_reducible refine Calls.mono (HLS.out _) ?_; rintro e w5 ⟨rfl, hb5⟩; have b5 := below_step (below_drew0 wr) hb5)
      dsimp only
      refine hK.out _ _ (fun _ => HSK.out _ b5) ?_
      clear hK K
      try simp only [Act.put, List.setIfInBounds_toArray, List.set_cons_zero, List.set_cons_succ]
      have GV5 := (HSK.out _ b5).1.2
      have EV5 := (HSK.out _ b5).1.1
      have hGl := HG.out
      have T1 := Lib.hid (show VarC 96 ((w5.setRow G a2).setRow (w.heap.size + 1) a3) (w.heap.size + 1) a3 from (EV5.setRow_ne (by omega)).setRow)
      have T2 := Lib.hid (show VarC 96 ((w5.setRow G a2).setRow (w.heap.size + 1) a3) G a2 from GV5.setRow.setRow_ne (by omega))
      have T3 := Lib.hid (show VarC 117 ((w5.setRow G a2).setRow (w.heap.size + 1) a3) w.heap.size #[.int .i64 m, .map (some M)] from ((SV.out.keep b5).setRow_ne (by omega)).setRow_ne (by omega))
      have hMl := hMlt.out
      have T4 := Lib.hid (show OwnM ((w5.setRow G a2).setRow (w.heap.size + 1) a3) M n D from World.ownsMap.kept (World.ownsMap.kept (World.ownsMap.kept HMM.out (grown_of_below b5 none) (by simp)) (grown_setRow _ _ _) (by intro h; injection h; omega)) (grown_setRow _ _ _) (by intro h; injection h; omega))
      have T5 := Lib.hid (show Below w.heap.size w ((w5.setRow G a2).setRow (w.heap.size + 1) a3) from below_setRow (below_setRow (below_step HBB.out b5) (by omega) a2) (by omega) a3)
      have GV := Lib.hid GV5
      have EVx := Lib.hid (EV5.setRow_ne (cs' := a2) (show w.heap.size + 1 ≠ G by omega))
      clear GV5 EV5 hMl hGl b5 hb5
      refine tilN_one (i := 13) (by kernel_rfl) rfl (fun K hK => ?_)
      rw [if_pos (by kernel_rfl)]
      (refine wp_storeE _ _ rfl _ a1 a2 _ rfl rfl GV.out Z1.out Z2.out U2.out ?_)
      refine hK.out _ _ (fun hlt => absurd hlt (by decide)) ?_
      clear hK K
      simp only [Act.put]
      refine tilN_one (i := 14) (by kernel_rfl) rfl (fun K hK => ?_)
      rw [if_pos (by kernel_rfl)]
      (refine wp_storeE _ _ rfl _ a2 a3 _ rfl rfl EVx.out Z2.out Z3.out U3.out ?_)
      refine hK.out _ _ (fun hlt => absurd hlt (by decide)) ?_
      clear hK K
      refine tilN_done (by kernel_rfl) ?_
      go_wp2
      go_roundw
      case rel => ((repeat apply Exists.intro); exact ⟨⟨e', E2, nn - 1, O2.out, OL.out, HST.out, by rw [HAT.out]; exact HNN.out, by rw [A3.out]; exact T1.out, by rw [A2.out]; exact T2.out, T3.out, T4.out, T5.out⟩, rfl⟩)
      case measure =>
        rw [cellN_int (CE2.out _ (by rw [A3.out]; exact T1.out)), cellN_int C3.out]
        exact HMZ.out
end Go.Proofs.Ytlpfifdocgljnac

/- Contract of the addition of an equation to a system, whole. -/
namespace Go.Proofs.Ytlpfifdocgljnac
open Go.RowKit Go.WideShapes Go.ChangeShapes Go.ChangeAt

theorem AddPost.mono {o : Option (Nat → List Int)} {M n n' : Nat} {w : World} {q : Ending} {w' : World} (h : AddPost o M n w q w') (hn : n ≤ n') : AddPost o M n' w q w' := by
  cases o with
  | none => exact h
  | some r =>
    obtain ⟨h1, ⟨D, h2, h3⟩, h4⟩ := h
    exact ⟨h1, ⟨D, World.ownsMap.mono h2 hn, h3⟩, h4⟩
theorem add_any (m : Int) (m1 : 2 ≤ m) (m2 : m ≤ 10000) (M : Nat) : ∀ (L : Nat), L ≤ 10 → ∀ (rows : Nat → List Int) (e : List Int) (n : Nat) (D : DataW Unit) (w : World), Sys.Tri m rows → Sys.Ok m e → Sys.lastE e ≤ L → n + 2 ^ L ≤ 1000000000 → OwnM w M n D → MapRows D rows →
    Calls Try.prog 106 #[.agg #[.int .i64 m, .map (some M)], .agg (arrE e)] w (AddPost (Sys.addS m L rows e) M (n + (2 ^ L - 1)) w) := by
  intro L
  induction L with
  | zero =>
    intro _ rows e n D w _ he hl _ hM hD
    exact add_zero m m1 m2 rows e M n D w he (by omega) hM hD
  | succ L ih =>
    intro hL rows e n D w hT he hl hn hM hD
    have hp1 : 2 ^ (L + 1) = 2 * 2 ^ L := by rw [Nat.pow_succ]; omega
    have hp2 : 1 ≤ 2 ^ L := Nat.one_le_two_pow
    by_cases hk : Sys.lastE e = L + 1
    · exact add_succ m m1 m2 L (by omega) M (ih (by omega)) rows e n D w hT he hk hn hM hD
    · have := ih (by omega) rows e n D w hT he (by omega) (by omega) hM hD
      have e1 : Sys.addS m (L + 1) rows e = Sys.addS m L rows e := by
        conv => lhs; unfold Sys.addS
        rw [if_neg hk]
      rw [e1]
      exact this.mono fun q w' h => h.mono (by omega)
/-- at whatever equation -/
theorem add_ten (m : Int) (m1 : 2 ≤ m) (m2 : m ≤ 10000) (M : Nat) (rows : Nat → List Int) (e : List Int) (n : Nat) (D : DataW Unit) (w : World) (hT : Sys.Tri m rows) (he : Sys.Ok m e) (hn : n + 1024 ≤ 1000000000) (hM : OwnM w M n D) (hD : MapRows D rows) :
    Calls Try.prog 106 #[.agg #[.int .i64 m, .map (some M)], .agg (arrE e)] w (AddPost (Sys.addS m 10 rows e) M (n + 1023) w) :=
  add_any m m1 m2 M 10 (Nat.le_refl _) rows e n D w hT he (Sys.lastF_le e 10) hn hM hD
end Go.Proofs.Ytlpfifdocgljnac

/- Contract of the least solution: the deferred closure. -/
namespace Go.Proofs.Ytlpfifdocgljnac
open Go.RowKit Go.WideShapes Go.ChangeShapes Go.ChangeAt

theorem catch_panicking (g g2 : Nat) (Z : Array Value) (x : Value) (u : TypeId) (pv : Value) (older : List PanicEntry) (w : World) (h1 : VarC 96 w g Z) (hs : Z.size = 11) (h2 : VarC 4 w g2 #[x]) (hne : g2 ≠ g) :
    CallsD Try.prog 105 #[.pointer (some ⟨g, 0, none⟩), .pointer (some ⟨g2, 0, none⟩)] (.panicking ({ v := .iface u pv, recovered := false } :: older)) w fun e u' w' =>
      e = .returned (.tuple #[]) ∧ u' = .panicking ({ v := .iface u pv, recovered := true } :: older) ∧ w' = (w.setRow g (#[.int .i64 0, .int .i64 0, .int .i64 0, .int .i64 0, .int .i64 0, .int .i64 0, .int .i64 0, .int .i64 0, .int .i64 0, .int .i64 0, .int .i64 0])).setCell ⟨g2, 0, none⟩ (.bool false) := by
  refine callsD_of_wpS Try.func105 rfl fun c₀ cs hu => ?_
  apply wpS_seq
  apply wpS_region
  simp [wpOpsS, go_sem, recoverD, hu, Try.ntmps105, Exit.thenS]
  refine wpS_cond (t := true) (by simp [Act.eval, Array.replicate]) ?_
  simp only [if_true]
  have ho0 : (#[.int .i64 0, .int .i64 0, .int .i64 0, .int .i64 0, .int .i64 0, .int .i64 0, .int .i64 0, .int .i64 0, .int .i64 0, .int .i64 0, .int .i64 0] : Array Value).all (·.oneCell') = true := arrE_one (List.replicate 11 0)
  have hz0 : (#[.int .i64 0, .int .i64 0, .int .i64 0, .int .i64 0, .int .i64 0, .int .i64 0, .int .i64 0, .int .i64 0, .int .i64 0, .int .i64 0, .int .i64 0] : Array Value).size = 11 := rfl
  have h3 := (h2.setRow_ne (cs' := #[.int .i64 0, .int .i64 0, .int .i64 0, .int .i64 0, .int .i64 0, .int .i64 0, .int .i64 0, .int .i64 0, .int .i64 0, .int .i64 0, .int .i64 0]) hne).cell 0 _ rfl
  have h4 := (h2.setRow_ne (cs' := #[.int .i64 0, .int .i64 0, .int .i64 0, .int .i64 0, .int .i64 0, .int .i64 0, .int .i64 0, .int .i64 0, .int .i64 0, .int .i64 0, .int .i64 0]) hne).fz 0
  refine wpS_of_wp ?_
  go_wp2_with (refine wpL_storeE rfl _ _ rfl _ Z (#[.int .i64 0, .int .i64 0, .int .i64 0, .int .i64 0, .int .i64 0, .int .i64 0, .int .i64 0, .int .i64 0, .int .i64 0, .int .i64 0, .int .i64 0]) _ rfl rfl h1 hs hz0 ho0 ?_)
  cases c₀
  simp_all [bodyPostS, results, Try.results105]
theorem catch_idle (g g2 : Nat) (w : World) :
    CallsD Try.prog 105 #[.pointer (some ⟨g, 0, none⟩), .pointer (some ⟨g2, 0, none⟩)] .returning w fun e u' w' => e = .returned (.tuple #[]) ∧ u' = .returning ∧ w' = w := by
  refine callsD_of_wpS Try.func105 rfl fun c₀ cs hu => ?_
  apply wpS_seq
  apply wpS_region
  simp [wpOpsS, go_sem, recoverD, hu, Try.ntmps105, Exit.thenS]
  refine wpS_cond (t := false) (by simp [Act.eval, Array.replicate]) ?_
  simp only [Bool.false_eq_true, if_false]
  refine wpS_of_wp (wp_skip ?_)
  cases c₀
  simp_all [bodyPostS, results, Try.results105]
end Go.Proofs.Ytlpfifdocgljnac

/- Contract of the least solution. -/
namespace Go.Proofs.Ytlpfifdocgljnac
open Go.RowKit Go.WideShapes Go.ChangeShapes Go.ChangeAt

/-- equations lie in a slice -/
def EqsAt (w : World) (A : Option Addr) (es : List (List Int)) : Prop :=
  es ≠ [] → ∃ b off, A = some ⟨b, off, none⟩ ∧ b < w.heap.size ∧ ∀ i e, es[i]? = some e → w.rangeAt b (off + i * 11) (e.map (Value.int .i64))
theorem EqsAt.below {B : Nat} {w w' : World} {A : Option Addr} {es : List (List Int)} (h : EqsAt w A es) (hb : Below B w w') (hB : w.heap.size ≤ B) : EqsAt w' A es := by
  intro hn
  obtain ⟨b, off, rfl, hlt, hc⟩ := h hn
  exact ⟨b, off, rfl, Nat.lt_of_lt_of_le hlt hb.size, fun i e he j v hv => (hb.cell (p := ⟨b, off + i * 11 + j, none⟩) (Nat.lt_of_lt_of_le hlt hB)).trans (hc i e he j v hv)⟩
theorem Sys.grd_stable (m : Int) (rows : Nat → List Int) {i k : Nat} (h : i ≤ k) : ∀ n, k ≤ n → Sys.grd m rows n i = Sys.grd m rows k i := by
  intro n hn
  obtain ⟨q, rfl⟩ : ∃ q, n = k + q := ⟨n - k, by omega⟩
  clear hn
  induction q with
  | zero => rfl
  | succ q ih => rw [← Nat.add_assoc, Sys.grd_keep m rows (by omega)]; exact ih
/-- the numbers found so far, as the program keeps them: 0 at 0 -/
def solP (X : Nat → Int) (k : Nat) : List Int := (List.range 11).map fun i => if 0 < i ∧ i < k then X i else 0
theorem solP_len (X : Nat → Int) (k : Nat) : (solP X k).length = 11 := by simp [solP]
theorem solP_co {X : Nat → Int} {k i : Nat} (h : i ≤ 10) : Ser.co (solP X k) i = if 0 < i ∧ i < k then X i else 0 := by
  unfold Ser.co solP
  rw [List.getElem?_map, List.getElem?_range (by omega)]; rfl
theorem solP_zero (X : Nat → Int) : solP X 1 = List.replicate 11 0 := by
  refine Ser.list_ext (by rw [solP_len, List.length_replicate]) (fun i hi => ?_)
  rw [solP_len] at hi
  rw [solP_co (by omega), if_neg (by omega), Ser.co_zeros]
theorem solP_step (X : Nat → Int) {k : Nat} (h0 : 0 < k) (h : k ≤ 10) : (solP X k).set k (X k) = solP X (k + 1) := by
  refine Ser.list_ext (by rw [List.length_set, solP_len, solP_len]) (fun i hi => ?_)
  rw [List.length_set, solP_len] at hi
  rw [Ser.co_set (by rw [solP_len]; omega), solP_co (by omega), solP_co (by omega)]
  by_cases e : i = k
  · rw [if_pos e, if_pos (by omega), e]
  · rw [if_neg e]
    by_cases c : 0 < i ∧ i < k
    · rw [if_pos c, if_pos (by omega)]
    · rw [if_neg c, if_neg (by omega)]
def solL (X : Nat → Int) : List Int := solP X 11
/-- what the least solution's call returns -/
def LeastPost (o : Option (Nat → Int)) (w : World) (q : Ending) (w' : World) : Prop :=
  (match o with
  | some X => q = .returned (.tuple #[.agg (arrE (solL X)), .bool true])
  | none => q = .returned (.tuple #[.agg (arrE (List.replicate 11 0)), .bool false])) ∧ Below w.heap.size w w'
theorem addAll_drop (m : Int) (rows : Nat → List Int) (es : List (List Int)) {i : Nat} {e : List Int} (h : es[i]? = some e) : Sys.addAll m rows (es.drop i) = match Sys.addS m 10 rows e with
    | none => none
    | some r => Sys.addAll m r (es.drop (i + 1)) := by
  obtain ⟨hi, he⟩ := List.getElem?_eq_some_iff.1 h
  rw [List.drop_eq_getElem_cons hi, he]
  rfl
theorem neg_mod_mod (l m : Int) : -(l % m) % m = -l % m := by
  rw [show -(l % m) = -l + m * (l / m) by have := Int.emod_add_mul_ediv l m; omega]
  exact Int.add_mul_emod_self_left _ _ _
/-- the next number is what the division gives -/
theorem pick_fact {m : Int} {rows : Nat → List Int} (h : ∀ j, 0 < j → j ≤ 10 → 0 ≤ Sys.grd m rows 10 j ∧ Sys.grd m rows 10 j < m ∧ Sys.Sat m (Sys.grd m rows 10) (rows j) ∧ (solM m (Ser.co (rows j) j) (Sys.want m (rows j) j (Sys.grd m rows 10))).2 = 0)
    {k : Nat} (h0 : 0 < k) (hk : k ≤ 10) :
    (solM m (Ser.co (rows k) k) (-(Sys.low (rows k) k (solX (solP (Sys.grd m rows 10) k)) % m) % m)).2 = 0 ∧ (solM m (Ser.co (rows k) k) (-(Sys.low (rows k) k (solX (solP (Sys.grd m rows 10) k)) % m) % m)).1 = Sys.grd m rows 10 k := by
  have e1 : Sys.low (rows k) k (solX (solP (Sys.grd m rows 10) k)) = Sys.low (rows k) k (Sys.grd m rows 10) := Sys.low_congr (fun i hi => by
    unfold solX
    by_cases hz : i = 0
    · rw [if_pos hz, hz, Sys.grd_zero]
    · rw [if_neg hz, solP_co (by omega), if_pos (by omega)])
  rw [e1, neg_mod_mod]
  refine ⟨(h k h0 hk).2.2.2, ?_⟩
  obtain ⟨q, rfl⟩ : ∃ q, k = q + 1 := ⟨k - 1, by omega⟩
  rw [Sys.grd_stable m rows (Nat.le_refl (q + 1)) 10 hk, Sys.grd_at]
  unfold Sys.pick Sys.want
  rw [Sys.low_congr (x := Sys.grd m rows 10) (y := Sys.grd m rows q) (fun i hi => Sys.grd_stable m rows (by omega) 10 (by omega))]
theorem least_end {g g2 : Nat} {cs : Array Value} {x : Bool} {w w9 : World} {tmps : Array Value} {X : Option (Nat → Int)} {u : FrameMode} (h1 : tmps[4]?.getD undef = .pointer (some ⟨g, 0, none⟩)) (h2 : tmps[5]?.getD undef = .pointer (some ⟨g2, 0, none⟩)) (hu : settle u = .returning)
    (h3 : (loadVar 96 ⟨g, 0, none⟩).run Try.prog w9 = .ok (.agg cs) w9) (h4 : (loadVar 4 ⟨g2, 0, none⟩).run Try.prog w9 = .ok (.bool x) w9) (hp : LeastPost X w (.returned (.tuple #[.agg cs, .bool x])) w9) :
    Leaves Try.prog Try.f74 tmps (LeastPost X w) [] (settle u) w9 := by
  rw [hu]
  simp [Leaves, results, Try.results74, asAddr, h1, h2, h3, h4]
  exact hp
set_option maxHeartbeats 16000000 in
set_option maxRecDepth 100000 in
theorem leastSolution_any (m : Int) (m1 : 2 ≤ m) (m2 : m ≤ 10000) (A : Option Addr) (c : Nat) (es : List (List Int)) (w : World) (hO : ∀ e ∈ es, Sys.Ok m e) (hA : EqsAt w A es) (hn : es.length ≤ 1000) :
    Calls Try.prog 74 #[.int .i64 m, .slice A es.length c] w (LeastPost (Sys.leastS m es) w) := by
  have hmf : ∀ (fn : Fn) (first cap : Array Value) (w : World), (Instr.makeFunc fn first cap).run Try.prog w = .ok (.func fn first cap) w := fun _ _ _ _ => rfl
  have hmm := @run_makeMap Try.prog
  obtain ⟨N, hN⟩ : ∃ N, es.length = N := ⟨_, rfl⟩
  have HN := Lib.hid hN
  have HOO := Lib.hid hO
  have HAA := Lib.hid hA
  have HLS : Hid (Sys.leastS m es = (Sys.addAll m Sys.none0 es).map fun r => Sys.grd m r 10) := Lib.hid rfl
  obtain ⟨R, hR⟩ : ∃ R, Sys.leastS m es = R := ⟨_, rfl⟩
  rw [hR] at HLS
  rw [hN, hR]
  rw [hN] at hn
  clear hO hA hN hR
  go_enter_defers Try.func74, Try.ntmps74
  go_upto_region 3 with fail
  obtain ⟨W, hW⟩ : ∃ W, (((w.alloc (.cells #[.int .i64 0, .int .i64 0, .int .i64 0, .int .i64 0, .int .i64 0, .int .i64 0, .int .i64 0, .int .i64 0, .int .i64 0, .int .i64 0, .int .i64 0] 96)).alloc (.cells #[.bool false] 4)).alloc (.map #[] 0)).alloc (.cells #[.int .i64 m, .map (some (w.heap.size + 1 + 1))] 117) = W := ⟨_, rfl⟩
  have hs1 : (w.alloc (.cells #[.int .i64 0, .int .i64 0, .int .i64 0, .int .i64 0, .int .i64 0, .int .i64 0, .int .i64 0, .int .i64 0, .int .i64 0, .int .i64 0, .int .i64 0] 96)).heap.size = w.heap.size + 1 := by simp
  have hs2 : ((w.alloc (.cells #[.int .i64 0, .int .i64 0, .int .i64 0, .int .i64 0, .int .i64 0, .int .i64 0, .int .i64 0, .int .i64 0, .int .i64 0, .int .i64 0, .int .i64 0] 96)).alloc (.cells #[.bool false] 4)).heap.size = w.heap.size + 1 + 1 := by simp
  have hs3 : (((w.alloc (.cells #[.int .i64 0, .int .i64 0, .int .i64 0, .int .i64 0, .int .i64 0, .int .i64 0, .int .i64 0, .int .i64 0, .int .i64 0, .int .i64 0, .int .i64 0] 96)).alloc (.cells #[.bool false] 4)).alloc (.map #[] 0)).heap.size = w.heap.size + 1 + 1 + 1 := by simp
  have v1 : VarC 96 W w.heap.size #[.int .i64 0, .int .i64 0, .int .i64 0, .int .i64 0, .int .i64 0, .int .i64 0, .int .i64 0, .int .i64 0, .int .i64 0, .int .i64 0, .int .i64 0] := by rw [← hW]; exact (((VarC.new _ _ _).keep (below_one _ _)).keep (below_one _ _)).keep (below_one _ _)
  have v2 : VarC 4 W (w.heap.size + 1) #[.bool false] := by
    have := ((VarC.new 4 (w.alloc (.cells #[.int .i64 0, .int .i64 0, .int .i64 0, .int .i64 0, .int .i64 0, .int .i64 0, .int .i64 0, .int .i64 0, .int .i64 0, .int .i64 0, .int .i64 0] 96)) #[.bool false]).keep (below_one _ (.map #[] 0))).keep (below_one _ (.cells #[.int .i64 m, .map (some (w.heap.size + 1 + 1))] 117))
    rw [hs1, hW] at this
    exact this
  have v3 : OwnM W (w.heap.size + 1 + 1) 0 (.map []) := by
    have := (World.ownsMap_made ((w.alloc (.cells #[.int .i64 0, .int .i64 0, .int .i64 0, .int .i64 0, .int .i64 0, .int .i64 0, .int .i64 0, .int .i64 0, .int .i64 0, .int .i64 0, .int .i64 0] 96)).alloc (.cells #[.bool false] 4)) Try.prog 2 rdE).alloc (.cells #[.int .i64 m, .map (some (w.heap.size + 1 + 1))] 117)
    rw [hs2, hW] at this
    exact this
  have v4 : VarC 117 W (w.heap.size + 1 + 1 + 1) #[.int .i64 m, .map (some (w.heap.size + 1 + 1))] := by
    have := VarC.new 117 (((w.alloc (.cells #[.int .i64 0, .int .i64 0, .int .i64 0, .int .i64 0, .int .i64 0, .int .i64 0, .int .i64 0, .int .i64 0, .int .i64 0, .int .i64 0, .int .i64 0] 96)).alloc (.cells #[.bool false] 4)).alloc (.map #[] 0)) #[.int .i64 m, .map (some (w.heap.size + 1 + 1))]
    rw [hs3, hW] at this
    exact this
  have HBW := Lib.hid (show Below w.heap.size w W by rw [← hW]; exact below_alloc _ (below_alloc _ (below_alloc _ (below_one _ _))))
  have HW := Lib.hid hW
  have V1 := Lib.hid v1
  have V2 := Lib.hid v2
  have V3 := Lib.hid v3
  have V4 := Lib.hid v4
  rw [HW.out]
  clear v1 v2 v3 v4 hW hs1 hs2 hs3 hmm HW
  go_wp2
  go_loopw [17] (fun s17 wr => ∃ (i n : Nat) (rows : Nat → List Int) (D : DataW Unit), i ≤ N ∧ s17 = .int .i64 i ∧ Sys.Tri m rows ∧ (∀ k, 0 < k → k ≤ 10 → Sys.Clo m rows k) ∧ Sys.addAll m Sys.none0 es = Sys.addAll m rows (es.drop i) ∧ n ≤ 1023 * i ∧ OwnM wr (w.heap.size + 1 + 1) n D ∧ MapRows D rows ∧ VarC 96 wr w.heap.size #[.int .i64 0, .int .i64 0, .int .i64 0, .int .i64 0, .int .i64 0, .int .i64 0, .int .i64 0, .int .i64 0, .int .i64 0, .int .i64 0, .int .i64 0] ∧ VarC 4 wr (w.heap.size + 1) #[.bool false] ∧ VarC 117 wr (w.heap.size + 1 + 1 + 1) #[.int .i64 m, .map (some (w.heap.size + 1 + 1))] ∧ Below w.heap.size w wr) (fun s17 _ => N - (intOf s17).toNat)
  case atStart => exact ⟨0, 0, Sys.none0, .map [], Nat.zero_le _, rfl, Sys.tri0 (by omega), fun k _ _ => Sys.clo0 m k, rfl, Nat.zero_le _, V3.out, MapRows.empty, V1.out, V2.out, V4.out, HBW.out⟩
  case round =>
    clear V1 V2 V3 V4 HBW
    obtain ⟨i, n, rows, D, hi, rfl, hT, hC, hE, hnn, hM, hD, u1, u2, u4, hB⟩ := hrel
    have HT := Lib.hid hT
    have HCL := Lib.hid hC
    have HE := Lib.hid hE
    have HNN := Lib.hid hnn
    have HM := Lib.hid hM
    have HD := Lib.hid hD
    have U1 := Lib.hid u1
    have U2 := Lib.hid u2
    have U4 := Lib.hid u4
    have HB := Lib.hid hB
    clear hT hC hE hnn hM hD u1 u2 u4 hB
    by_cases hlt : i < N
    · have i1 : (0 : Int) ≤ (i : Int) := by omega
      have i2 : (i : Int) < (N : Int) := by omega
      obtain ⟨e, he⟩ : ∃ e, es[i]? = some e := ⟨_, List.getElem?_eq_getElem (by rw [HN.out]; exact hlt)⟩
      have hok := HOO.out e (List.mem_of_getElem? he)
      obtain ⟨b, off, rfl, hbl, hcell⟩ := (HAA.out.below HB.out (Nat.le_refl _)) (by intro h; rw [h] at he; cases he)
      have hrg := hcell i e he
      have hdr := addAll_drop m rows es he
      have hadd := Sys.addS_ok m1 m2 10 rows e HT.out hok (Sys.lastF_le e 10) (Nat.le_refl _)
      have HRG := Lib.hid hrg
      have HOK := Lib.hid hok
      have HDR := Lib.hid (HE.out.trans hdr)
      have HAD := Lib.hid hadd
      have hse : (arrE e).size = 11 := by rw [arrE_size, hok.len]
      have HSE := Lib.hid hse
      have HSL := Lib.hid (show (e.map (Value.int .i64)).length = 11 by rw [List.length_map, hok.len])
      have HO1 := Lib.hid (arrE_one e)
      have HTEN := Lib.hid (fun W0 (h : OwnM W0 (w.heap.size + 1 + 1) n D) => add_ten m m1 m2 (w.heap.size + 1 + 1) rows e n D W0 HT.out hok (by have := HNN.out; omega) h HD.out)
      clear hcell hrg hdr hadd he hok hse
      obtain ⟨w2, hw2⟩ : ∃ w2, (wr.alloc (.cells #[.int .i64 0, .int .i64 0, .int .i64 0, .int .i64 0, .int .i64 0, .int .i64 0, .int .i64 0, .int .i64 0, .int .i64 0, .int .i64 0, .int .i64 0] 96)).setRow wr.heap.size (arrE e) = w2 := ⟨_, rfl⟩
      have hw3 := hw2
      rw [World.setRow_alloc_new] at hw3
      have e8 : VarC 96 w2 wr.heap.size (arrE e) := by rw [← hw3]; exact VarC.new _ _ _
      have hb2 : Below wr.heap.size wr w2 := by rw [← hw3]; exact below_one _ _
      have hM2 : OwnM w2 (w.heap.size + 1 + 1) n D := by rw [← hw3]; exact HM.out.alloc _
      have y1 := (U4.out.keep hb2).cell 0 _ rfl
      have y2 := (U4.out.keep hb2).cell 1 _ rfl
      have K1 := Lib.hid (U1.out.keep hb2)
      have K2 := Lib.hid (U2.out.keep hb2)
      have K4 := Lib.hid (U4.out.keep hb2)
      have HB2 := Lib.hid (below_step HB.out hb2)
      have HTN := Lib.hid (HTEN.out w2 hM2)
      have HWs : Hid (w.heap.size + 1 + 1 + 1 < wr.heap.size) := Lib.hid U4.out.lt
      have HW2 := Lib.hid hw2
      rw [← hw2] at y1 y2 e8
      have E8 := Lib.hid e8
      clear e8 hb2 hM2 hw2 hw3 HTEN HM U1 U2 U4 HB
      go_upto_region 5 with fail
      go_wp2_with (first
        | (refine wpList_load_mid rfl _ _ rfl b (off + i * 11) rfl (e.map (Value.int .i64)) _ HRG.out Try.underlying96 rfl (by rw [HSL.out]; exact info_eqn) ?_)
        | (refine wpL_storeE rfl _ _ rfl _ #[.int .i64 0, .int .i64 0, .int .i64 0, .int .i64 0, .int .i64 0, .int .i64 0, .int .i64 0, .int .i64 0, .int .i64 0, .int .i64 0, .int .i64 0] (arrE e) _ rfl rfl (VarC.new 96 wr #[.int .i64 0, .int .i64 0, .int .i64 0, .int .i64 0, .int .i64 0, .int .i64 0, .int .i64 0, .int .i64 0, .int .i64 0, .int .i64 0, .int .i64 0]) rfl HSE.out HO1.out ?_)
        | (refine wpL_loadE rfl _ rfl _ (arrE e) _ rfl E8.out HSE.out ?_))
      rw [HW2.out]
      clear y1 y2 E8
      cases hA : Sys.addS m 10 rows e with
      | none =>
        have hd := HDR.out
        rw [hA] at hd
        dsimp only at hd
        have hl := HLS.out
        rw [hd] at hl
        have HRN : Hid (R = none) := Lib.hid hl
        have ht := HTN.out
        rw [hA] at ht
        have HT0 := Lib.hid ht
        clear hd hl ht hA
        refine HT0.out.mono ?_
        rintro q w3 ⟨⟨s, rfl⟩, hg3⟩
        have z1 := K1.out.other hg3 (by intro h; injection h; omega)
        have z2 := K2.out.other hg3 (by intro h; injection h; omega)
        have hb3 : Below w.heap.size w w3 := HB2.out.grown hg3 HB2.out.size (fun k h => by injection h; omega)
        have Z1 := Lib.hid z1
        have Z2 := Lib.hid z2
        have HB3 := Lib.hid hb3
        clear z1 z2 hb3 hg3
        go_wp2
        refine leaves_cons (f := 105) (args := #[.pointer (some ⟨w.heap.size, 0, none⟩), .pointer (some ⟨w.heap.size + 1, 0, none⟩)]) (by simp) (by simp [go_sem]) ?_
        refine (catch_panicking w.heap.size (w.heap.size + 1) #[.int .i64 0, .int .i64 0, .int .i64 0, .int .i64 0, .int .i64 0, .int .i64 0, .int .i64 0, .int .i64 0, .int .i64 0, .int .i64 0, .int .i64 0] (.bool false) 9 _ [] w3 Z1.out rfl Z2.out (by omega)).mono ?_
        rintro q u' w4 ⟨rfl, rfl, rfl⟩
        have y1 := ((Z1.out.setRow (cs' := #[.int .i64 0, .int .i64 0, .int .i64 0, .int .i64 0, .int .i64 0, .int .i64 0, .int .i64 0, .int .i64 0, .int .i64 0, .int .i64 0, .int .i64 0])).far (w.heap.size + 1) 0 (.bool false) (by omega)).varE rfl
        have y2 := ((Z2.out.setRow_ne (cs' := #[.int .i64 0, .int .i64 0, .int .i64 0, .int .i64 0, .int .i64 0, .int .i64 0, .int .i64 0, .int .i64 0, .int .i64 0, .int .i64 0, .int .i64 0]) (show w.heap.size + 1 ≠ w.heap.size by omega)).set 0 (.bool false)).cell 0 _ rfl
        have hfin := (below_setRow HB3.out (Nat.le_refl _) #[.int .i64 0, .int .i64 0, .int .i64 0, .int .i64 0, .int .i64 0, .int .i64 0, .int .i64 0, .int .i64 0, .int .i64 0, .int .i64 0, .int .i64 0]).setCell (p := ⟨w.heap.size + 1, 0, none⟩) (show w.heap.size ≤ w.heap.size + 1 by omega) (.bool false)
        rw [HRN.out]
        obtain ⟨w9, hw9⟩ : ∃ w9, (w3.setRow w.heap.size #[.int .i64 0, .int .i64 0, .int .i64 0, .int .i64 0, .int .i64 0, .int .i64 0, .int .i64 0, .int .i64 0, .int .i64 0, .int .i64 0, .int .i64 0]).setCell ⟨w.heap.size + 1, 0, none⟩ (.bool false) = w9 := ⟨_, rfl⟩
        rw [hw9] at y1 y2 hfin ⊢
        have y3 : (loadVar 4 ⟨w.heap.size + 1, 0, none⟩).run Try.prog w9 = .ok (.bool false) w9 := by simp [go_sem, y2]
        exact least_end (X := none) (by simp) (by simp) (by simp [settle]) y1 y3 ⟨rfl, hfin⟩
      | some r2 =>
        have hd := HDR.out
        rw [hA] at hd
        dsimp only at hd
        have ht := HTN.out
        rw [hA] at ht
        have HT0 := Lib.hid ht
        have HDD := Lib.hid hd
        have HAO := Lib.hid (HAD.out.1 r2 hA)
        clear hd ht hA
        refine HT0.out.mono ?_
        rintro q w3 ⟨rfl, ⟨D3, hM3, hD3⟩, hg3⟩
        have Z1 := Lib.hid (K1.out.other hg3 (by intro h; injection h; omega))
        have Z2 := Lib.hid (K2.out.other hg3 (by intro h; injection h; omega))
        have Z4 := Lib.hid (K4.out.other hg3 (by intro h; injection h; omega))
        have HB3 : Hid (Below w.heap.size w w3) := Lib.hid (HB2.out.grown hg3 HB2.out.size (fun k h => by injection h; omega))
        have HM3 := Lib.hid hM3
        have HD3 := Lib.hid hD3
        clear hM3 hD3 hg3
        go_wp2
        go_roundw
        case rel => first
          | exact ⟨i + 1, n + 1023, r2, D3, hlt, by go_num, HAO.out.tri, HAO.out.clo HCL.out, HDD.out, by have := HNN.out; omega, HM3.out, HD3.out, Z1.out, Z2.out, Z4.out, HB3.out⟩
          | ((repeat apply Exists.intro); exact ⟨⟨i + 1, n + 1023, r2, D3, hlt, by go_num, HAO.out.tri, HAO.out.clo HCL.out, HDD.out, by have := HNN.out; omega, HM3.out, HD3.out, Z1.out, Z2.out, Z4.out, HB3.out⟩, rfl⟩)
        case measure => simp only [intOf]; omega
    · obtain rfl : i = N := by omega
      have i2 : ¬ ((i : Int) < (i : Int)) := by omega
      have hE := HE.out
      rw [List.drop_of_length_le (by rw [HN.out]; exact Nat.le_refl _)] at hE
      have hl := HLS.out
      rw [hE] at hl
      have HRS : Hid (R = some (Sys.grd m rows 10)) := Lib.hid hl
      have HGO := Lib.hid (Sys.grd_ok m1 m2 HT.out HCL.out)
      obtain ⟨X, hX⟩ : ∃ X, Sys.grd m rows 10 = X := ⟨_, rfl⟩
      rw [hX] at HRS
      have HX := Lib.hid hX
      have u1 := U1.out
      rw [show (#[.int .i64 0, .int .i64 0, .int .i64 0, .int .i64 0, .int .i64 0, .int .i64 0, .int .i64 0, .int .i64 0, .int .i64 0, .int .i64 0, .int .i64 0] : Array Value) = arrE (solP X 1) by rw [solP_zero]; rfl] at u1
      have UU := Lib.hid u1
      clear hE hl hX u1 U1 HE HLS hlt
      go_wp2
      go_loopw [9] (fun s9 wq => ∃ k : Nat, 1 ≤ k ∧ k ≤ 11 ∧ s9 = .int .i64 k ∧ OwnM wq (w.heap.size + 1 + 1) n D ∧ VarC 96 wq w.heap.size (arrE (solP X k)) ∧ VarC 4 wq (w.heap.size + 1) #[.bool false] ∧ VarC 117 wq (w.heap.size + 1 + 1 + 1) #[.int .i64 m, .map (some (w.heap.size + 1 + 1))] ∧ Below w.heap.size w wq) (fun s9 _ => 12 - (intOf s9).toNat)
      case atStart => exact ⟨1, Nat.le_refl _, by omega, rfl, HM.out, UU.out, U2.out, U4.out, HB.out⟩
      case round =>
        clear UU U2 U4 HB HM
        obtain ⟨k, k1, k11, rfl, hM, v1, v2, v4, hB⟩ := hrel
        by_cases hk : k ≤ 10
        · have hX := HX.out
          have hpf := pick_fact (HGO.out 10 (Nat.le_refl _)) (k := k) (by omega) hk
          have hgo := HGO.out 10 (Nat.le_refl _)
          rw [hX] at hpf hgo
          have hstep := solP_step X (k := k) (by omega) hk
          have hok := HT.out.ok k
          have hbs : ∀ i, -10000 ≤ Ser.co (solP X k) i ∧ Ser.co (solP X k) i ≤ 10000 := fun i => by
            by_cases hi : i ≤ 10
            · rw [solP_co hi]
              by_cases hc : 0 < i ∧ i < k
              · rw [if_pos hc]; have := hgo i hc.1 hi; omega
              · rw [if_neg hc]; omega
            · rw [Ser.co_over (by rw [solP_len]; omega)]; omega
          have HVB := Lib.hid (fun W0 => valueBefore_any m (rows k) (solP X k) k W0 m1 m2 k1 hk hok.len (solP_len X k) (hok.bd m2) hbs)
          obtain ⟨V, hV⟩ : ∃ V, Sys.low (rows k) k (solX (solP X k)) % m = V := ⟨_, rfl⟩
          have hVb : 0 ≤ V ∧ V < m := by rw [← hV]; exact ⟨Int.emod_nonneg _ (by omega), Int.emod_lt_of_pos _ (by omega)⟩
          rw [hV] at HVB hpf
          have HRM := Lib.hid (fun W0 => remainder_any m (-V) W0 (by omega) m2 (by omega) (by omega))
          obtain ⟨T, hTT⟩ : ∃ T, -V % m = T := ⟨_, rfl⟩
          rw [hTT] at HRM hpf
          have hcr := (show (arrE (rows k))[k]? = some (.int .i64 (Ser.co (rows k) k)) from arrE_at (by rw [hok.len]; omega))
          obtain ⟨C, hC⟩ : ∃ C, Ser.co (rows k) k = C := ⟨_, rfl⟩
          rw [hC] at hpf hcr
          have HQT := Lib.hid (fun W0 => by have := quot_yes m T C W0 hpf.1; rw [hpf.2] at this; exact this)
          have hlk := OwnM.look hM HD.out (k := k) (by omega) hk
          have hs1 : (arrE (rows k)).size = 11 := by rw [arrE_size, hok.len]
          have hs2 : (arrE (solP X k)).size = 11 := by rw [arrE_size, solP_len]
          have ho1 := arrE_one (rows k)
          obtain ⟨cr, hcr2⟩ : ∃ c, arrE (rows k) = c := ⟨_, rfl⟩
          obtain ⟨cs, hcs2⟩ : ∃ c, arrE (solP X k) = c := ⟨_, rfl⟩
          rw [hcr2] at hcr hlk hs1 ho1
          rw [hcr2, hcs2] at HVB
          have v1' := v1
          rw [hcs2] at hs2 v1'
          have n1 : IntKind.i64.wrap (-V) = -V := by rw [IntKind.wrap_i64]; omega
          obtain ⟨Xk, hXk⟩ : ∃ Y, X k = Y := ⟨_, rfl⟩
          rw [hXk] at HQT hstep
          have y1 := v4.cell 0 _ rfl
          have y2 := v4.cell 1 _ rfl
          obtain ⟨w5, hw5⟩ : ∃ w5, (wr.alloc (.cells #[.int .i64 0, .int .i64 0, .int .i64 0, .int .i64 0, .int .i64 0, .int .i64 0, .int .i64 0, .int .i64 0, .int .i64 0, .int .i64 0, .int .i64 0] 96)).setRow wr.heap.size cr = w5 := ⟨_, rfl⟩
          have hw6 := hw5
          rw [World.setRow_alloc_new] at hw6
          have e10 : VarC 96 w5 wr.heap.size cr := by rw [← hw6]; exact VarC.new _ _ _
          have hb5 : Below wr.heap.size wr w5 := by rw [← hw6]; exact below_one _ _
          have hlt1 : w.heap.size + 1 + 1 + 1 < wr.heap.size := v4.lt
          have HS0 : Hid ((VarC 96 w5.drew wr.heap.size cr ∧ VarC 96 w5.drew w.heap.size cs) ∧ w5.drew.cell? ⟨wr.heap.size, k, none⟩ = some (.int .i64 C)) := Lib.hid ⟨⟨e10.drew, (v1'.keep hb5).drew⟩, e10.drew.cell k _ hcr⟩
          have HSK : Hid (∀ w', Below w5.heap.size w5 w' → (VarC 96 w' wr.heap.size cr ∧ VarC 96 w' w.heap.size cs) ∧ w'.cell? ⟨wr.heap.size, k, none⟩ = some (.int .i64 C)) := Lib.hid (fun w' h => ⟨⟨e10.keep h, (v1'.keep hb5).keep h⟩, (e10.keep h).cell k _ hcr⟩)
          have HFIN : Hid (∀ w', Below w5.heap.size w5 w' → VarC 96 (w'.setCell ⟨w.heap.size, k, none⟩ (.int .i64 Xk)) w.heap.size (arrE (solP X (k + 1))) ∧ VarC 4 (w'.setCell ⟨w.heap.size, k, none⟩ (.int .i64 Xk)) (w.heap.size + 1) #[.bool false] ∧ VarC 117 (w'.setCell ⟨w.heap.size, k, none⟩ (.int .i64 Xk)) (w.heap.size + 1 + 1 + 1) #[.int .i64 m, .map (some (w.heap.size + 1 + 1))] ∧ OwnM (w'.setCell ⟨w.heap.size, k, none⟩ (.int .i64 Xk)) (w.heap.size + 1 + 1) n D ∧ Below w.heap.size w (w'.setCell ⟨w.heap.size, k, none⟩ (.int .i64 Xk)) ∧ (w'.cell? ⟨w.heap.size, k, none⟩).isSome = true ∧ w'.frozen? ⟨w.heap.size, k, none⟩ = false) := Lib.hid (fun w' h => by
            have hb := below_step hb5 h
            refine ⟨?_, (v2.keep hb).far _ _ _ (by omega), (v4.keep hb).far _ _ _ (by omega), World.ownsMap.kept (World.ownsMap.kept hM (grown_of_below hb none) (by simp)) (grown_setCell _ _ _ _) (by intro e; injection e; omega), (below_step hB hb).setCell (Nat.le_refl _) _, ?_, (v1.keep hb).fz k⟩
            · have := (v1.keep hb).set k (.int .i64 Xk)
              rw [arrE_set, hstep] at this
              exact this
            · rw [(v1.keep hb).cell k _ (arrE_at (by rw [solP_len]; omega))]; rfl)
          have HW5 := Lib.hid hw5
          have Z1 := Lib.hid hs1
          have Z2 := Lib.hid hs2
          have O1 := Lib.hid ho1
          have i3 : (k : Int) ≤ 10 := by omega
          have i4 : (0 : Int) ≤ (k : Int) := by omega
          have i5 : (k : Int) < 11 := by omega
          clear hX hpf hgo hstep hok hbs hV hTT hcr hC hcr2 hcs2 hXk e10 hb5 v1 v1' v2 v4 hM hB hs1 hs2 ho1 hw5 hw6
          go_upto_region 11 with fail
          go_wp2_with (refine wpL_storeE rfl _ _ rfl _ #[.int .i64 0, .int .i64 0, .int .i64 0, .int .i64 0, .int .i64 0, .int .i64 0, .int .i64 0, .int .i64 0, .int .i64 0, .int .i64 0, .int .i64 0] cr _ rfl rfl (VarC.new 96 wr #[.int .i64 0, .int .i64 0, .int .i64 0, .int .i64 0, .int .i64 0, .int .i64 0, .int .i64 0, .int .i64 0, .int .i64 0, .int .i64 0, .int .i64 0]) rfl Z1.out O1.out ?_)
          rw [HW5.out]
          try simp only [Act.put]
          clear hlk y1 y2
          refine wp_region_noPanic ?_
          refine region_tilN (fun w' => (VarC 96 w' wr.heap.size cr ∧ VarC 96 w' w.heap.size cs) ∧ w'.cell? ⟨wr.heap.size, k, none⟩ = some (.int .i64 C)) 15 (by kernel_rfl) ?_
          refine tilN_take (i := 0) (dst := some 33) (.int .i64 k) rfl rfl (by kernel_rfl) (by kernel_rfl) (by kernel_rfl) (by kernel_rfl) (fun _ _ _ h => h) (Or.inl ⟨by rfl, ?_⟩) HS0.out ?_
          · rintro w' ⟨⟨h1, h2⟩, h3⟩
            go_simp
          simp only [Act.put, List.setIfInBounds_toArray, List.set_cons_zero, List.set_cons_succ]
          refine tilN_take (i := 1) (dst := some 34) (.int .i64 m) rfl rfl (by kernel_rfl) (by kernel_rfl) (by kernel_rfl) (by kernel_rfl) (fun _ _ _ h => h) (Or.inl ⟨by rfl, ?_⟩) HS0.out ?_
          · rintro w' ⟨⟨h1, h2⟩, h3⟩
            go_simp
          simp only [Act.put, List.setIfInBounds_toArray, List.set_cons_zero, List.set_cons_succ]
          refine tilN_take (i := 2) (dst := some 35) (.int .i64 m) rfl rfl (by kernel_rfl) (by kernel_rfl) (by kernel_rfl) (by kernel_rfl) (fun _ _ _ h => h) (Or.inl ⟨by rfl, ?_⟩) HS0.out ?_
          · rintro w' ⟨⟨h1, h2⟩, h3⟩
            go_simp
          simp only [Act.put, List.setIfInBounds_toArray, List.set_cons_zero, List.set_cons_succ]
          refine tilN_take (i := 3) (dst := some 36) (.agg cr) rfl rfl (by kernel_rfl) (by kernel_rfl) (by kernel_rfl) (by kernel_rfl) (fun _ _ _ h => h) (yieldsE (by rfl) _ rfl _ cr _ rfl (fun w' h => h.1.1) Z1.out) HS0.out ?_
          simp only [Act.put, List.setIfInBounds_toArray, List.set_cons_zero, List.set_cons_succ]
          refine tilN_take (i := 4) (dst := some 37) (.int .i64 m) rfl rfl (by kernel_rfl) (by kernel_rfl) (by kernel_rfl) (by kernel_rfl) (fun _ _ _ h => h) (Or.inl ⟨by rfl, ?_⟩) HS0.out ?_
          · rintro w' ⟨⟨h1, h2⟩, h3⟩
            go_simp
          simp only [Act.put, List.setIfInBounds_toArray, List.set_cons_zero, List.set_cons_succ]
          refine tilN_take (i := 5) (dst := some 38) (.agg cs) rfl rfl (by kernel_rfl) (by kernel_rfl) (by kernel_rfl) (by kernel_rfl) (fun _ _ _ h => h) (yieldsE (by rfl) _ rfl _ cs _ rfl (fun w' h => h.1.2) Z2.out) HS0.out ?_
          simp only [Act.put, List.setIfInBounds_toArray, List.set_cons_zero, List.set_cons_succ]
          refine tilN_take (i := 6) (dst := some 39) (.int .i64 k) rfl rfl (by kernel_rfl) (by kernel_rfl) (by kernel_rfl) (by kernel_rfl) (fun _ _ _ h => h) (Or.inl ⟨by rfl, ?_⟩) HS0.out ?_
          · rintro w' ⟨⟨h1, h2⟩, h3⟩
            go_simp
          simp only [Act.put, List.setIfInBounds_toArray, List.set_cons_zero, List.set_cons_succ]
          refine tilN_take (i := 10) (dst := some 43) (.int .i64 k) rfl rfl (by kernel_rfl) (by kernel_rfl) (by kernel_rfl) (by kernel_rfl) (fun _ _ _ h => h) (Or.inl ⟨by rfl, ?_⟩) HS0.out ?_
          · rintro w' ⟨⟨h1, h2⟩, h3⟩
            go_simp
          simp only [Act.put, List.setIfInBounds_toArray, List.set_cons_zero, List.set_cons_succ]
          refine tilN_take (i := 11) (dst := some 44) (.pointer (some ⟨wr.heap.size, k, none⟩)) rfl rfl (by kernel_rfl) (by kernel_rfl) (by kernel_rfl) (by kernel_rfl) (fun _ _ _ h => h) (Or.inl ⟨by rfl, ?_⟩) HS0.out ?_
          · rintro w' ⟨⟨h1, h2⟩, h3⟩
            go_simp
          simp only [Act.put, List.setIfInBounds_toArray, List.set_cons_zero, List.set_cons_succ]
          refine tilN_take (i := 12) (dst := some 45) (.int .i64 C) rfl rfl (by kernel_rfl) (by kernel_rfl) (by kernel_rfl) (by kernel_rfl) (fun _ _ _ h => h) (Or.inl ⟨by rfl, ?_⟩) HS0.out ?_
          · rintro w' ⟨⟨h1, h2⟩, h3⟩
            go_simp
          simp only [Act.put, List.setIfInBounds_toArray, List.set_cons_zero, List.set_cons_succ]
          refine tilN_one (i := 7) (by kernel_rfl) rfl (fun K hK => ?_)
          go_simp
          (go_at_call 109; with_reducible refine Calls.mono (HVB.out _) ?_; rintro e w6 ⟨rfl, hb6⟩; have b6 := below_step (below_drew0 w5) hb6)
          dsimp only
          refine hK.out _ _ (fun _ => HSK.out _ b6) ?_
          clear hK K
          try simp only [Act.put, List.setIfInBounds_toArray, List.set_cons_zero, List.set_cons_succ]
          refine tilN_take (i := 8) (dst := some 41) (.int .i64 (-V)) rfl rfl (by kernel_rfl) (by kernel_rfl) (by kernel_rfl) (by kernel_rfl) (fun _ _ _ h => h) (Or.inl ⟨by rfl, ?_⟩) (HSK.out _ b6) ?_
          · rintro w' ⟨⟨h1, h2⟩, h3⟩
            go_simp
          simp only [Act.put, List.setIfInBounds_toArray, List.set_cons_zero, List.set_cons_succ]
          refine tilN_one (i := 9) (by kernel_rfl) rfl (fun K hK => ?_)
          go_simp
          (go_at_call 108; with_reducible refine Calls.mono (HRM.out _) ?_; rintro e w7 ⟨rfl, rfl⟩)
          dsimp only
          refine hK.out _ _ (fun _ => HSK.out _ b6) ?_
          clear hK K
          try simp only [Act.put, List.setIfInBounds_toArray, List.set_cons_zero, List.set_cons_succ]
          refine tilN_one (i := 13) (by kernel_rfl) rfl (fun K hK => ?_)
          go_simp
          (go_at_call 107; with_reducible refine Calls.mono (HQT.out _) ?_; rintro e w8 ⟨rfl, hb8⟩; have b8 := below_step b6 hb8)
          dsimp only
          refine hK.out _ _ (fun _ => HSK.out _ b8) ?_
          clear hK K
          try simp only [Act.put, List.setIfInBounds_toArray, List.set_cons_zero, List.set_cons_succ]
          have hf := HFIN.out _ b8
          obtain ⟨f1, f2, f3, f4, f5, f6, f7⟩ := hf
          obtain ⟨old, f6⟩ := Option.isSome_iff_exists.1 f6
          have F1 := Lib.hid f1
          have F2 := Lib.hid f2
          have F3 := Lib.hid f3
          have F4 := Lib.hid f4
          have F5 := Lib.hid f5
          clear f1 f2 f3 f4 f5
          refine tilN_one (i := 14) (by kernel_rfl) rfl (fun K hK => ?_)
          go_simp
          try dsimp only
          refine hK.out _ _ (fun _ => (HSK.out _ b8)) ?_
          clear hK K
          try simp only [Act.put, List.setIfInBounds_toArray, List.set_cons_zero, List.set_cons_succ]
          clear b6 b8 hb6 hb8
          refine tilN_one (i := 15) (by kernel_rfl) rfl (fun K hK => ?_)
          go_simp
          refine hK.out _ _ (fun hlt => absurd hlt (by decide)) ?_
          clear hK K
          refine tilN_done (by kernel_rfl) ?_
          refine NoPanic.normal ?_
          go_wp2
          exact ⟨⟨k + 1, by omega, by omega, by go_num, F4.out, F1.out, F2.out, F3.out, F5.out⟩, by simp only [intOf]; omega⟩
        · obtain rfl : k = 11 := by omega
          have i3 : ¬ ((11 : Nat) : Int) ≤ 10 := by omega
          obtain ⟨cs, hcs⟩ : ∃ c, arrE (solP X 11) = c := ⟨_, rfl⟩
          have hs1 : cs.size = 11 := by rw [← hcs, arrE_size, solP_len]
          have ho1 : (cs.all fun x => x.oneCell') = true := by rw [← hcs]; exact arrE_one _
          rw [hcs] at v1
          have hv1 := v1
          have V1 := Lib.hid v1
          have V2 := Lib.hid v2
          have Z1 := Lib.hid hs1
          have O1 := Lib.hid ho1
          have HB := Lib.hid hB
          have HCS := Lib.hid hcs
          have y1 := ((v2.setRow_ne (cs' := cs) (show w.heap.size + 1 ≠ w.heap.size by omega))).cell 0 _ rfl
          have y2 := ((v2.setRow_ne (cs' := cs) (show w.heap.size + 1 ≠ w.heap.size by omega))).fz 0
          clear hM v1 v2 v4 hB hs1 ho1 hcs hv1
          go_upto_region 13 with fail
          go_wp2_with (first
            | (refine wpL_loadE rfl _ rfl _ cs _ rfl V1.out Z1.out ?_)
            | (refine wpL_storeE rfl _ _ rfl _ cs cs _ rfl rfl V1.out Z1.out Z1.out O1.out ?_))
          go_wp2
          refine leaves_cons (f := 105) (args := #[.pointer (some ⟨w.heap.size, 0, none⟩), .pointer (some ⟨w.heap.size + 1, 0, none⟩)]) (by simp) (by simp [go_sem]) ?_
          refine (catch_idle w.heap.size (w.heap.size + 1) _).mono ?_
          rintro q u' w4 ⟨rfl, rfl, rfl⟩
          have q1 := ((V1.out.setRow (cs' := cs)).far (w.heap.size + 1) 0 (.bool true) (by omega)).varE Z1.out
          have q2 := ((V2.out.setRow_ne (cs' := cs) (show w.heap.size + 1 ≠ w.heap.size by omega)).set 0 (.bool true)).cell 0 _ rfl
          have hfin := (below_setRow HB.out (Nat.le_refl _) cs).setCell (p := ⟨w.heap.size + 1, 0, none⟩) (show w.heap.size ≤ w.heap.size + 1 by omega) (.bool true)
          rw [HRS.out]
          obtain ⟨w9, hw9⟩ : ∃ w9, (wr.setRow w.heap.size cs).setCell ⟨w.heap.size + 1, 0, none⟩ (.bool true) = w9 := ⟨_, rfl⟩
          rw [hw9] at q1 q2 hfin ⊢
          have y3 : (loadVar 4 ⟨w.heap.size + 1, 0, none⟩).run Try.prog w9 = .ok (.bool true) w9 := by simp [go_sem, q2]
          exact least_end (X := some X) (by simp) (by simp) (by simp [settle]) q1 y3 ⟨by rw [← HCS.out]; rfl, hfin⟩
end Go.Proofs.Ytlpfifdocgljnac

/- Plain theory of laws: powers of a table, Horner's rule for tables, faults, inverses: no program in sight. -/
namespace Go.Proofs.Ytlpfifdocgljnac
namespace Pl
open Ser (psum cv pw)

theorem mul2_congr {m : Int} {a a' b b' : Nat → Nat → Int} {d : Nat} (h : Eq m d a a') (k : Eq m d b b') : Eq m d (mul2 a b) (mul2 a' b') := by
  intro p q hpq
  refine Ser.psum_congr _ (fun i hi => Ser.psum_congr _ (fun j hj => Ser.mul_cong (h i j (by omega)) (k _ _ (by omega))))
theorem mul2_add (a a' b : Nat → Nat → Int) (p q : Nat) : mul2 (fun i j => a i j + a' i j) b p q = mul2 a b p q + mul2 a' b p q := by
  unfold mul2
  rw [← Ser.psum_add]
  refine Ser.psum_ext _ (fun i _ => ?_)
  rw [← Ser.psum_add]
  exact Ser.psum_ext _ (fun j _ => Int.add_mul _ _ _)
theorem mul2_smul (c : Int) (a b : Nat → Nat → Int) (p q : Nat) : mul2 (fun i j => c * a i j) b p q = c * mul2 a b p q := by
  unfold mul2
  rw [← Ser.psum_mul]
  refine Ser.psum_ext _ (fun i _ => ?_)
  rw [← Ser.psum_mul]
  exact Ser.psum_ext _ (fun j _ => Int.mul_assoc _ _ _)
theorem mul2_turn (a b : Nat → Nat → Int) (p q : Nat) : mul2 a b q p = mul2 (fun i j => a j i) (fun i j => b j i) p q := by
  unfold mul2
  exact Ser.psum_swap _ _ _
/-- a number alone -/
def one2 (c : Int) : Nat → Nat → Int := fun p q => if p = 0 ∧ q = 0 then c else 0
/-- the powers of a table, and their list of tables -/
def pw2 (F : Nat → Nat → Int) : Nat → Nat → Nat → Int
  | 0 => one2 1
  | k + 1 => mul2 (pw2 F k) F
def pwT (m : Int) (d : Nat) (F : Nat → Nat → Int) : Nat → List (List Int)
  | 0 => tab m d (one2 1)
  | k + 1 => tab m d (mul2 (pc (pwT m d F k)) F)
theorem pwT_tab (m : Int) (d : Nat) (F : Nat → Nat → Int) : ∀ k, pwT m d F k = tab m d (pw2 F k) := by
  intro k
  induction k with
  | zero => rfl
  | succ k ih =>
    show tab m d (mul2 (pc (pwT m d F k)) F) = tab m d (mul2 (pw2 F k) F)
    rw [ih]
    exact tab_congr (mul2_congr (pc_tab_eq _ _ _) (Eq.refl _ _ _))
theorem pwT_length (m : Int) (d : Nat) (F : Nat → Nat → Int) (k : Nat) : (pwT m d F k).length = d + 1 := by cases k <;> exact tab_length _ _ _
/-- symmetric up to the degree -/
def Sym (d : Nat) (F : Nat → Nat → Int) : Prop := ∀ i j, i + j ≤ d → F i j = F j i
theorem pw2_sym {d : Nat} {F : Nat → Nat → Int} (h : Sym d F) : ∀ k, Sym d (pw2 F k) := by
  intro k
  induction k with
  | zero =>
    intro i j _
    show one2 1 i j = one2 1 j i
    unfold one2
    by_cases c : i = 0 ∧ j = 0
    · rw [if_pos c, if_pos ⟨c.2, c.1⟩]
    · rw [if_neg c, if_neg (fun e => c ⟨e.2, e.1⟩)]
  | succ k ih =>
    intro i j hij
    show mul2 (pw2 F k) F i j = mul2 (pw2 F k) F j i
    rw [mul2_turn (pw2 F k) F i j]
    refine Ser.psum_ext _ (fun a ha => Ser.psum_ext _ (fun b hb => ?_))
    rw [ih a b (by omega), h (i - a) (j - b) (by omega)]
/-- Horner's table when the last k of a list's coefficients have been taken in -/
def horq (m : Int) (d : Nat) (l : List Int) (F : Nat → Nat → Int) : Nat → List (List Int)
  | 0 => tab m d fun _ _ => 0
  | k + 1 => tab m d fun p q => mul2 (pc (horq m d l F k)) F p q + (if p = 0 ∧ q = 0 then Ser.co l (l.length - 1 - k) else 0)
theorem horq_length (m : Int) (d : Nat) (l : List Int) (F : Nat → Nat → Int) (k : Nat) : (horq m d l F k).length = d + 1 := by
  cases k <;> exact tab_length _ _ _
theorem horq_ok {m : Int} {d : Nat} (m1 : 2 ≤ m) (m2 : m ≤ 10000) (d1 : 1 ≤ d) (d2 : d ≤ 10) (l : List Int) (F : Nat → Nat → Int) (k : Nat) : Ok m d (horq m d l F k) := by
  cases k <;> (unfold horq; exact Ok.of_tab m1 m2 d1 d2 _)
theorem horq_step {m : Int} {d : Nat} (l : List Int) (F : Nat → Nat → Int) (k : Nat) :
    (tab m d (mul2 (pc (horq m d l F k)) F)).set 0 ((rw' (tab m d (mul2 (pc (horq m d l F k)) F)) 0).set 0 ((pc (tab m d (mul2 (pc (horq m d l F k)) F)) 0 0 + Ser.co l (l.length - 1 - k)) % m)) = horq m d l F (k + 1) := by
  rw [pc_tab (Nat.zero_le _)]
  refine tab_put (Nat.zero_le _) ?_ (fun p q _ hne => ?_)
  · rw [if_pos ⟨rfl, rfl⟩, Int.emod_add_emod]
  · rw [if_neg hne, Int.add_zero]
theorem mul2_psum (g : Nat → Nat → Nat → Int) (F : Nat → Nat → Int) (p q : Nat) : ∀ n, mul2 (fun i j => psum (fun k => g k i j) n) F p q = psum (fun k => mul2 (g k) F p q) n := by
  intro n
  induction n with
  | zero =>
    have : (fun i j : Nat => psum (fun k => g k i j) 0) = fun i j => 0 * F i j := by funext i j; rw [Int.zero_mul]; rfl
    rw [this, mul2_smul, Int.zero_mul]; rfl
  | succ n ih =>
    have : (fun i j => psum (fun k => g k i j) (n + 1)) = fun i j => psum (fun k => g k i j) n + g n i j := rfl
    rw [this, mul2_add, ih, psum]
theorem horq_pw {m : Int} {d : Nat} (l : List Int) (F : Nat → Nat → Int) : ∀ k, k ≤ l.length → Eq m d (pc (horq m d l F k)) (fun p q => psum (fun i => Ser.co l (l.length - k + i) * pw2 F i p q) k) := by
  intro k
  induction k with
  | zero => intro _ p q h; rw [show horq m d l F 0 = tab m d fun _ _ => 0 from rfl, pc_tab h, Int.emod_emod]; rfl
  | succ k ih =>
    intro hk p q h
    rw [show horq m d l F (k + 1) = tab m d fun p q => mul2 (pc (horq m d l F k)) F p q + (if p = 0 ∧ q = 0 then Ser.co l (l.length - 1 - k) else 0) from rfl, pc_tab h, Int.emod_emod]
    dsimp only
    rw [Ser.psum_left, Int.add_comm (Ser.co l _ * _)]
    refine Ser.add_cong ?_ ?_
    · rw [mul2_congr (ih (by omega)) (Eq.refl _ _ _) p q h, mul2_psum]
      congr 1
      refine Ser.psum_ext _ (fun i hi => ?_)
      rw [mul2_smul, show l.length - k + i = l.length - (k + 1) + (i + 1) by omega]; rfl
    · rw [show l.length - 1 - k = l.length - (k + 1) + 0 by omega]
      show _ = (_ * one2 1 p q) % m
      unfold one2
      split <;> simp
/-- the coefficient at x^a y^b z^c of F(F(x, y), z) -/
def brS (m : Int) (d : Nat) (F : Nat → Nat → Int) (a b c : Nat) : Int := psum (fun i => F i c * pc (pwT m d F i) a b) (d + 1 - c)
def br (m : Int) (d : Nat) (F : Nat → Nat → Int) (a b c : Nat) : Int := brS m d F a b c % m
theorem horq_br {m : Int} {d : Nat} (l : List Int) (F : Nat → Nat → Int) (c : Nat) (hl : l.length = d + 1 - c) (h : ∀ i, i < l.length → Ser.co l i = F i c) (a b : Nat) (hab : a + b ≤ d) : pc (horq m d l F l.length) a b = br m d F a b c := by
  have hr : pc (horq m d l F l.length) a b = pc (horq m d l F l.length) a b % m := by
    have e : ∀ k, ∃ g, horq m d l F k = tab m d g := fun k => by cases k <;> exact ⟨_, rfl⟩
    obtain ⟨g, hg⟩ := e l.length
    rw [hg, pc_tab hab, Int.emod_emod]
  rw [hr, horq_pw l F l.length (Nat.le_refl _) a b hab]
  unfold br brS
  rw [hl]
  refine Ser.psum_congr _ (fun i hi => ?_)
  rw [Nat.sub_self, Nat.zero_add, h i (by omega), pwT_tab]
  exact Ser.mul_cong rfl (by rw [pc_tab hab, Int.emod_emod])
theorem horq_br' {m : Int} {d : Nat} (l : List Int) {F : Nat → Nat → Int} (hs : Sym d F) (c : Nat) (hl : l.length = d + 1 - c) (h : ∀ i, i < l.length → Ser.co l i = F c i) (a b : Nat) (hab : a + b ≤ d) : pc (horq m d l F l.length) b a = br m d F a b c := by
  rw [horq_br l F c hl (fun i hi => by rw [h i hi, hs c i (by omega)]) b a (by omega)]
  unfold br brS
  refine Ser.psum_congr _ (fun i hi => ?_)
  rw [pwT_tab, pc_tab (by omega), pc_tab hab, pw2_sym hs i b a (by omega)]

/-! the first of something -/
def srch (p : Nat → Option (List Int)) : Nat → Nat → Option (List Int)
  | 0, _ => none
  | n + 1, k => match p k with
    | some x => some x
    | none => srch p n (k + 1)
def orE (a b : Option (List Int)) : Option (List Int) := match a with
  | some x => some x
  | none => b
theorem srch_hit {p : Nat → Option (List Int)} {k : Nat} {x : List Int} (n : Nat) (h : p k = some x) : srch p (n + 1) k = some x := by rw [srch, h]
theorem srch_miss {p : Nat → Option (List Int)} {k : Nat} (n : Nat) (h : p k = none) : srch p (n + 1) k = srch p n (k + 1) := by rw [srch, h]
theorem srch_step (p : Nat → Option (List Int)) (n k : Nat) : srch p (n + 1) k = orE (p k) (srch p n (k + 1)) := by rw [srch]; unfold orE; split <;> simp_all
theorem orE_none (b : Option (List Int)) : orE none b = b := rfl
theorem orE_some (x : List Int) (b : Option (List Int)) : orE (some x) b = some x := rfl
theorem srch_none {p : Nat → Option (List Int)} : ∀ n k, srch p n k = none → ∀ i, k ≤ i → i < k + n → p i = none := by
  intro n
  induction n with
  | zero => intro k _ i h1 h2; omega
  | succ n ih =>
    intro k h i h1 h2
    rw [srch_step] at h
    cases hp : p k with
    | some x => rw [hp] at h; exact absurd h (by simp [orE])
    | none =>
      rw [hp] at h
      by_cases hi : i = k
      · rw [hi]; exact hp
      · exact ih (k + 1) h i (by omega) (by omega)
def want (i : Nat) : Int := if i = 1 then 1 else 0
def fau0 (F : Nat → Nat → Int) (i : Nat) : Option (List Int) := if F i 0 = want i then none else some [0, (i : Int)]
def fau1j (F : Nat → Nat → Int) (i j : Nat) : Option (List Int) := if F i j = F j i then none else some [1, (i : Int), (j : Int)]
def fau1 (d : Nat) (F : Nat → Nat → Int) (i : Nat) : Option (List Int) := srch (fau1j F i) (d - i - i) (i + 1)
def fau2c (m : Int) (d : Nat) (F : Nat → Nat → Int) (a b c : Nat) : Option (List Int) := if br m d F a b c = br m d F c b a then none else some [2, (a : Int), (b : Int), (c : Int)]
def fau2b (m : Int) (d : Nat) (F : Nat → Nat → Int) (a b : Nat) : Option (List Int) := srch (fau2c m d F a b) (d + 1 - (a + b)) 0
def fau2 (m : Int) (d : Nat) (F : Nat → Nat → Int) (a : Nat) : Option (List Int) := srch (fau2b m d F a) (d + 1 - a) 0
def fauP (d : Nat) (F : Nat → Nat → Int) : Option (List Int) := srch (fau0 F) (d + 1) 0
def fauS (d : Nat) (F : Nat → Nat → Int) : Option (List Int) := srch (fau1 d F) (d + 1) 0
def fauT (m : Int) (d : Nat) (F : Nat → Nat → Int) : Option (List Int) := srch (fau2 m d F) (d + 1) 0
def fau (m : Int) (d : Nat) (F : Nat → Nat → Int) : Option (List Int) := orE (fauP d F) (orE (fauS d F) (fauT m d F))
theorem fauP_none {d : Nat} {F : Nat → Nat → Int} (h : fauP d F = none) (i : Nat) (hi : i ≤ d) : F i 0 = want i := by
  have := srch_none _ _ h i (Nat.zero_le _) (by omega)
  unfold fau0 at this
  by_cases c : F i 0 = want i
  · exact c
  · rw [if_neg c] at this; exact absurd this (by simp)
theorem fauS_none {d : Nat} {F : Nat → Nat → Int} (h : fauS d F = none) : Sym d F := by
  have key : ∀ i j, i < j → i + j ≤ d → F i j = F j i := by
    intro i j h1 h2
    have := srch_none _ _ (srch_none _ _ h i (Nat.zero_le _) (by omega)) j (by omega) (by omega)
    unfold fau1j at this
    by_cases c : F i j = F j i
    · exact c
    · rw [if_neg c] at this; exact absurd this (by simp)
  intro i j hij
  by_cases h1 : i < j
  · exact key i j h1 hij
  · by_cases h2 : j < i
    · exact (key j i h2 (by omega)).symm
    · rw [show i = j by omega]

/-! the inverse of a law -/
/-- the first variable's terms are t alone, the second's too -/
structure Norm (d : Nat) (F : Nat → Nat → Int) : Prop where
  x : ∀ i, i ≤ d → F i 0 = want i
  y : ∀ j, j ≤ d → F 0 j = want j
  over : ∀ i j, d < i + j → F i j = 0
theorem norm_of {d : Nat} {F : Nat → Nat → Int} (h : fauP d F = none) (h' : fauS d F = none) (ho : ∀ i j, d < i + j → F i j = 0) : Norm d F :=
  ⟨fauP_none h, fun j hj => by rw [fauS_none h' 0 j (by omega)]; exact fauP_none h j hj, ho⟩
/-- products and powers up to n ask for coefficients up to n -/
theorem pw_less {m : Int} {n : Nat} {g g' : Nat → Int} (h : ∀ i, i < n → g i % m = g' i % m) (k i : Nat) (hi : i < n) : pw g k i % m = pw g' k i % m :=
  Ser.pw_congr (m := m) (n := n - 1) (fun j hj => h j (by omega)) k i (by omega)
/-- what one coefficient more does to a sum of curves under a law -/
theorem put_last {m : Int} {d : Nat} {F : Nat → Nat → Int} (hF : Norm d F) {a g g' : Nat → Int} (ha : a 0 = 0) (hg : g 0 = 0) (hg' : g' 0 = 0) {n : Nat} (hn : 1 ≤ n) (hnd : n ≤ d) (h : ∀ i, i < n → g i % m = g' i % m) :
    (putF F a g (d + 1) n - putF F a g' (d + 1) n) % m = (g n - g' n) % m := by
  have e : ∀ u : Nat → Int, u 0 = 0 → putF F a u (d + 1) n = psum (fun j => F 0 j * pw u j n) (d + 1) + psum (fun i => psum (fun j => F (i + 1) j * cv n (pw a (i + 1)) (pw u j)) (d + 1)) d := by
    intro u _
    unfold putF
    rw [Ser.psum_left]
    congr 1
    refine Ser.psum_ext _ (fun j _ => ?_)
    rw [show pw a 0 = Ser.mon 0 1 from rfl, Ser.cv_const, Int.one_mul]
  have e0 : ∀ u : Nat → Int, psum (fun j => F 0 j * pw u j n) (d + 1) = u n := by
    intro u
    rw [Ser.psum_ext (g := fun j => u n * Ser.mon j 1 1) (d + 1) (fun j hj => by
      rw [hF.y j (by omega)]
      unfold want Ser.mon
      by_cases c : j = 1
      · rw [if_pos c, if_pos c.symm, c, Int.one_mul, Int.mul_one]
        show Ser.cv n (Ser.mon 0 1) u = u n
        rw [Ser.cv_const, Int.one_mul]
      · rw [if_neg c, if_neg (fun h => c h.symm), Int.zero_mul, Int.mul_zero])]
    rw [Ser.psum_mon (fun _ => u n) 1 (d + 1), if_pos (by omega)]
  rw [e g hg, e g' hg', e0, e0]
  have hz : ∀ (i : Nat), pw a (i + 1) 0 = 0 := fun i => Ser.pw_low ha (i + 1) 0 (by omega)
  have hc : psum (fun i => psum (fun j => F (i + 1) j * cv n (pw a (i + 1)) (pw g j)) (d + 1)) d % m = psum (fun i => psum (fun j => F (i + 1) j * cv n (pw a (i + 1)) (pw g' j)) (d + 1)) d % m :=
    Ser.psum_congr _ (fun i _ => Ser.psum_congr _ (fun j _ => Ser.mul_cong rfl (Ser.cv_congr_curve (by rw [hz, Int.zero_emod]) (by rw [hz, Int.zero_emod]) (Ser.Eq.refl _ _ _) (fun k hk => pw_less h j k hk))))
  have := Ser.sub_cong (m := m) (x := g n + _) (y := g n + _) (Ser.add_cong rfl hc) (rfl : (g' n + psum (fun i => psum (fun j => F (i + 1) j * cv n (pw a (i + 1)) (pw g' j)) (d + 1)) d) % m = _)
  rw [this]
  congr 1
  omega
theorem put_congr {m : Int} {F : Nat → Nat → Int} {a a' g g' : Nat → Int} {N n : Nat} (h : Ser.Eq m n a a') (h' : Ser.Eq m n g g') : putF F a g N n % m = putF F a' g' N n % m :=
  Ser.psum_congr _ (fun i _ => Ser.psum_congr _ (fun j _ => Ser.mul_cong rfl (Ser.cv_congr n (Ser.pw_congr h i) (Ser.pw_congr h' j))))
theorem put_zero {d : Nat} {F : Nat → Nat → Int} (hF : Norm d F) {a g : Nat → Int} (ha : a 0 = 0) (hg : g 0 = 0) : putF F a g (d + 1) 0 = 0 := by
  unfold putF
  refine Ser.psum_low _ _ (fun i hi => Ser.psum_low _ _ (fun j hj => ?_))
  rw [Ser.cv_zero]
  by_cases c : i = 0 ∧ j = 0
  · rw [c.1, c.2, hF.x 0 (Nat.zero_le _)]; simp [want]
  · by_cases c1 : i = 0
    · rw [Ser.pw_low hg j 0 (by omega)]; simp
    · rw [Ser.pw_low ha i 0 (by omega)]; simp
/-- the line t -/
def lin (m : Int) (d : Nat) (c : Int) : List Int := Ser.cut m d (Ser.mon 1 c)
/-- the model's inverse after n numbers -/
def invS (m : Int) (d : Nat) (F : Nat → Nat → Int) : Nat → List Int
  | 0 => List.replicate (d + 1) 0
  | n + 1 => (invS m d F n).set (n + 1) ((m - Ser.co (putL m d F (lin m d 1) (invS m d F n)) (n + 1)) % m)
/-- the program's -/
def invP (m : Int) (d : Nat) (F : Nat → Nat → Int) : Nat → List Int
  | 0 => lin m d 0
  | n + 1 => Ser.cut m d fun i => Ser.co (invP m d F n) i + Ser.co (Ser.cut m d fun j => Ser.co (putL m d F (lin m d 1) (invP m d F n)) j * -1) i
theorem invS_length (m : Int) (d : Nat) (F : Nat → Nat → Int) (n : Nat) : (invS m d F n).length = d + 1 := by
  induction n with
  | zero => simp [invS]
  | succ n ih => rw [invS, List.length_set, ih]
theorem invP_length (m : Int) (d : Nat) (F : Nat → Nat → Int) (n : Nat) : (invP m d F n).length = d + 1 := by cases n <;> exact Ser.cut_length _ _ _
theorem invS_red {m : Int} (hm : 0 < m) (d : Nat) (F : Nat → Nat → Int) (n : Nat) : Ser.Red m (invS m d F n) := by
  induction n with
  | zero => intro i; rw [invS, Ser.co_zeros]; omega
  | succ n ih =>
    intro i
    rw [invS]
    by_cases c : n + 1 < d + 1
    · rw [Ser.co_set (by rw [invS_length]; exact c)]
      split
      · exact ⟨Int.emod_nonneg _ (by omega), Int.emod_lt_of_pos _ hm⟩
      · exact ih i
    · rw [List.set_eq_of_length_le (by rw [invS_length]; omega)]; exact ih i
theorem invP_red {m : Int} (hm : 0 < m) (d : Nat) (F : Nat → Nat → Int) (n : Nat) : Ser.Red m (invP m d F n) := by cases n <;> exact Ser.cut_red hm _ _
theorem invS_co (m : Int) (d : Nat) (F : Nat → Nat → Int) (n i : Nat) (hn : n < d) : Ser.co (invS m d F (n + 1)) i = if i = n + 1 then (m - Ser.co (putL m d F (lin m d 1) (invS m d F n)) (n + 1)) % m else Ser.co (invS m d F n) i := by
  rw [invS, Ser.co_set (by rw [invS_length]; omega)]
theorem invS_curve (m : Int) (d : Nat) (F : Nat → Nat → Int) : ∀ n, n ≤ d → Ser.co (invS m d F n) 0 = 0 := by
  intro n
  induction n with
  | zero => intro _; rw [invS, Ser.co_zeros]
  | succ n ih => intro hn; rw [invS_co _ _ _ _ _ (by omega), if_neg (by omega), ih (by omega)]
theorem invS_over (m : Int) (d : Nat) (F : Nat → Nat → Int) : ∀ n i, n ≤ d → n < i → Ser.co (invS m d F n) i = 0 := by
  intro n
  induction n with
  | zero => intro i _ _; rw [invS, Ser.co_zeros]
  | succ n ih => intro i hn hi; rw [invS_co _ _ _ _ _ (by omega), if_neg (by omega), ih i (by omega) (by omega)]
theorem invS_pre (m : Int) (d : Nat) (F : Nat → Nat → Int) (n k i : Nat) (h : i ≤ n) (hk : n + k ≤ d) : Ser.co (invS m d F (n + k)) i = Ser.co (invS m d F n) i := by
  induction k with
  | zero => rfl
  | succ k ih => rw [← Nat.add_assoc, invS_co _ _ _ _ _ (by omega), if_neg (by omega), ih (by omega)]
theorem lin_curve (m : Int) (d : Nat) (c : Int) : Ser.co (lin m d c) 0 = 0 := by
  unfold lin; rw [Ser.co_cut (Nat.zero_le _)]; simp [Ser.mon]
theorem put_cut {m : Int} {d : Nat} {F : Nat → Nat → Int} {a b : List Int} {n : Nat} (h : n ≤ d) : Ser.co (putL m d F a b) n = putF F (Ser.co a) (Ser.co b) (d + 1) n % m := Ser.co_cut h
/-- the model's inverse is one -/
theorem invS_inv {m : Int} {d : Nat} {F : Nat → Nat → Int} (hF : Norm d F) : ∀ n, n ≤ d → ∀ i, i ≤ n → putF F (Ser.co (lin m d 1)) (Ser.co (invS m d F n)) (d + 1) i % m = 0 := by
  intro n
  induction n with
  | zero =>
    intro _ i hi
    obtain rfl : i = 0 := by omega
    rw [put_zero hF (lin_curve m d 1) (invS_curve m d F 0 (Nat.zero_le _)), Int.zero_emod]
  | succ n ih =>
    intro hn i hi
    by_cases c : i ≤ n
    · rw [put_congr (Ser.Eq.refl m i _) (Ser.Eq.of m i (fun j hj => invS_pre m d F n 1 j (by omega) (by omega)))]
      exact ih (by omega) i c
    · obtain rfl : i = n + 1 := by omega
      have := put_last (m := m) hF (a := Ser.co (lin m d 1)) (lin_curve m d 1) (invS_curve m d F (n + 1) hn) (invS_curve m d F n (by omega)) (n := n + 1) (by omega) hn (fun j hj => by rw [invS_pre m d F n 1 j (by omega) (by omega)])
      rw [invS_co m d F n (n + 1) (by omega), if_pos rfl, invS_over m d F n (n + 1) (by omega) (by omega), put_cut hn] at this
      revert this
      generalize putF F (Ser.co (lin m d 1)) (Ser.co (invS m d F (n + 1))) (d + 1) (n + 1) = X
      generalize putF F (Ser.co (lin m d 1)) (Ser.co (invS m d F n)) (d + 1) (n + 1) = Y
      intro h
      rw [Int.sub_zero, Int.emod_emod] at h
      have h2 := Ser.add_cong (m := m) h (rfl : Y % m = Y % m)
      rw [Int.sub_add_cancel] at h2
      rw [h2]
      have h3 : (m - Y % m + Y) % m = (m - Y + Y) % m := Ser.add_cong (Ser.sub_cong rfl (Int.emod_emod _ _)) rfl
      rw [h3, Int.sub_add_cancel, Int.emod_self]
theorem invP_co {m : Int} {d : Nat} {F : Nat → Nat → Int} (n i : Nat) (hi : i ≤ d) : Ser.co (invP m d F (n + 1)) i % m = (Ser.co (invP m d F n) i - putF F (Ser.co (lin m d 1)) (Ser.co (invP m d F n)) (d + 1) i) % m := by
  rw [invP, Ser.co_cut hi, Ser.co_cut hi, Int.emod_emod, Int.sub_eq_add_neg]
  refine Ser.add_cong rfl ?_
  rw [Int.emod_emod, put_cut hi, Int.mul_neg, Int.mul_one, show -(putF F (Ser.co (lin m d 1)) (Ser.co (invP m d F n)) (d + 1) i % m) = 0 - putF F (Ser.co (lin m d 1)) (Ser.co (invP m d F n)) (d + 1) i % m by omega, show -putF F (Ser.co (lin m d 1)) (Ser.co (invP m d F n)) (d + 1) i = 0 - putF F (Ser.co (lin m d 1)) (Ser.co (invP m d F n)) (d + 1) i by omega]
  exact Ser.sub_cong rfl (Int.emod_emod _ _)
theorem invP_curve {m : Int} (hm : 0 < m) {d : Nat} {F : Nat → Nat → Int} (hF : Norm d F) : ∀ n, Ser.co (invP m d F n) 0 = 0 := by
  intro n
  induction n with
  | zero => exact lin_curve m d 0
  | succ n ih =>
    have h := invP_co (m := m) (F := F) n 0 (Nat.zero_le d)
    rw [put_zero hF (lin_curve m d 1) ih, ih] at h
    have hr := invP_red hm d F (n + 1) 0
    rw [Int.emod_eq_of_lt hr.1 hr.2] at h
    simpa using h
theorem invP_agrees {m : Int} (hm : 0 < m) {d : Nat} {F : Nat → Nat → Int} (hF : Norm d F) : ∀ n, n ≤ d → ∀ i, i ≤ n → Ser.co (invP m d F n) i % m = Ser.co (invS m d F d) i % m := by
  intro n
  induction n with
  | zero =>
    intro _ i hi
    obtain rfl : i = 0 := by omega
    rw [invP_curve hm hF, invS_curve m d F d (Nat.le_refl _)]
  | succ n ih =>
    intro hn i hi
    rw [invP_co n i (by omega)]
    have hz := invS_inv (m := m) hF d (Nat.le_refl _) i (by omega)
    by_cases c : i ≤ n
    · have := put_congr (F := F) (N := d + 1) (Ser.Eq.refl m i (Ser.co (lin m d 1))) (fun j hj => ih (by omega) j (by omega) : Ser.Eq m i (Ser.co (invP m d F n)) (Ser.co (invS m d F d)))
      rw [hz] at this
      rw [Ser.sub_cong (ih (by omega) i c) (this.trans (Int.zero_emod m).symm), Int.sub_zero]
    · obtain rfl : i = n + 1 := by omega
      have := put_last (m := m) hF (a := Ser.co (lin m d 1)) (lin_curve m d 1) (invP_curve hm hF n) (invS_curve m d F d (Nat.le_refl _)) (n := n + 1) (by omega) hn (fun j hj => ih (by omega) j (by omega))
      revert this hz
      generalize putF F (Ser.co (lin m d 1)) (Ser.co (invP m d F n)) (d + 1) (n + 1) = X
      generalize putF F (Ser.co (lin m d 1)) (Ser.co (invS m d F d)) (d + 1) (n + 1) = Y
      intro hz h
      have h1 : X % m = (Ser.co (invP m d F n) (n + 1) - Ser.co (invS m d F d) (n + 1)) % m := by
        rw [← h]
        have := Ser.sub_cong (m := m) (rfl : X % m = X % m) (hz.trans (Int.zero_emod m).symm)
        rw [this, Int.sub_zero]
      rw [Ser.sub_cong rfl h1]
      congr 1
      omega
theorem inv_same {m : Int} (hm : 0 < m) {d : Nat} {F : Nat → Nat → Int} (hF : Norm d F) : invP m d F d = invS m d F d :=
  Ser.red_unique (invP_length m d F d) (invS_length m d F d) (invP_red hm d F d) (invS_red hm d F d) (fun i hi => invP_agrees hm hF d (Nat.le_refl _) i hi)
end Pl
end Go.Proofs.Ytlpfifdocgljnac

