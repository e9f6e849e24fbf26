/- Texts of contracts, joined. -/
import Derived.Test.YtlpfifdocgljnacMgaa
import Derived.OrdersHeld
import Derived.Deep.RegionHeld3
import Derived.Deep.DrawnRows
import Derived.StillTailTactics
/- Contracts of the exact laws' helpers on series: size, copying, comparing, marking, looking at the marks. -/
namespace Go.Proofs.Ytlpfifdocgljnac
open Go.RowKit Go.WideShapes Go.ChangeShapes Go.ChangeAt

theorem szInt64S_any (A : Option Addr) (n c : Nat) (left : Int) (w : World) (h1 : 0 ≤ left) (h2 : left ≤ 1048576) (hn : n ≤ 9223372036854775807) :
    Calls Try.prog 49 #[.slice A n c, .int .i64 left] w fun e w' => e = .returned (.int .i64 (if (n : Int) ≤ left then left - n else -1)) ∧ w = w' := by
  by_cases h : (n : Int) ≤ left
  · rw [if_pos h]
    go_enter Try.func49, Try.ntmps49
    go_wp2
    go_ret
    exact ⟨rfl, rfl⟩
  · rw [if_neg h]
    go_enter Try.func49, Try.ntmps49
    go_wp2
    go_ret
    exact ⟨rfl, rfl⟩

theorem Box.newT (t : TypeId) (w : World) (m : Int) (A : Option Addr) (n c : Nat) : Box (w.alloc (.cells #[.int .i64 m, .slice A n c] t)) w.heap.size m A n c := by
  refine ⟨?_, ?_, by simp⟩ <;> rw [World.cell?_alloc_at _ _ _ _ rfl] <;> rfl
theorem start1 (t : TypeId) (w : World) (m : Int) (A : Option Addr) (n c : Nat) : ∃ W, w.alloc (.cells #[.int .i64 m, .slice A n c] t) = W ∧ Box W w.heap.size m A n c ∧ Below w.heap.size w W :=
  ⟨_, rfl, Box.newT t w m A n c, below_one _ _⟩
theorem start2 (t : TypeId) (w : World) (m : Int) (A : Option Addr) (n c : Nat) (m' : Int) (A' : Option Addr) (n' c' : Nat) :
    ∃ W, (w.alloc (.cells #[.int .i64 m, .slice A n c] t)).alloc (.cells #[.int .i64 m', .slice A' n' c'] t) = W ∧ Box W w.heap.size m A n c ∧ Box W (w.heap.size + 1) m' A' n' c' ∧ Below w.heap.size w W := by
  refine ⟨_, rfl, (Box.newT t w m A n c).keep (below_one _ _), ?_, below_alloc _ (below_one _ _)⟩
  have := Box.newT t (w.alloc (.cells #[.int .i64 m, .slice A n c] t)) m' A' n' c'
  simpa using this

theorem box22_call {w w' : World} {g g' : Nat} {m m' : Int} {A A' : Option Addr} {n c n' c' : Nat} (hb : Below w.heap.size w w')
    (h : (w.cell? ⟨g, 0, none⟩ = some (.int .i64 m) ∧ w.cell? ⟨g, 1, none⟩ = some (.slice A n c) ∧ g < w.heap.size) ∧ (w.cell? ⟨g', 0, none⟩ = some (.int .i64 m') ∧ w.cell? ⟨g', 1, none⟩ = some (.slice A' n' c') ∧ g' < w.heap.size)) :
    (w'.cell? ⟨g, 0, none⟩ = some (.int .i64 m) ∧ w'.cell? ⟨g, 1, none⟩ = some (.slice A n c) ∧ g < w'.heap.size) ∧ (w'.cell? ⟨g', 0, none⟩ = some (.int .i64 m') ∧ w'.cell? ⟨g', 1, none⟩ = some (.slice A' n' c') ∧ g' < w'.heap.size) :=
  ⟨box_call hb h.1, box_call hb h.2⟩
theorem box22_store {w : World} {g g' b : Nat} {m m' : Int} {A A' : Option Addr} {n c n' c' : Nat} {x y : Value} (hne : b ≠ g) (hne' : b ≠ g')
    (h : (w.cell? ⟨g, 0, none⟩ = some (.int .i64 m) ∧ w.cell? ⟨g, 1, none⟩ = some (.slice A n c) ∧ g < w.heap.size) ∧ (w.cell? ⟨g', 0, none⟩ = some (.int .i64 m') ∧ w.cell? ⟨g', 1, none⟩ = some (.slice A' n' c') ∧ g' < w.heap.size)) :
    (((w.setCell ⟨b, 0, none⟩ x).setCell ⟨b, 1, none⟩ y).cell? ⟨g, 0, none⟩ = some (.int .i64 m) ∧ ((w.setCell ⟨b, 0, none⟩ x).setCell ⟨b, 1, none⟩ y).cell? ⟨g, 1, none⟩ = some (.slice A n c) ∧ g < ((w.setCell ⟨b, 0, none⟩ x).setCell ⟨b, 1, none⟩ y).heap.size) ∧
    (((w.setCell ⟨b, 0, none⟩ x).setCell ⟨b, 1, none⟩ y).cell? ⟨g', 0, none⟩ = some (.int .i64 m') ∧ ((w.setCell ⟨b, 0, none⟩ x).setCell ⟨b, 1, none⟩ y).cell? ⟨g', 1, none⟩ = some (.slice A' n' c') ∧ g' < ((w.setCell ⟨b, 0, none⟩ x).setCell ⟨b, 1, none⟩ y).heap.size) :=
  ⟨box_store hne h.1, box_store hne' h.2⟩

theorem Box.mark {w w' : World} {g : Nat} {m : Int} {A : Option Addr} {n c : Nat} {r : Option Nat} (hx : Box w g m A n c) (hg : w.grownBy w' r) (hne : r ≠ some g) : Box w' g m A n c := by
  obtain ⟨h1, h2, h3⟩ := hx
  have hb := hg.block g h3 (fun e => hne e.symm)
  refine ⟨?_, ?_, Nat.lt_of_lt_of_le h3 hg.size⟩
  · rw [← h1]; simp only [World.cell?, hb]
  · rw [← h2]; simp only [World.cell?, hb]

theorem below_step {w w1 w2 : World} (h : Below w.heap.size w w1) (hb : Below w1.heap.size w1 w2) : Below w.heap.size w w2 := h.trans (hb.mono h.size)
theorem grown_alloc (w : World) (o : Obj) (r : Option Nat) : w.grownBy (w.alloc o) r := ⟨rfl, rfl, rfl, by simp, fun k hk _ => (below_one w o).block k hk⟩

theorem trd {p q r : Prop} (h : p ∧ q ∧ r) : r := h.2.2
theorem box2_alloc {W w : World} {g g' : Nat} {m m' : Int} {A A' : Option Addr} {n c n' c' : Nat} {p q : Prop} {o : Obj} (h : Box W g m A n c) (h' : Box W g' m' A' n' c') (hs : p ∧ q ∧ Below W.heap.size W w) :
    ((w.alloc o).cell? ⟨g, 0, none⟩ = some (.int .i64 m) ∧ (w.alloc o).cell? ⟨g, 1, none⟩ = some (.slice A n c)) ∧ ((w.alloc o).cell? ⟨g', 0, none⟩ = some (.int .i64 m') ∧ (w.alloc o).cell? ⟨g', 1, none⟩ = some (.slice A' n' c')) ∧ Below W.heap.size W (w.alloc o) :=
  box2_in h h' (below_alloc _ hs.2.2)
theorem reg_end {wk cur wd : World} {p q : Prop} (hs : p ∧ q ∧ Below wk.heap.size wk cur) (hb : Below cur.heap.size cur wd) : Below wk.heap.size wk wd ∧ wk.heap.size ≤ cur.heap.size :=
  ⟨below_step hs.2.2 hb, hs.2.2.size⟩
theorem var_keep {cur wd : World} {g : Nat} {x y : Value} (h : Var2 cur g x y) (hb : Below cur.heap.size cur wd) : Var2 wd g x y ∧ g < cur.heap.size := ⟨h.keep hb, h.lt⟩
theorem var_at {w : World} {g k : Nat} {x y : Value} (_h : Var2 w g x y) (hk : k ≤ g) : k ≤ g := hk
/-- a result has been stored into a variable that lay there before the call -/
theorem reg_fin {wk cur wd : World} {g : Nat} {A : Option Addr} {n c : Nat} {l : List Int} {x y : Value} (hk : wk.heap.size ≤ g) (hgc : g < cur.heap.size) (hv : Var2 wd g x y) (ho : OwnI wd cur.heap.size (.slice A n c) l) (hb : Below wk.heap.size wk wd) (M : Int) :
    OwnI ((wd.setCell ⟨g, 0, none⟩ (.int .i64 M)).setCell ⟨g, 1, none⟩ (.slice A n c)) wk.heap.size (.slice A n c) l ∧ Box ((wd.setCell ⟨g, 0, none⟩ (.int .i64 M)).setCell ⟨g, 1, none⟩ (.slice A n c)) g M A n c ∧
    Below wk.heap.size wk ((wd.setCell ⟨g, 0, none⟩ (.int .i64 M)).setCell ⟨g, 1, none⟩ (.slice A n c)) := by
  obtain ⟨f0, f1, f2, f3⟩ := fin_var (w := wk) hv ho hgc hk hb (.int .i64 M) (.slice A n c)
  exact ⟨f2, ⟨f0, f1, by have := hv.lt; simpa [World.setCell] using this⟩, f3⟩
/-- a result has been stored into a new variable -/
theorem reg_new {wk cur wd : World} {A : Option Addr} {n c : Nat} {l : List Int} (hk : wk.heap.size ≤ cur.heap.size) (ho : OwnI wd cur.heap.size (.slice A n c) l) (hb : Below wk.heap.size wk wd) (M : Int) (t : TypeId) :
    OwnI (wd.alloc (.cells #[.int .i64 M, .slice A n c] t)) wk.heap.size (.slice A n c) l ∧ Box (wd.alloc (.cells #[.int .i64 M, .slice A n c] t)) wd.heap.size M A n c ∧ Below wk.heap.size wk (wd.alloc (.cells #[.int .i64 M, .slice A n c] t)) :=
  ⟨(ho.keep (below_one _ _)).more hk, Box.newT _ _ _ _ _ _, below_alloc _ hb⟩
end Go.Proofs.Ytlpfifdocgljnac

/- What a list of a series is; the model's looks at series. -/
namespace Go.Proofs.Ytlpfifdocgljnac
open Go.RowKit Go.WideShapes Go.ChangeShapes Go.ChangeAt

/-- a list of numbers of a series: what a closure reads of it -/
theorem RI.at {w : World} {A : Option Addr} {l : List Int} (h : RI w A l) (n : Nat) (hn : n < l.length) : ∃ b off, A = some ⟨b, off, none⟩ ∧ b < w.heap.size ∧ w.cell? ⟨b, off + n, none⟩ = some (.int .i64 (Ser.co l n)) := by
  obtain ⟨b, off, e, hlt, hc⟩ := h (by rintro rfl; simp at hn)
  exact ⟨b, off, e, hlt, hc n hn⟩

theorem degree_nat (m : Int) (A : Option Addr) (n c d : Nat) (w : World) (hn : n = d + 1) (hd : d ≤ 1000) :
    Calls Try.prog 102 #[.agg #[.int .i64 m, .slice A n c]] w fun e w' => e = .returned (.int .i64 (d : Int)) ∧ Below w.heap.size w w' :=
  (degree_any m A n c w (by omega)).mono fun e w' ⟨h1, h2⟩ => ⟨by rw [h1, show (n : Int) - 1 = (d : Int) by omega], h2⟩

/-- the world behind a box, a result's variable and the list of the one series -/
theorem pro0 (w : World) (m : Int) (A : Option Addr) (n c : Nat) : ∃ W, (w.alloc (.cells #[.int .i64 m, .slice A n c] 84)).alloc (.cells #[.int .i64 m, .slice A n c] 84) = W ∧ Box W w.heap.size m A n c ∧ Box W (w.heap.size + 1) m A n c ∧ Below w.heap.size w W :=
  ⟨_, rfl, box2_new w m m A A n c n c _ rfl⟩
theorem spro1 (w : World) (m : Int) (A : Option Addr) (n c : Nat) : ∃ W, (w.alloc (.cells #[.int .i64 m, .slice A n c] 84)).alloc (.cells #[.int .i64 0, .slice none 0 0] 84) = W ∧
    Box W w.heap.size m A n c ∧ Var2 W (w.heap.size + 1) (.int .i64 0) (.slice none 0 0) ∧ Below w.heap.size w W := by
  refine ⟨_, rfl, (Box.new w m A n c).keep (below_one _ _), ?_, below_alloc _ (below_one _ _)⟩
  have := Var2.new (w.alloc (.cells #[.int .i64 m, .slice A n c] 84)) (.int .i64 0) (.slice none 0 0)
  simpa using this
theorem pro1 (w : World) (m : Int) (A : Option Addr) (n c : Nat) : ∃ W, ((w.alloc (.cells #[.int .i64 m, .slice A n c] 84)).alloc (.cells #[.int .i64 0, .slice none 0 0] 84)).alloc (.cells #[.int .i64 m, .slice A n c] 84) = W ∧
    Box W w.heap.size m A n c ∧ Var2 W (w.heap.size + 1) (.int .i64 0) (.slice none 0 0) ∧ Box W (w.heap.size + 1 + 1) m A n c ∧ Below w.heap.size w W := by
  obtain ⟨W0, hW0, h1, h2, h3⟩ := spro1 w m A n c
  have hs : W0.heap.size = w.heap.size + 1 + 1 := by rw [← hW0]; simp
  rw [hW0]
  refine ⟨_, rfl, h1.keep (below_one _ _), h2.keep (below_one _ _), ?_, below_alloc _ h3⟩
  rw [← hs]
  exact Box.new _ _ _ _ _
theorem code1_zero {m : Int} {l : List Int} (h : code1 m l = 0) : isS m l = true := by
  unfold code1 at h
  by_cases h1 : isS m l = true
  · exact h1
  · rw [if_neg h1] at h; exact absurd h (by decide)
theorem code1_isS {m : Int} {l : List Int} (h : isS m l = true) : code1 m l = 0 := by unfold code1; rw [if_pos h]
theorem code1_no {m : Int} {l : List Int} (h : isS m l = false) : code1 m l = 1 := by unfold code1; rw [h]; rfl
theorem ret_i2 {a b c d : Int} (h : a = c) (k : b = d) : Ending.returned (.tuple #[.int .i64 a, .int .i64 b]) = .returned (.tuple #[.int .i64 c, .int .i64 d]) := by rw [h, k]

/-- m and l are a series of degree d -/
structure SerOk (m : Int) (d : Nat) (l : List Int) : Prop where
  m1 : 2 ≤ m
  m2 : m ≤ 10000
  d1 : 1 ≤ d
  d2 : d ≤ 10
  len : l.length = d + 1
  red : Ser.Red m l
theorem SerOk.cut {m : Int} {d : Nat} {l : List Int} (h : SerOk m d l) (f : Nat → Int) : SerOk m d (Ser.cut m d f) :=
  ⟨h.m1, h.m2, h.d1, h.d2, Ser.cut_length _ _ _, Ser.cut_red (by have := h.m1; omega) _ _⟩

theorem serOk_of {m : Int} {l : List Int} (h : isS m l = true) : ∃ d, l.length = d + 1 ∧ SerOk m d l := by
  obtain ⟨h1, h2, h3⟩ := isS_iff h
  obtain ⟨d, hd⟩ : ∃ d, l.length = d + 1 := ⟨l.length - 1, by omega⟩
  unfold codeN at h3
  by_cases hm : isM m = true
  · rw [if_pos hm] at h3
    obtain ⟨m1, m2⟩ := (isM_iff m).1 hm
    by_cases ha : allIn 0 (m - 1) l = true
    · refine ⟨d, hd, m1, m2, by omega, by omega, hd, fun i => ?_⟩
      by_cases hi : i < l.length
      · have := List.all_eq_true.1 ha _ (List.getElem_mem hi)
        have := (inB_iff _ _ _).1 this
        unfold Ser.co
        rw [List.getElem?_eq_getElem hi]
        simp only [Option.getD_some]
        omega
      · rw [Ser.co_over (by omega)]; omega
    · rw [if_neg ha] at h3; exact absurd h3 (by decide)
  · rw [if_neg hm] at h3; exact absurd h3 (by decide)
theorem take_cut_len (m : Int) (d : Nat) (f : Nat → Int) (k : Nat) : ((Ser.cut m d f).take k).length ≤ d + 1 := by
  rw [List.length_take, Ser.cut_length]; omega
theorem OwnI.empty (w : World) : OwnI (w.alloc (.cells #[] 2)) w.heap.size (.slice (some ⟨w.heap.size, 0, none⟩) 0 0) [] :=
  ⟨rfl, .inr ⟨w.heap.size, 0, #[], rfl, Nat.le_refl _, heap_alloc_new w _, Nat.le_refl _, Nat.zero_le _, rfl, rfl⟩⟩
end Go.Proofs.Ytlpfifdocgljnac

/- Lists of lists of integers that are read, and those that a call makes itself, row by row. -/
namespace Go.Proofs.Ytlpfifdocgljnac
open Go.RowKit Go.WideShapes Go.ChangeShapes Go.ChangeAt

theorem OwnI.capP {w : World} {base n c : Nat} {A : Option Addr} {l : List Int} (h : OwnI w base (.slice A n c) l) : l.length ≤ c := by
  unfold OwnI at h
  rcases h.2 with ⟨hv, h0⟩ | ⟨g, cap, cur, hv, _, _, h1, _⟩
  · omega
  · injection hv with e1 e2 e3
    omega

/-- the slice of slices at A holds the rows -/
def RP (w : World) (A : Option Addr) (t : List (List Int)) : Prop :=
  t ≠ [] → ∃ b off, A = some ⟨b, off, none⟩ ∧ b < w.heap.size ∧ ∀ k, k < t.length → ∃ A' c', w.cell? ⟨b, off + k, none⟩ = some (.slice A' (Pl.rw' t k).length c') ∧ (Pl.rw' t k).length ≤ c' ∧ RI w A' (Pl.rw' t k)
theorem RP.below {w w' : World} {A : Option Addr} {t : List (List Int)} (h : RP w A t) (hb : Below w.heap.size w w') : RP w' A t := by
  intro hl
  obtain ⟨b, off, e, hlt, hc⟩ := h hl
  refine ⟨b, off, e, Nat.lt_of_lt_of_le hlt hb.size, fun k hk => ?_⟩
  obtain ⟨A', c', h1, h2, h3⟩ := hc k hk
  exact ⟨A', c', (hb.cell (p := ⟨b, off + k, none⟩) hlt).trans h1, h2, h3.below hb⟩
theorem RP.at {w : World} {A : Option Addr} {t : List (List Int)} (h : RP w A t) (k : Nat) (hk : k < t.length) :
    ∃ b off A' c', A = some ⟨b, off, none⟩ ∧ b < w.heap.size ∧ w.cell? ⟨b, off + k, none⟩ = some (.slice A' (Pl.rw' t k).length c') ∧ (Pl.rw' t k).length ≤ c' ∧ RI w A' (Pl.rw' t k) := by
  obtain ⟨b, off, e, hlt, hc⟩ := h (by rintro rfl; simp at hk)
  obtain ⟨A', c', h1, h2, h3⟩ := hc k hk
  exact ⟨b, off, A', c', e, hlt, h1, h2, h3⟩
/-- one number of it -/
theorem RP.num {w : World} {A : Option Addr} {t : List (List Int)} (h : RP w A t) (i j : Nat) (hi : i < t.length) (hj : j < (Pl.rw' t i).length) :
    ∃ b off b' off' c', A = some ⟨b, off, none⟩ ∧ b < w.heap.size ∧ w.cell? ⟨b, off + i, none⟩ = some (.slice (some ⟨b', off', none⟩) (Pl.rw' t i).length c') ∧ b' < w.heap.size ∧ w.cell? ⟨b', off' + j, none⟩ = some (.int .i64 (Pl.pc t i j)) := by
  obtain ⟨b, off, A', c', e, hlt, h1, _, h3⟩ := h.at i hi
  obtain ⟨b', off', rfl, h4, h5⟩ := h3.at j hj
  exact ⟨b, off, b', off', c', e, hlt, h1, h4, h5⟩
theorem OwnR.rp {w : World} {lo hi n c : Nat} {A : Option Addr} {t : List (List Int)} (h : OwnR w lo hi (.slice A n c) t) : RP w A t := by
  intro ht
  obtain ⟨A0, c0, e, hr⟩ := h.read
  injection e with e1 e2 e3
  subst e1
  obtain ⟨g, hA, hg, _, _, hrow⟩ := hr ht
  refine ⟨g, 0, hA, hg, fun k hk => ?_⟩
  obtain ⟨A', c', h1, h2, _⟩ := hrow k hk
  exact ⟨A', c', by rw [Nat.zero_add]; exact h1, h2.capP, h2.ri⟩
theorem OwnR.len {w : World} {lo hi : Nat} {v : Value} {t : List (List Int)} (h : OwnR w lo hi v t) : ∃ A c, v = .slice A t.length c ∧ RP w A t := by
  obtain ⟨A0, c0, rfl, hr⟩ := h.read
  exact ⟨A0, c0, rfl, h.rp⟩

theorem OwnR.low {w : World} {lo lo' hi : Nat} {v : Value} {t : List (List Int)} (h : OwnR w lo hi v t) (hh : lo' ≤ lo) : OwnR w lo' hi v t := by
  obtain ⟨vs, h1, h2, h3, h4⟩ := h
  refine ⟨vs, ⟨h1.1, ?_⟩, h2, fun i r hr => ?_, h4⟩
  · rcases h1.2 with hn | ⟨g, cap, cur, hv, hg, rest⟩
    · exact .inl hn
    · exact .inr ⟨g, cap, cur, hv, Nat.le_trans hh hg, rest⟩
  · obtain ⟨u, a, b, c⟩ := h3 i r hr
    exact ⟨u, a, b.more hh, c⟩
theorem OwnR.openv {w : World} {lo hi : Nat} {v : Value} {t : List (List Int)} (h : OwnR w lo hi v t) (ht : 0 < t.length) : ∃ g c, v = .slice (some ⟨g, 0, none⟩) t.length c := by
  obtain ⟨g, c, _, _, e, _⟩ := h.row 0 ht
  exact ⟨g, c, e⟩
/-- a new slice of empty slices -/
theorem OwnR.made (w : World) (n : Nat) (hn : n ≤ maxLen) : OwnR (w.alloc (.cells (madeCells #[Value.slice none 0 0] n) 35)) w.heap.size (w.heap.size + 1) (.slice (some ⟨w.heap.size, 0, none⟩) n n) (List.replicate n []) := by
  have key : ∀ (i : Nat) (u : Value), (List.replicate n (Value.slice none 0 0))[i]? = some u → u = Value.slice none 0 0 := by
    intro i u hu
    rw [List.getElem?_replicate] at hu
    split at hu <;> simp at hu
    exact hu.symm
  refine ⟨List.replicate n (Value.slice none 0 0), ?_, ?_, ?_, ?_⟩
  · rw [List.length_replicate]
    have := World.ownsRow_lit (base := w.heap.size) (e := 35) (size := 1) w (madeCells #[Value.slice none 0 0] n) n (Nat.le_refl _) hn (by rw [size_madeCells]; omega)
    rwa [toList_madeCells_one] at this
  · intro g hg
    have : g = w.heap.size := by simpa [Value.ownBlock] using hg.symm
    omega
  · intro i r hr
    rw [List.getElem?_replicate] at hr
    split at hr
    · rename_i hi
      injection hr with hr
      subst hr
      exact ⟨.slice none 0 0, by rw [List.getElem?_replicate, if_pos hi], OwnI.nil _ _, fun g hg => by simp [Value.ownBlock] at hg⟩
    · exact absurd hr (by simp)
  · intro i j u u' _ hu _
    left
    rw [key i u hu]; rfl
theorem OwnR.cell {w : World} {lo hi g n c : Nat} {t : List (List Int)} (h : OwnR w lo hi (.slice (some ⟨g, 0, none⟩) n c) t) (i : Nat) (hi' : i < t.length) :
    lo ≤ g ∧ g < hi ∧ g < w.heap.size ∧ w.frozen? ⟨g, i, none⟩ = false ∧ ∃ A' c', w.cell? ⟨g, i, none⟩ = some (.slice A' (Pl.rw' t i).length c') ∧ OwnI w lo (.slice A' (Pl.rw' t i).length c') (Pl.rw' t i) ∧
      (∀ b, (Value.slice A' (Pl.rw' t i).length c').ownBlock = some b → b < hi) ∧ (∀ vs : List Value, w.ownsRow lo 35 1 (.slice (some ⟨g, 0, none⟩) t.length c) t.length vs → vs[i]? = some (.slice A' (Pl.rw' t i).length c')) := by
  have hn : n = t.length := by
    obtain ⟨A0, c0, e, _⟩ := h.read
    injection e
  subst hn
  obtain ⟨g0, c0, A', c', e, hg, h1, h2, h3, h4⟩ := h.row i hi'
  injection e with e1 e2 e3
  injection e1 with e1
  injection e1 with e1
  subst e1 e3
  obtain ⟨vs, k1, k2, _⟩ := h
  exact ⟨(World.ownsRow.lt k1 g rfl).1, k2 g rfl, hg, World.ownsRow.frozenAt k1 i, A', c', h1, h3, h4, h2⟩
/-- a new row is stored -/
theorem OwnR.put {w : World} {lo hi hi' g n c : Nat} {t : List (List Int)} (h : OwnR w lo hi (.slice (some ⟨g, 0, none⟩) n c) t) (i : Nat) (hi1 : i < t.length) (u : Value) (r : List Int)
    (hu : OwnI w lo u r) (hb : ∀ b, u.ownBlock = some b → hi ≤ b ∧ b < hi') (hh : hi ≤ hi') : OwnR (w.setCell ⟨g, i, none⟩ u) lo hi' (.slice (some ⟨g, 0, none⟩) n c) (t.set i r) := by
  have hn : n = t.length := by
    obtain ⟨A0, c0, e, _⟩ := h.read
    injection e
  subst hn
  obtain ⟨vs, h1, h2, h3, h4⟩ := h
  have hl : vs.length = t.length := by have := h1.1; omega
  obtain ⟨k1, k2⟩ := World.ownsRow.stored h1 i u
  have keepI : ∀ (u0 : Value) (l : List Int), OwnI w lo u0 l → OwnI (w.setCell ⟨g, i, none⟩ u) lo u0 l := fun u0 l ho => ho.other (grown_setCell w g i u) (ne_types h1 ho)
  refine ⟨vs.set i u, by rw [List.length_set]; exact k1, fun b hb' => Nat.lt_of_lt_of_le (h2 b hb') hh, fun j r' hr => ?_, fun j k x y hjk hx hy => ?_⟩
  · rw [List.getElem?_set] at hr
    by_cases hij : i = j
    · subst hij
      rw [if_pos rfl, if_pos hi1] at hr
      injection hr with hr
      subst hr
      exact ⟨u, by rw [List.getElem?_set, if_pos rfl, if_pos (by omega)], keepI u r hu, fun b hb' => (hb b hb').2⟩
    · rw [if_neg hij] at hr
      obtain ⟨u1, a1, a2, a3⟩ := h3 j r' hr
      exact ⟨u1, by rw [List.getElem?_set, if_neg hij]; exact a1, keepI u1 r' a2, fun b hb' => Nat.lt_of_lt_of_le (a3 b hb') hh⟩
  · have hblk : ∀ (q : Nat) (z : Value), vs[q]? = some z → ∀ b, z.ownBlock = some b → b < hi := by
      intro q z hz b hb'
      have hq := (List.getElem?_eq_some_iff.1 hz).1
      obtain ⟨z', a1, _, a3⟩ := h3 q _ (List.getElem?_eq_getElem (show q < t.length by omega))
      rw [hz] at a1
      injection a1 with a1
      subst a1
      exact a3 b hb'
    rw [List.getElem?_set] at hx hy
    by_cases hij : i = j
    · subst hij
      rw [if_pos rfl, if_pos (by omega)] at hx
      injection hx with hx
      subst hx
      rw [if_neg (by omega)] at hy
      rcases hc : u.ownBlock with _ | b
      · exact .inl rfl
      · refine .inr fun e => ?_
        have p1 := (hb b hc).1
        have p2 := hblk k y hy b e.symm
        omega
    · rw [if_neg hij] at hx
      by_cases hik : i = k
      · subst hik
        rw [if_pos rfl, if_pos (by omega)] at hy
        injection hy with hy
        subst hy
        rcases hc : x.ownBlock with _ | b
        · exact .inl rfl
        · refine .inr fun e => ?_
          have p1 := (hb b e.symm).1
          have p2 := hblk j x hx b hc
          omega
      · rw [if_neg hik] at hy
        exact h4 j k x y hjk hx hy
/-- one number of row i is written -/
theorem OwnR.num {w : World} {lo hi n c : Nat} {g : Nat} {t : List (List Int)} (h : OwnR w lo hi (.slice (some ⟨g, 0, none⟩) n c) t) (i j : Nat) (hi1 : i < t.length) (hj : j < (Pl.rw' t i).length) :
    ∃ b c', w.cell? ⟨g, i, none⟩ = some (.slice (some ⟨b, 0, none⟩) (Pl.rw' t i).length c') ∧ lo ≤ b ∧ b < hi ∧ b < w.heap.size ∧ w.cell? ⟨b, j, none⟩ = some (.int .i64 (Pl.pc t i j)) ∧ w.frozen? ⟨b, j, none⟩ = false ∧
      ∀ y, OwnR (w.setCell ⟨b, j, none⟩ (.int .i64 y)) lo hi (.slice (some ⟨g, 0, none⟩) n c) (t.set i ((Pl.rw' t i).set j y)) := by
  have hn : n = t.length := by
    obtain ⟨A0, c0, e, _⟩ := h.read
    injection e
  subst hn
  obtain ⟨_, _, _, _, A', c', h1, h2, h3, h4⟩ := h.cell i hi1
  obtain ⟨b, cb, e⟩ := h2.openv (by intro e; rw [e] at hj; simp at hj)
  injection e with e1 e2 e3
  subst e1 e3
  obtain ⟨o1, o2, o3, o4⟩ := h2.cells
  refine ⟨b, c', h1, o1, h3 b rfl, o2, o3 j hj, o4 j, fun y => ?_⟩
  exact h.setRow i _ h4 hi1 (grown_setCell w b j (.int .i64 y)) (h2.set j y)

/-- the same in whatever world comes of this one by new blocks -/
theorem OwnR.numB {w : World} {lo hi n c : Nat} {g : Nat} {t : List (List Int)} (h : OwnR w lo hi (.slice (some ⟨g, 0, none⟩) n c) t) (i j L : Nat) (hi1 : i < t.length) (hL : (Pl.rw' t i).length = L) (hj : j < L) :
    ∃ b c', g < hi ∧ lo ≤ b ∧ b < hi ∧ b ≠ g ∧ ∀ W, Below hi w W → W.cell? ⟨g, i, none⟩ = some (.slice (some ⟨b, 0, none⟩) L c') ∧ W.cell? ⟨b, j, none⟩ = some (.int .i64 (Pl.pc t i j)) ∧ W.frozen? ⟨b, j, none⟩ = false ∧
      ∀ y, OwnR (W.setCell ⟨b, j, none⟩ (.int .i64 y)) lo hi (.slice (some ⟨g, 0, none⟩) n c) (t.set i ((Pl.rw' t i).set j y)) := by
  subst hL
  obtain ⟨b, c', k1, k2, k3, _⟩ := h.num i j hi1 hj
  have hg := (h.cell i hi1).2.1
  have hbg : b ≠ g := by
    rintro rfl
    obtain ⟨_, _, _, _, A', c2, p1, p2, _⟩ := h.cell i hi1
    rw [k1] at p1
    injection p1 with p1
    injection p1 with p1 p1b p1c
    subst p1
    obtain ⟨vs, q1, _⟩ := h
    rcases ne_types q1 p2 with e | e
    · simp [Value.ownBlock] at e
    · simp [Value.ownBlock] at e
  refine ⟨b, c', hg, k2, k3, hbg, fun W hb => ?_⟩
  obtain ⟨b', c'', l1, _, _, _, l2, l3, l4⟩ := (h.keep hb).num i j hi1 hj
  have e := (hb.cell (p := ⟨g, i, none⟩) hg).trans k1
  rw [l1] at e
  injection e with e
  injection e with e1 e2 e3
  injection e1 with e1
  injection e1 with e1
  subst e1 e3
  exact ⟨l1, l2, l3, l4⟩

/-- block g holds a variable of several cells -/
def VarC (t : TypeId) (w : World) (g : Nat) (cs : Array Value) : Prop := w.heap[g]? = some (.cells cs t (0, 0))
theorem VarC.new (t : TypeId) (w : World) (cs : Array Value) : VarC t (w.alloc (.cells cs t)) w.heap.size cs := heap_alloc_new w _
theorem VarC.lt {t : TypeId} {w : World} {g : Nat} {cs : Array Value} (h : VarC t w g cs) : g < w.heap.size := (Array.getElem?_eq_some_iff.1 h).1
theorem VarC.keep {t : TypeId} {w w' : World} {g : Nat} {cs : Array Value} (h : VarC t w g cs) (hb : Below w.heap.size w w') : VarC t w' g cs := (hb.block g h.lt).trans h
theorem VarC.other {t : TypeId} {w w' : World} {g : Nat} {cs : Array Value} {r : Option Nat} (h : VarC t w g cs) (hg : w.grownBy w' r) (hne : r ≠ some g) : VarC t w' g cs := (hg.block g h.lt (fun e => hne e.symm)).trans h
theorem VarC.far {t : TypeId} {w : World} {g : Nat} {cs : Array Value} (h : VarC t w g cs) (b i : Nat) (u : Value) (hne : b ≠ g) : VarC t (w.setCell ⟨b, i, none⟩ u) g cs :=
  (Below.heap_setCell w ⟨b, i, none⟩ u g (fun e => hne e.symm)).trans h
theorem VarC.cell {t : TypeId} {w : World} {g : Nat} {cs : Array Value} (h : VarC t w g cs) (k : Nat) (x : Value) (hk : cs[k]? = some x) : w.cell? ⟨g, k, none⟩ = some x := by
  unfold VarC at h
  simp [World.cell?, h, hk]
theorem VarC.fz {t : TypeId} {w : World} {g : Nat} {cs : Array Value} (h : VarC t w g cs) (k : Nat) : w.frozen? ⟨g, k, none⟩ = false := by
  unfold VarC at h
  simp [World.frozen?, h]
theorem VarC.set {t : TypeId} {w : World} {g : Nat} {cs : Array Value} (h : VarC t w g cs) (k : Nat) (u : Value) : VarC t (w.setCell ⟨g, k, none⟩ u) g (cs.setIfInBounds k u) := by
  unfold VarC at h ⊢
  simp [World.setCell, Array.getElem?_modify, h]
theorem VarC.drew {t : TypeId} {w : World} {g : Nat} {cs : Array Value} (h : VarC t w g cs) : VarC t w.drew g cs := h
end Go.Proofs.Ytlpfifdocgljnac

/- A region that draws its order, and whose last operation stores into what the others load: a condition on the world that holds till then. -/
namespace Go.Proofs.Ytlpfifdocgljnac
open Go

section
variable {P : Program} {ops : Array Oper} {Q : Exit → Act → World → Prop} {md : Region.Mode} {S : World → Prop} {n : Nat}

/-- in whatever order; S holds behind every operation but number n -/
def wpTill (P : Program) (md : Region.Mode) (ops : Array Oper) (Q : Exit → Act → World → Prop) (S : World → Prop) (n : Nat) : Nat → Array Bool → Act → World → Prop
  | 0, listed, a, w => Region.ready md ops listed = [] ∧ Q .normal a w
  | fuel + 1, listed, a, w => (Region.ready md ops listed = [] → Q .normal a w) ∧
    ∀ i ∈ Region.ready md ops listed, wpOp P ops Q i (fun a' w' => (i ≠ n → S w') ∧ wpTill P md ops Q S n fuel (listed.setIfInBounds i true) a' w') a w
theorem any_of_till : ∀ (fuel : Nat) (listed : Array Bool) (a : Act) (w : World), wpTill P md ops Q S n fuel listed a w → wpAny P md ops Q fuel listed a w
  | 0, _, _, _, h => h
  | fuel + 1, _, _, _, h => ⟨h.1, fun i hi => wpOp_mono (fun a' w' k => any_of_till fuel _ a' w' k.2) (h.2 i hi)⟩
/-- what is listed cannot be waited for by what may come up -/
theorem no_wait {i : Nat} {listed : Array Bool} {oj : Oper} (hr : i ∈ Region.ready md ops listed) (hall : ∀ e ∈ oj.after, Region.binds md e = true → listed.getD e.on false = true) :
    ∀ e ∈ oj.after, Region.binds md e = true → e.on ≠ i := by
  intro e he hb heq
  have h1 := hall e he hb
  have h0 := (mem_ready.1 hr).1
  rw [heq] at h1
  by_cases h : i < listed.size
  · simp [h] at h0 h1
    rw [h0] at h1
    exact absurd h1 (by decide)
  · simp [Array.getElem?_eq_none (Nat.le_of_not_lt h)] at h1
/-- an operation that yields v in every world of S may be taken first, if number n waits for it -/
theorem till_first {i : Nat} {oi : Oper} {v : Value} (hi : ops[i]? = some oi) (hsel : ∀ (j : Nat) (o : Oper) cs b, ops[j]? = some o → o.op ≠ .select cs b)
    (hQ : ∀ c a w, Q (.panic c) (a.put oi.dst v) w → Q (.panic c) a w) (hn : ∀ on, ops[n]? = some on → ∃ e ∈ on.after, Region.binds md e = true ∧ e.on = i) :
    ∀ (fuel : Nat) (listed : Array Bool) (a : Act) (w : World),
      (∀ j oj, ops[j]? = some oj → j ≠ i → listed.getD j true = false → (∀ e ∈ oj.after, Region.binds md e = true → e.on ≠ i) → oi.apart ops oj = true) →
      i ∈ Region.ready md ops listed → YieldsIf P ops S oi v a → S w →
      wpTill P md ops Q S n fuel (listed.setIfInBounds i true) (a.put oi.dst v) w → wpTill P md ops Q S n (fuel + 1) listed a w := by
  intro fuel
  induction fuel with
  | zero =>
    intro listed a w _ hr hy hS H
    refine ⟨fun e => (by rw [e] at hr; cases hr), fun j hj => ?_⟩
    by_cases hji : j = i
    · subst hji
      exact hy.wpOp hi hS ⟨fun _ => hS, H⟩
    · have hk := ready_mono hj hji
      rw [H.1] at hk
      cases hk
  | succ fuel ih =>
    intro listed a w hfree hr hy hS H
    refine ⟨fun e => (by rw [e] at hr; cases hr), fun j hj => ?_⟩
    by_cases hji : j = i
    · subst hji
      exact hy.wpOp hi hS ⟨fun _ => hS, H⟩
    · obtain ⟨hun, oj, hoj, hall⟩ := mem_ready.1 hj
      have hnot := no_wait hr hall
      have hjn : j ≠ n := by
        rintro rfl
        obtain ⟨e, he, hb, heq⟩ := hn oj hoj
        exact hnot e he hb heq
      have k2 := wpOp_putIf hoj (hfree j oj hoj hji hun hnot) (fun cs b => hsel i oi cs b hi) (fun cs b => hsel j oj cs b hoj) hQ hy (H.2 j (ready_mono hj hji))
      have hfree' : ∀ k ok, ops[k]? = some ok → k ≠ i → (listed.setIfInBounds j true).getD k true = false →
          (∀ e ∈ ok.after, Region.binds md e = true → e.on ≠ i) → oi.apart ops ok = true := by
        intro k ok hk hki hu hno
        refine hfree k ok hk hki ?_ hno
        by_cases hjk : j = k
        · subst hjk; exact hun
        · rw [getD_set_ne true hjk] at hu; exact hu
      refine wpOp_mono (fun a' w' k3 => ⟨fun _ => k3.2.1 hjn, ih (listed.setIfInBounds j true) a' w' hfree' (ready_mono hr (Ne.symm hji)) k3.1 (k3.2.1 hjn) ?_⟩) k2
      rw [Array.setIfInBounds_comm _ _ hji]
      exact k3.2.2
/-- number n waits for number i -/
def waitB (md : Region.Mode) (ops : Array Oper) (n i : Nat) : Bool := ((ops[n]?).map fun o => o.after.any fun e => Region.binds md e && e.on == i).getD true
theorem till_take {i : Nat} {oi : Oper} {dst : Option Tmp} (v : Value) {fuel : Nat} {listed : Array Bool} {a : Act} {w : World} (hi : ops[i]? = some oi) (hd : oi.dst = dst) (hs : Region.noSelect ops = true) (hf : Region.free md ops listed i = true)
    (hr : (Region.ready md ops listed).contains i = true) (hw : waitB md ops n i = true) (hQ : ∀ c a w, Q (.panic c) (a.put dst v) w → Q (.panic c) a w) (hy : YieldsIf P ops S oi v a) (hS : S w)
    (h : wpTill P md ops Q S n fuel (listed.setIfInBounds i true) (a.put dst v) w) : wpTill P md ops Q S n (fuel + 1) listed a w := by
  subst hd
  refine till_first hi (Region.noSelect_spec hs) hQ (fun on ho => ?_) fuel listed a w (Region.free_spec hi hf) (by simpa using hr) hy hS h
  unfold waitB at hw
  rw [ho] at hw
  obtain ⟨e, he, k⟩ := Array.any_eq_true'.1 (show (on.after.any fun e => Region.binds md e && e.on == i) = true from hw)
  rw [Bool.and_eq_true] at k
  exact ⟨e, he, k.1, by simpa using k.2⟩
/-- one operation alone may come up -/
theorem till_one {i : Nat} {o : Oper} {fuel : Nat} {listed : Array Bool} {a : Act} {w : World} (hr : Region.ready md ops listed = [i]) (ho : ops[i]? = some o)
    (h : ∀ K : Act → World → Prop, Shut (∀ a w, (i ≠ n → S w) → wpTill P md ops Q S n fuel (listed.setIfInBounds i true) a w → K a w) → if Region.wanted o (yielded ops a.tmps) = true then Oper.wp P o a w K Q else K (a.put o.dst undef) w) :
    wpTill P md ops Q S n (fuel + 1) listed a w := by
  refine ⟨fun e => (by rw [e] at hr; cases hr), fun j hj => ?_⟩
  rw [hr] at hj
  obtain rfl : j = i := by simpa using hj
  exact wpOp_step ho (fun K hK => h K (fun a w hS hW => hK a w ⟨hS, hW⟩))
theorem till_done {fuel : Nat} {listed : Array Bool} {a : Act} {w : World} (hr : Region.ready md ops listed = []) (h : Q .normal a w) : wpTill P md ops Q S n fuel listed a w := by
  cases fuel with
  | zero => exact ⟨hr, h⟩
  | succ f => exact ⟨fun _ => h, by rw [hr]; simp⟩
theorem region_till {id : Nat} {a : Act} {w : World} (S : World → Prop) (n : Nat) (hm : P.follows .mixedOrders = true) (h : wpTill P .any ops Q S n ops.size (Array.replicate ops.size false) a w.drew) : (Code.region id ops true).wp P Q a w :=
  wp_region_any hm (any_of_till _ _ _ _ h)
end
end Go.Proofs.Ytlpfifdocgljnac

/- Contracts of sums and multiples of series, of the program. -/
namespace Go.Proofs.Ytlpfifdocgljnac
open Go.RowKit Go.WideShapes Go.ChangeShapes Go.ChangeAt

/-- the world behind the boxes and the result's variable -/
theorem box3_new (w : World) (m m' : Int) (A A' : Option Addr) (n c n' c' : Nat) (W : World) (hW : (((w.alloc (.cells #[.int .i64 m, .slice A n c] 84)).alloc (.cells #[.int .i64 m', .slice A' n' c'] 84)).alloc (.cells #[.int .i64 0, .slice none 0 0] 84)) = W) :
    Box W w.heap.size m A n c ∧ Box W (w.heap.size + 1) m' A' n' c' ∧ Var2 W (w.heap.size + 1 + 1) (.int .i64 0) (.slice none 0 0) ∧ Below w.heap.size w W := by
  subst hW
  obtain ⟨h1, h2, h3⟩ := box2_new w m m' A A' n c n' c' _ rfl
  refine ⟨h1.keep (below_one _ _), h2.keep (below_one _ _), ?_, below_alloc _ h3⟩
  have := Var2.new ((w.alloc (.cells #[.int .i64 m, .slice A n c] 84)).alloc (.cells #[.int .i64 m', .slice A' n' c'] 84)) (.int .i64 0) (.slice none 0 0)
  simpa using this

end Go.Proofs.Ytlpfifdocgljnac

/- Contracts of monomials, multiples and products of series, of the program. -/
namespace Go.Proofs.Ytlpfifdocgljnac
open Go.RowKit Go.WideShapes Go.ChangeShapes Go.ChangeAt

/-- a block of one number -/
def Cel (w : World) (g : Nat) (x : Int) : Prop := w.cell? ⟨g, 0, none⟩ = some (.int .i64 x) ∧ g < w.heap.size
theorem Cel.new (w : World) (x : Int) : Cel (w.alloc (.cells #[.int .i64 x] 2)) w.heap.size x := by
  refine ⟨?_, by simp⟩
  rw [World.cell?_alloc_at _ _ _ _ rfl]; rfl
theorem Cel.keep {w w' : World} {g : Nat} {x : Int} (h : Cel w g x) (hb : Below w.heap.size w w') : Cel w' g x :=
  ⟨(hb.cell (p := ⟨g, 0, none⟩) h.2).trans h.1, Nat.lt_of_lt_of_le h.2 hb.size⟩

theorem monoC_any (n k : Nat) (g g' : Nat) (c : Int) (W : World) (h1 : Cel W g k) (h2 : Cel W g' c) :
    Calls Try.prog 97 #[.int .i64 n, .pointer (some ⟨g, 0, none⟩), .pointer (some ⟨g', 0, none⟩)] W fun e w' => e = .returned (.int .i64 (Ser.mon k c n)) ∧ Below W.heap.size W w' := by
  obtain ⟨x1, _⟩ := h1
  obtain ⟨x2, _⟩ := h2
  by_cases h : n = k
  · subst h
    have HE := Lib.hid (show Ser.mon n c n = c by unfold Ser.mon; rw [if_pos rfl])
    go_enter Try.func97, Try.ntmps97
    go_wp2
    go_ret
    exact ⟨ret_int HE.out.symm, Below.refl _ _⟩
  · have HE := Lib.hid (show Ser.mon k c n = 0 by unfold Ser.mon; rw [if_neg h])
    have hn : ¬ (n : Int) = (k : Int) := by omega
    obtain ⟨n1, n2⟩ : ((n : Int) == (k : Int)) = false ∧ ((n : Int) != (k : Int)) = true := ⟨by simpa using hn, by simpa using hn⟩
    clear h
    go_enter Try.func97, Try.ntmps97
    go_wp2
    go_ret
    exact ⟨ret_int HE.out.symm, Below.refl _ _⟩

theorem mon_bd (k : Nat) (c lo hi : Int) (h1 : lo ≤ 0) (h2 : 0 ≤ hi) (h3 : lo ≤ c) (h4 : c ≤ hi) (n : Nat) : lo ≤ Ser.mon k c n ∧ Ser.mon k c n ≤ hi := by
  unfold Ser.mon; split <;> omega

set_option maxHeartbeats 2000000 in
theorem monomial_any (m : Int) (d k : Nat) (c : Int) (w : World) (h1 : 1 ≤ m) (h2 : m ≤ 10000) (hd : d ≤ 1000) (h3 : -1000000 ≤ c) (h4 : c ≤ 1000000) :
    Calls Try.prog 69 #[.int .i64 m, .int .i64 d, .int .i64 k, .int .i64 c] w fun e w' => ∃ v, e = .returned (.agg #[.int .i64 m, v]) ∧ OwnI w' w.heap.size v (Ser.cut m d (Ser.mon k c)) ∧ Below w.heap.size w w' := by
  obtain ⟨W, hW⟩ : ∃ W, ((w.alloc (.cells #[.int .i64 k] 2)).alloc (.cells #[.int .i64 c] 2)).alloc (.cells #[.int .i64 0, .slice none 0 0] 84) = W := ⟨_, rfl⟩
  have hwb : Below w.heap.size w W := by rw [← hW]; exact below_alloc _ (below_alloc _ (below_one _ _))
  have b1 : Cel W w.heap.size k := by rw [← hW]; exact ((Cel.new w k).keep (below_one _ _)).keep (below_one _ _)
  have b2 : Cel W (w.heap.size + 1) c := by
    rw [← hW]
    have := (Cel.new (w.alloc (.cells #[.int .i64 k] 2)) c).keep (below_one _ (.cells #[.int .i64 0, .slice none 0 0] 84))
    simpa using this
  have v3 : Var2 W (w.heap.size + 1 + 1) (.int .i64 0) (.slice none 0 0) := by
    rw [← hW]
    have := Var2.new ((w.alloc (.cells #[.int .i64 k] 2)).alloc (.cells #[.int .i64 c] 2)) (.int .i64 0) (.slice none 0 0)
    simpa using this
  have V3 := Lib.hid v3
  have HB := Lib.hid hwb
  have HW := Lib.hid hW
  have HS := Lib.hid (seriesOf_any m d 97 #[.pointer (some ⟨w.heap.size, 0, none⟩), .pointer (some ⟨w.heap.size + 1, 0, none⟩)] (Ser.mon k c) W h1 h2 hd
    (fun n _ => mon_bd k c _ _ (by omega) (by omega) (by omega) (by omega) n)
    (enters_fn Try.func97 (of_decide_eq_true (by kernel_rfl)) rfl)
    (fun n W1 hn hb => monoC_any n k _ _ c W1 (b1.keep hb) (b2.keep hb)))
  obtain ⟨L, hL⟩ : ∃ L, Ser.cut m d (Ser.mon k c) = L := ⟨_, rfl⟩
  rw [hL] at HS ⊢
  clear b1 b2 v3 hwb hW hL
  go_enter Try.func69, Try.ntmps69
  go_wp2_with fail
  rw [HW.out]
  refine HS.out.mono ?_
  rintro e w2 ⟨v, rfl, ho, hb⟩
  obtain ⟨A2, c2, rfl, _⟩ := ho.form
  have hv := V3.out.keep hb
  have q0 := hv.c0
  have q1 := hv.c1
  have q2 := hv.fz 0
  have q3 := hv.fz 1
  obtain ⟨f0, f1, f2, f3⟩ := fin_var (w := w) hv ho (by have := V3.out.lt; omega) (by omega) (below_step HB.out hb) (.int .i64 m) (.slice A2 L.length c2)
  have F2 := Lib.hid f2
  have F3 := Lib.hid f3
  clear f2 f3 hv ho hb
  go_wp2
  exact bodyPost_ret (v := .agg #[.int .i64 m, .slice A2 L.length c2]) (by simp [results, Try.results69, go_sem, f0, f1]) rfl ⟨_, rfl, F2.out, F3.out⟩

theorem mul_bd {x y : Int} (h1 : 0 ≤ x) (h2 : x ≤ 10000) (h3 : -10000 ≤ y) (h4 : y ≤ 10000) : -100000000 ≤ x * y ∧ x * y ≤ 100000000 := by
  constructor
  · have := Int.mul_le_mul_of_nonneg_left (c := x) h3 h1
    have e : x * -10000 = -(x * 10000) := Int.mul_neg _ _
    omega
  · have := Int.mul_le_mul_of_nonneg_left (c := x) h4 h1
    omega

/-! products -/
set_option maxHeartbeats 4000000 in
theorem productAt_any (m : Int) (d n : Nat) (A : Option Addr) (c : Nat) (l : List Int) (m' : Int) (A' : Option Addr) (c' : Nat) (l' : List Int) (w : World) (hs : SerOk m d l) (hs' : SerOk m d l') (hr : RI w A l) (hr' : RI w A' l') (hn : n ≤ d) :
    Calls Try.prog 134 #[.agg #[.int .i64 m, .slice A l.length c], .agg #[.int .i64 m', .slice A' l'.length c'], .int .i64 n] w fun e w' => e = .returned (.int .i64 (Ser.cv n (Ser.co l) (Ser.co l'))) ∧ Below w.heap.size w w' := by
  obtain ⟨W, hW⟩ : ∃ W, (w.alloc (.cells #[.int .i64 m, .slice A l.length c] 84)).alloc (.cells #[.int .i64 m', .slice A' l'.length c'] 84) = W := ⟨_, rfl⟩
  obtain ⟨b1, b2, hwb⟩ := box2_new w m m' A A' l.length c l'.length c' W hW
  obtain ⟨x1, x2, _⟩ := b1
  obtain ⟨y1, y2, _⟩ := b2
  have HB := Lib.hid hwb
  have HW := Lib.hid hW
  have R1 := Lib.hid (hr.below hwb)
  have R2 := Lib.hid (hr'.below hwb)
  have HS := Lib.hid hs
  have HS' := Lib.hid hs'
  have HD := hs.d2
  obtain ⟨f, hf⟩ : ∃ f, f = fun i => Ser.co l i * Ser.co l' (n - i) := ⟨_, rfl⟩
  have HE := Lib.hid (show Ser.cv n (Ser.co l) (Ser.co l') = Ser.psum f (n + 1) by rw [hf]; exact Ser.cv_psum _ _ _)
  have HF := Lib.hid hf
  clear hwb hW hr hr' hs hs' hf
  go_enter Try.func134, Try.ntmps134
  go_wp2
  rw [HW.out]
  go_loopw [7, 8, 11] (fun s _ i wr => ∃ k : Nat, k ≤ n + 1 ∧ i = .int .i64 k ∧ s = .int .i64 (Ser.psum f k) ∧ 0 ≤ Ser.psum f k ∧ Ser.psum f k ≤ k * 100000000 ∧ ∃ q, wr = W.drewN q) (fun _ _ i _ => n + 1 - (intOf i).toNat)
  case atStart => exact ⟨0, Nat.zero_le _, rfl, rfl, Int.le_refl _, Int.le_refl _, 0, rfl⟩
  case round =>
    obtain ⟨k, hk, rfl, rfl, z1, z2, q, rfl⟩ := hrel
    by_cases hlt : k < n + 1
    · obtain ⟨b, off, rfl, hb, hc⟩ := R1.out.at k (by have := HS.out.len; omega)
      obtain ⟨b', off', rfl, hb', hc'⟩ := R2.out.at (n - k) (by have := HS'.out.len; omega)
      have r1 := HS.out.red k
      have r2 := HS'.out.red (n - k)
      have m2 := HS.out.m2
      have hst : Ser.psum f (k + 1) = Ser.psum f k + Ser.co l k * Ser.co l' (n - k) := by rw [Ser.psum, HF.out]
      obtain ⟨X, hX⟩ : ∃ X, Ser.co l k = X := ⟨_, rfl⟩
      obtain ⟨Y, hY⟩ : ∃ Y, Ser.co l' (n - k) = Y := ⟨_, rfl⟩
      obtain ⟨P, hP⟩ : ∃ P, Ser.psum f k = P := ⟨_, rfl⟩
      rw [hX] at hc r1 hst
      rw [hY] at hc' r2 hst
      rw [hP] at z1 z2 hst
      obtain ⟨p1, p2⟩ := mul_bd (x := X) (y := Y) r1.1 (by omega) (by omega) (by omega)
      have p3 : 0 ≤ X * Y := Int.mul_nonneg r1.1 r2.1
      have l1 := HS.out.len
      have l2 := HS'.out.len
      have j0 : (0 : Int) ≤ (k : Int) := by omega
      have j1 : (k : Int) < (l.length : Int) := by omega
      have j3 : (0 : Int) ≤ (n : Int) - (k : Int) := by omega
      have j4 : (n : Int) - (k : Int) < (l'.length : Int) := by omega
      have j5 : ((n : Int) - (k : Int)).toNat = n - k := by omega
      have HST := Lib.hid hst
      have HP := Lib.hid hP
      clear hX hY hP hst l1 l2
      rw [HP.out]
      go_wp2
      go_quiet (fail)
      go_wp2
      go_roundw
      case rel => exact ⟨k + 1, by omega, by go_num, by rw [HST.out], by rw [HST.out]; omega, by rw [HST.out]; omega, _, rfl⟩
      case measure => simp only [intOf]; omega
    · obtain rfl : k = n + 1 := by omega
      go_wp2
      go_ret
      exact ⟨ret_int HE.out.symm, below_drewN HB.out _⟩
end Go.Proofs.Ytlpfifdocgljnac

/- Contract of the model's product of lists. -/
namespace Go.Proofs.Ytlpfifdocgljnac
open Go.RowKit Go.WideShapes Go.ChangeShapes Go.ChangeAt

theorem timS_red {m : Int} (hm : 0 < m) (d : Nat) (a b : Nat → Int) (i : Nat) : Ser.Red m (Ser.timS m d a b i) := Ser.cut_red hm _ _
theorem timP_red {m : Int} (hm : 0 < m) (d : Nat) (a b : Nat → Int) (i k : Nat) : Ser.Red m (Ser.timP m d a b i k) := Ser.cut_red hm _ _

theorem timP_null (m : Int) (d : Nat) (a b : Nat → Int) (i k : Nat) (h : a i = 0) : Ser.timP m d a b i k = Ser.timS m d a b (i + 1) := by
  unfold Ser.timP Ser.timS
  refine Ser.cut_congr (Ser.Eq.of m d (fun n hn => ?_))
  rw [Ser.psum]
  unfold Ser.tr
  rw [h]
  simp
end Go.Proofs.Ytlpfifdocgljnac

/- Contracts of AddSeries, of the program. -/
namespace Go.Proofs.Ytlpfifdocgljnac
open Go.RowKit Go.WideShapes Go.ChangeShapes Go.ChangeAt

theorem code2_iff {m : Int} {l : List Int} {m' : Int} {l' : List Int} (h : code2 m l m' l' = 0) : isS m l = true ∧ isS m' l' = true ∧ m = m' ∧ l.length = l'.length := by
  unfold code2 at h
  by_cases h1 : isS m l = true ∧ isS m' l' = true
  · rw [if_pos h1] at h
    by_cases h2 : m = m' ∧ l.length = l'.length
    · exact ⟨h1.1, h1.2, h2.1, h2.2⟩
    · rw [if_neg h2] at h; exact absurd h (by decide)
  · rw [if_neg h1] at h; exact absurd h (by decide)
theorem code2_ok {m : Int} {l : List Int} {m' : Int} {l' : List Int} (h : code2 m l m' l' = 0) : m = m' ∧ ∃ d, l.length = d + 1 ∧ l'.length = d + 1 ∧ SerOk m d l ∧ SerOk m d l' := by
  obtain ⟨h1, h2, rfl, h4⟩ := code2_iff h
  obtain ⟨d, e1, s1⟩ := serOk_of h1
  obtain ⟨d', e2, s2⟩ := serOk_of h2
  obtain rfl : d = d' := by omega
  exact ⟨rfl, d, e1, e2, s1, s2⟩

/-- a function of two series that are alike -/
def twoM (f : Int → Nat → List Int → List Int → List Int) (m : Int) (l : List Int) (m' : Int) (l' : List Int) : Int × List Int × Int :=
  if code2 m l m' l' = 0 then (m, f m (l.length - 1) l l', 0) else (0, [], code2 m l m' l')
def addL (m : Int) (d : Nat) (l l' : List Int) : List Int := Ser.cut m d fun n => Ser.co l n + Ser.co l' n
/-- the world behind both boxes, the result's variable and the list of both -/
theorem box4_new (w : World) (m m' : Int) (A A' : Option Addr) (n c n' c' : Nat) (W : World) (hW : ((((w.alloc (.cells #[.int .i64 m, .slice A n c] 84)).alloc (.cells #[.int .i64 m', .slice A' n' c'] 84)).alloc (.cells #[.int .i64 0, .slice none 0 0] 84)).alloc (.cells #[.int .i64 m, .slice A n c, .int .i64 m', .slice A' n' c'] 84)) = W) :
    Box W w.heap.size m A n c ∧ Box W (w.heap.size + 1) m' A' n' c' ∧ Var2 W (w.heap.size + 1 + 1) (.int .i64 0) (.slice none 0 0) ∧ Box4 W (w.heap.size + 1 + 1 + 1) m A n c m' A' n' c' ∧ Below w.heap.size w W := by
  obtain ⟨W0, hW0⟩ : ∃ W0, (((w.alloc (.cells #[.int .i64 m, .slice A n c] 84)).alloc (.cells #[.int .i64 m', .slice A' n' c'] 84)).alloc (.cells #[.int .i64 0, .slice none 0 0] 84)) = W0 := ⟨_, rfl⟩
  obtain ⟨h1, h2, h3, h4⟩ := box3_new w m m' A A' n c n' c' W0 hW0
  have hs : W0.heap.size = w.heap.size + 1 + 1 + 1 := by rw [← hW0]; simp
  rw [hW0] at hW
  subst hW
  refine ⟨h1.keep (below_one _ _), h2.keep (below_one _ _), h3.keep (below_one _ _), ?_, below_alloc _ h4⟩
  rw [← hs]
  exact Box4.new _ _ _ _ _ _ _ _ _

theorem OwnI.nil' (w : World) (base : Nat) : OwnI w base (.slice none 0 0) [] := OwnI.nil w base

end Go.Proofs.Ytlpfifdocgljnac

/- Contracts of the model's functions that look at series and make them. -/
namespace Go.Proofs.Ytlpfifdocgljnac
open Go.RowKit Go.WideShapes Go.ChangeShapes Go.ChangeAt

end Go.Proofs.Ytlpfifdocgljnac

