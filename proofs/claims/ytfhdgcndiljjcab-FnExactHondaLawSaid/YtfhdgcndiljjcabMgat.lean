/- Texts of contracts, joined. -/
import Derived.Test.YtfhdgcndiljjcabMgas
import Derived.Test.YtfhdgcndiljjcabMgam
import Derived.Test.YtfhdgcndiljjcabMgab
import Derived.Test.YtfhdgcndiljjcabMgad
import Derived.OrdersHeld
import Derived.Deep.RegionHeld3
import Derived.Deep.DrawnRows
/- Contracts of IntegrateSeries, of the model. -/
namespace Go.Proofs.Ytfhdgcndiljjcab
open Go.RowKit Go.WideShapes Go.ChangeShapes Go.ChangeAt

end Go.Proofs.Ytfhdgcndiljjcab

/- Differentials and logarithms of laws: plain facts. -/
namespace Go.Proofs.Ytfhdgcndiljjcab
open Go.RowKit Go.WideShapes Go.ChangeShapes Go.ChangeAt

theorem gcd_one (m : Int) : gcdI 1 m = 1 := by unfold gcdI; simp
theorem eg_one {m : Int} (hm : 2 ≤ m) : (egI m 1).2 = 1 := by
  have h := unit_mul (m := m) (a := 1) (by omega) (by omega) (gcd_one m)
  obtain ⟨-, -, u1, u2⟩ := eg_fact m 1 (by omega) (by omega)
  rw [Int.one_mul, Int.emod_eq_of_lt u1 u2, Int.emod_eq_of_lt (by omega) (by omega)] at h
  exact h
/-- the coefficients of the differential -/
def dffL (m : Int) (t : List (List Int)) : List Int := Ser.invC m 1 (Ser.co (Pl.rw' t 1)) (t.length - 2)
theorem dffL_length (m : Int) (t : List (List Int)) : (dffL m t).length = t.length - 2 + 1 := Ser.invC_length _ _ _ _
theorem dffL_red {m : Int} (hm : 2 ≤ m) (t : List (List Int)) : Ser.Red m (dffL m t) := Ser.invC_red (by omega) (by omega) (by omega) _ _
theorem dffL_zero (m : Int) (t : List (List Int)) : Ser.co (dffL m t) 0 = 1 := by
  have := Ser.invC_pre m 1 (Ser.co (Pl.rw' t 1)) 0 (t.length - 2) 0 (Nat.le_refl _)
  rw [Nat.zero_add] at this
  unfold dffL
  rw [this]
  rfl
theorem Pl.Ok.ser1 {m : Int} {d : Nat} {t : List (List Int)} (hs : Pl.Ok m d t) (hd : 2 ≤ d) : SerOk m (d - 1) (Pl.rw' t 1) :=
  ⟨hs.m1, hs.m2, by omega, by have := hs.d2; omega, hs.row 1 (by omega), hs.red 1⟩
theorem dffL_ok {m : Int} {d : Nat} {t : List (List Int)} (hs : Pl.Ok m d t) (hd : 2 ≤ d) : SerOk m (d - 1) (dffL m t) :=
  ⟨hs.m1, hs.m2, by omega, by have := hs.d2; omega, by rw [dffL_length]; have := hs.len; omega, dffL_red hs.m1 t⟩
theorem inv1_one {m : Int} (hm : 2 ≤ m) : inv1 m 1 = 1 := by
  unfold inv1
  rw [show ((1 : Nat) : Int) % m = 1 from Int.emod_eq_of_lt (by omega) (by omega)]
  exact eg_one hm
/-- the coefficients of the logarithm -/
def logL (m : Int) (t : List (List Int)) : List Int := insL m (dffL m t)
theorem logL_length {m : Int} {d : Nat} {t : List (List Int)} (hs : Pl.Ok m d t) : (logL m t).length = d + 1 := by
  unfold logL insL
  rw [Ser.cut_length, dffL_length]
  have := hs.len
  have := hs.d1
  omega
theorem logL_ok {m : Int} {d : Nat} {t : List (List Int)} (hs : Pl.Ok m d t) : SerOk m d (logL m t) :=
  ⟨hs.m1, hs.m2, hs.d1, hs.d2, logL_length hs, Ser.cut_red (by have := hs.m1; omega) _ _⟩
theorem logL_zero (m : Int) (t : List (List Int)) : Ser.co (logL m t) 0 = 0 := by
  unfold logL insL
  rw [Ser.co_cut (Nat.zero_le _)]
  simp [insF]
theorem logL_one {m : Int} (hm : 2 ≤ m) (t : List (List Int)) : Ser.co (logL m t) 1 = 1 := by
  unfold logL insL
  rw [Ser.co_cut (by rw [dffL_length]; omega)]
  unfold insF
  rw [if_neg (by omega), Nat.sub_self, dffL_zero, inv1_one hm, Int.mul_one, Int.emod_eq_of_lt (by omega) (by omega)]
theorem logL_lin {m : Int} {t : List (List Int)} (hm : 2 ≤ m) (h : t.length = 2) : logL m t = Pl.lin m 1 1 := by
  have hl : (logL m t).length = 2 := by unfold logL insL; rw [Ser.cut_length, dffL_length]; omega
  refine Ser.list_ext (by rw [hl]; exact (Ser.cut_length _ _ _).symm) (fun i hi => ?_)
  rw [hl] at hi
  unfold Pl.lin
  rw [Ser.co_cut (by omega)]
  match i, hi with
  | 0, _ => rw [logL_zero]; simp [Ser.mon]
  | 1, _ => rw [logL_one hm]; simp [Ser.mon]; exact (Int.emod_eq_of_lt (by omega) (by omega)).symm
theorem allU_one (m : Int) : allU m 1 = true := by
  unfold allU
  simp [List.range_succ, gcd_one]
/-- the model's inverse of the first row of a law is that with the first number 1 -/
theorem row1_one {m : Int} {d : Nat} {t : List (List Int)} (hs : Pl.Ok m d t) (hf : Pl.fau m d (Pl.pc t) = none) : Ser.co (Pl.rw' t 1) 0 = 1 :=
  (Pl.norm_law hf hs).x 1 hs.d1

/-- the models of DifferentialOf, LogarithmOf, ExponentialOf -/
def difM (m : Int) (t : List (List Int)) : Int × List Int × Int :=
  if isL m t = true then (if t.length = 2 then (0, [], 5) else (m, dffL m t, 0)) else (0, [], 1)
def logM (m : Int) (t : List (List Int)) : Int × List Int × Int :=
  if isL m t = true then (if allU m (t.length - 1) = true then (m, logL m t, 0) else (0, [], 5)) else (0, [], 1)
def exqL (m : Int) (t : List (List Int)) : List Int := Ser.revC m 1 (Ser.co (logL m t)) (t.length - 2)
def expM (m : Int) (t : List (List Int)) : Int × List Int × Int :=
  if isL m t = true then (if allU m (t.length - 1) = true then (m, exqL m t, 0) else (0, [], 5)) else (0, [], 1)
theorem difM_len (m : Int) (t : List (List Int)) : (difM m t).2.1.length ≤ 1048576 := by
  unfold difM
  by_cases h : isL m t = true
  · rw [if_pos h]
    obtain ⟨-, d, e, ok, -⟩ := isL_of h
    have := ok.d2
    by_cases h2 : t.length = 2
    · rw [if_pos h2]; exact Nat.zero_le _
    · rw [if_neg h2]; dsimp only; rw [dffL_length]; omega
  · rw [if_neg h]; exact Nat.zero_le _
theorem logM_len (m : Int) (t : List (List Int)) : (logM m t).2.1.length ≤ 1048576 := by
  unfold logM
  by_cases h : isL m t = true
  · rw [if_pos h]
    obtain ⟨-, d, e, ok, -⟩ := isL_of h
    have := ok.d2
    by_cases h2 : allU m (t.length - 1) = true
    · rw [if_pos h2]; dsimp only; rw [logL_length ok]; omega
    · rw [if_neg h2]; exact Nat.zero_le _
  · rw [if_neg h]; exact Nat.zero_le _
theorem exqL_length {m : Int} {d : Nat} {t : List (List Int)} (hs : Pl.Ok m d t) : (exqL m t).length = d + 1 := by
  unfold exqL
  rw [Ser.revC_length]
  have := hs.len
  have := hs.d1
  omega
theorem exqL_ok {m : Int} {d : Nat} {t : List (List Int)} (hs : Pl.Ok m d t) : SerOk m d (exqL m t) :=
  ⟨hs.m1, hs.m2, hs.d1, hs.d2, exqL_length hs, Ser.revC_red (by have := hs.m1; omega) (by omega) (by have := hs.m1; omega) _ _⟩
theorem expM_len (m : Int) (t : List (List Int)) : (expM m t).2.1.length ≤ 1048576 := by
  unfold expM
  by_cases h : isL m t = true
  · rw [if_pos h]
    obtain ⟨-, d, e, ok, -⟩ := isL_of h
    have := ok.d2
    by_cases h2 : allU m (t.length - 1) = true
    · rw [if_pos h2]; dsimp only; rw [exqL_length ok]; omega
    · rw [if_neg h2]; exact Nat.zero_le _
  · rw [if_neg h]; exact Nat.zero_le _
/-- the program's reversion of a logarithm -/
theorem exq_lag {m : Int} {d : Nat} {t : List (List Int)} (hs : Pl.Ok m d t) : (Ser.lagG m 1 (Ser.co (logL m t)) d d).1 = exqL m t := by
  have h := rev_same (logL_ok hs) (logL_zero m t) (by rw [logL_one hs.m1]; exact gcd_one m)
  rw [logL_one hs.m1, eg_one hs.m1] at h
  rw [h]
  unfold exqL
  rw [hs.len]
  rfl
end Go.Proofs.Ytfhdgcndiljjcab

/- What the walks of regions that draw their order keep: cells below a block. -/
namespace Go.Proofs.Ytfhdgcndiljjcab
open Go.RowKit Go.WideShapes Go.ChangeShapes Go.ChangeAt

/-- F holds of every world in which what lies below block B is as in W -/
theorem keepS {B : Nat} {W w w' : World} {F : World → Prop} (HF : ∀ w', Below B W w' → F w') (hB : B ≤ W.heap.size) (h : F w ∧ Below B W w) (hb : Below w.heap.size w w') : F w' ∧ Below B W w' := by
  have h2 : Below B W w' := h.2.trans (hb.mono (Nat.le_trans hB h.2.size))
  exact ⟨HF _ h2, h2⟩
theorem keepW {B : Nat} {W w' : World} {F : World → Prop} (HF : ∀ w', Below B W w' → F w') (hb : Below B W w') : F w' ∧ Below B W w' := ⟨HF _ hb, hb⟩
theorem keepA {B : Nat} {W w : World} {F : World → Prop} (HF : ∀ w', Below B W w' → F w') (hB : B ≤ W.heap.size) (o : Obj) (h : F w ∧ Below B W w) : F (w.alloc o) ∧ Below B W (w.alloc o) :=
  keepS HF hB h (below_one w o)
theorem keep2 {B : Nat} {W w : World} {F : World → Prop} (HF : ∀ w', Below B W w' → F w') {g : Nat} (hg : B ≤ g) (x y : Value) (h : F w ∧ Below B W w) : F ((w.setCell ⟨g, 0, none⟩ x).setCell ⟨g, 1, none⟩ y) ∧ Below B W ((w.setCell ⟨g, 0, none⟩ x).setCell ⟨g, 1, none⟩ y) := by
  have h2 : Below B W ((w.setCell ⟨g, 0, none⟩ x).setCell ⟨g, 1, none⟩ y) := (h.2.setCell hg x).setCell hg y
  exact ⟨HF _ h2, h2⟩
theorem keep3 {B : Nat} {W w : World} {F : World → Prop} (HF : ∀ w', Below B W w' → F w') {g : Nat} (hg : B ≤ g) (x y z : Value) (h : F w ∧ Below B W w) : F (((w.setCell ⟨g, 0, none⟩ x).setCell ⟨g, 1, none⟩ y).setCell ⟨g, 2, none⟩ z) ∧ Below B W (((w.setCell ⟨g, 0, none⟩ x).setCell ⟨g, 1, none⟩ y).setCell ⟨g, 2, none⟩ z) := by
  have h2 : Below B W (((w.setCell ⟨g, 0, none⟩ x).setCell ⟨g, 1, none⟩ y).setCell ⟨g, 2, none⟩ z) := ((h.2.setCell hg x).setCell hg y).setCell hg z
  exact ⟨HF _ h2, h2⟩
theorem below_less {B : Nat} {W w' : World} (hB : B ≤ W.heap.size) (h : Below W.heap.size W w') : Below B W w' := h.mono hB
end Go.Proofs.Ytfhdgcndiljjcab

/- Contracts of RowOfPlane, of the program and of the model. -/
namespace Go.Proofs.Ytfhdgcndiljjcab
open Go.RowKit Go.WideShapes Go.ChangeShapes Go.ChangeAt

theorem kp3_call {w w' : World} {a1 a2 a3 : Addr} {x y z : Value} (hb : Below w.heap.size w w') (hs : w.cell? a1 = some x ∧ w.cell? a2 = some y ∧ w.cell? a3 = some z) : w'.cell? a1 = some x ∧ w'.cell? a2 = some y ∧ w'.cell? a3 = some z :=
  ⟨(hb.cell (World.block_lt_of_cell? w a1 hs.1)).trans hs.1, (hb.cell (World.block_lt_of_cell? w a2 hs.2.1)).trans hs.2.1, (hb.cell (World.block_lt_of_cell? w a3 hs.2.2)).trans hs.2.2⟩
theorem kp3_store2 {w : World} {a1 a2 a3 : Addr} {g : Nat} {x y z u v : Value} (h1 : a1.block ≠ g) (h2 : a2.block ≠ g) (h3 : a3.block ≠ g) (hs : w.cell? a1 = some x ∧ w.cell? a2 = some y ∧ w.cell? a3 = some z) :
    ((w.setCell ⟨g, 0, none⟩ u).setCell ⟨g, 1, none⟩ v).cell? a1 = some x ∧ ((w.setCell ⟨g, 0, none⟩ u).setCell ⟨g, 1, none⟩ v).cell? a2 = some y ∧ ((w.setCell ⟨g, 0, none⟩ u).setCell ⟨g, 1, none⟩ v).cell? a3 = some z := by
  have k : ∀ (a : Addr), a.block ≠ g → ((w.setCell ⟨g, 0, none⟩ u).setCell ⟨g, 1, none⟩ v).heap[a.block]? = w.heap[a.block]? := fun a ha => (Below.heap_setCell _ _ _ _ ha).trans (Below.heap_setCell _ _ _ _ ha)
  exact ⟨(World.cell?_of_block (w := w) (k a1 h1)).trans hs.1, (World.cell?_of_block (w := w) (k a2 h2)).trans hs.2.1, (World.cell?_of_block (w := w) (k a3 h3)).trans hs.2.2⟩
/-- the model of RowOfPlane -/
def rowP (m : Int) (t : List (List Int)) (i : Int) : Int × List Int × Int :=
  if isP m t = true then (if inB i 0 ((t.length : Int) - 1 - 1) = true then (m, Pl.rw' t i.toNat, 0) else (0, [], 2)) else (0, [], 1)
theorem rowP_len (m : Int) (t : List (List Int)) (i : Int) : (rowP m t i).2.1.length ≤ 1048576 := by
  unfold rowP
  by_cases h : isP m t = true
  · rw [if_pos h]
    obtain ⟨d, e, ok⟩ := plOk_of h
    by_cases hi : inB i 0 ((t.length : Int) - 1 - 1) = true
    · rw [if_pos hi]
      have := (inB_iff _ _ _).1 hi
      have := ok.row i.toNat (by omega)
      have := ok.d2
      dsimp only
      omega
    · rw [if_neg hi]; exact Nat.zero_le _
  · rw [if_neg h]; exact Nat.zero_le _
theorem spro1S (w : World) (m : Int) (A : Option Addr) (n c : Nat) : ∃ W, (w.alloc (.cells #[.int .i64 m, .slice A n c] 25)).alloc (.cells #[.int .i64 0, .slice none 0 0] 62) = W ∧
    Box W w.heap.size m A n c ∧ VarC 62 W (w.heap.size + 1) #[.int .i64 0, .slice none 0 0] ∧ Below w.heap.size w W := by
  refine ⟨_, rfl, (Box.newT _ _ _ _ _ _).keep (below_one _ _), ?_, below_alloc _ (below_one _ _)⟩
  have := VarC.new 62 (w.alloc (.cells #[.int .i64 m, .slice A n c] 25)) #[.int .i64 0, .slice none 0 0]
  simpa using this
end Go.Proofs.Ytfhdgcndiljjcab

/- Contracts of DifferentialOf, of the program and of the model. -/
namespace Go.Proofs.Ytfhdgcndiljjcab
open Go.RowKit Go.WideShapes Go.ChangeShapes Go.ChangeAt

theorem field_degK (a b : Value) (W : World) : (Instr.field 41 (.agg #[a, b]) 1).run Try.prog W = .ok b W := by kernel_rfl
end Go.Proofs.Ytfhdgcndiljjcab

/- Contracts of the logarithm of a law and its passages, of the program. -/
namespace Go.Proofs.Ytfhdgcndiljjcab
open Go.RowKit Go.WideShapes Go.ChangeShapes Go.ChangeAt

/-- what the program's logarithm returns -/
def lgM (m : Int) (t : List (List Int)) : Int × List Int × Int := if allU m (t.length - 1) = true then (m, logL m t, 0) else (0, [], 5)
theorem lg_one {m : Int} {t : List (List Int)} (hm : 2 ≤ m) (h : t.length = 2) : lgM m t = (m, Pl.lin m 1 1, 0) := by
  unfold lgM
  rw [h, if_pos (allU_one m), logL_lin hm h]
theorem logM_lg {m : Int} {t : List (List Int)} (h : isL m t = true) : logM m t = lgM m t := by unfold logM; rw [if_pos h]; rfl
theorem pro_lawQ (T : TypeId) (w : World) (m : Int) (d : Nat) (A : Option Addr) (n c : Nat) : ∃ W, (w.alloc (.cells #[.int .i64 m, .int .i64 d, .slice A n c] 45)).alloc (.cells #[.int .i64 0, .slice none 0 0] T) = W ∧
    GBox W w.heap.size m d A n c ∧ VarC T W (w.heap.size + 1) #[.int .i64 0, .slice none 0 0] ∧ Below w.heap.size w W := by
  refine ⟨_, rfl, (GBox.new _ _ _ _ _ _ _).keep (below_one _ _), ?_, below_alloc _ (below_one _ _)⟩
  have := VarC.new T (w.alloc (.cells #[.int .i64 m, .int .i64 d, .slice A n c] 45)) #[.int .i64 0, .slice none 0 0]
  simpa using this
theorem pro_serQ (T1 T2 : TypeId) (w : World) (m : Int) (A : Option Addr) (n c : Nat) : ∃ W, (w.alloc (.cells #[.int .i64 m, .slice A n c] T1)).alloc (.cells #[.int .i64 0, .slice none 0 0] T2) = W ∧
    Box W w.heap.size m A n c ∧ VarC T2 W (w.heap.size + 1) #[.int .i64 0, .slice none 0 0] ∧ Below w.heap.size w W := by
  refine ⟨_, rfl, (Box.newT _ _ _ _ _ _).keep (below_one _ _), ?_, below_alloc _ (below_one _ _)⟩
  have := VarC.new T2 (w.alloc (.cells #[.int .i64 m, .slice A n c] T1)) #[.int .i64 0, .slice none 0 0]
  simpa using this
theorem lcurve_any (m : Int) (A : Option Addr) (n c : Nat) (w : World) :
    Calls Try.prog 111 #[.agg #[.int .i64 m, .slice A n c]] w fun e w' => e = .returned (.agg #[.int .i64 m, .slice A n c]) ∧ Below w.heap.size w w' := by
  go_enter Try.func111, Try.ntmps111
  go_wp2
  exact bodyPost_ret (v := .agg #[.int .i64 m, .slice A n c]) (by simp [results, Try.results111, go_sem]) rfl ⟨rfl, below_alloc _ (below_one _ _)⟩
theorem ecurve_any (m : Int) (A : Option Addr) (n c : Nat) (w : World) :
    Calls Try.prog 112 #[.agg #[.int .i64 m, .slice A n c]] w fun e w' => e = .returned (.agg #[.int .i64 m, .slice A n c]) ∧ Below w.heap.size w w' := by
  go_enter Try.func112, Try.ntmps112
  go_wp2
  exact bodyPost_ret (v := .agg #[.int .i64 m, .slice A n c]) (by simp [results, Try.results112, go_sem]) rfl ⟨rfl, below_alloc _ (below_one _ _)⟩
set_option maxHeartbeats 4000000 in
set_option maxRecDepth 100000 in
theorem reversion_any (m : Int) (d : Nat) (A : Option Addr) (c : Nat) (l : List Int) (w : World) (hs : SerOk m d l) (hr : RI w A l) :
    Calls Try.prog 43 #[.agg #[.int .i64 m, .slice A l.length c]] w fun e w' => ∃ v, e = .returned (.agg #[.int .i64 m, v]) ∧ OwnI w' w.heap.size v (Ser.lagG m 1 (Ser.co l) d d).1 ∧ Below w.heap.size w w' := by
  obtain ⟨W, hW, b1, v2, hwb⟩ := pro_serQ 66 68 w m A l.length c
  have B1 := Lib.hid b1
  have V2 := Lib.hid v2
  have HB := Lib.hid hwb
  have HW := Lib.hid hW
  have m1 := hs.m1
  have HI := Lib.hid (reversed_any m d A c l 1 W hs (hr.below hwb) (by omega) (by omega))
  obtain ⟨R, hR⟩ : ∃ R, (Ser.lagG m 1 (Ser.co l) d d).1 = R := ⟨_, rfl⟩
  rw [hR] at HI ⊢
  have hsz : w.heap.size + 1 < W.heap.size := v2.lt
  obtain ⟨x1, x2, x3⟩ := b1
  clear v2 hwb hW hr hs hR
  go_enter Try.func43, Try.ntmps43
  go_wp2_with fail
  rw [HW.out]
  refine HI.out.mono ?_
  rintro e w1 ⟨s, rfl, ho, hb1⟩
  obtain ⟨A2, c2, rfl, -⟩ := ho.form
  have hv := V2.out.keep hb1
  obtain ⟨q0, q1, q2, q3⟩ := hv.tells2
  obtain ⟨f0, f1, f2, f3⟩ := fin_serC (w := w) hv ho hsz (by omega) (below_step HB.out hb1) (.int .i64 m) (.slice A2 R.length c2)
  have F2 := Lib.hid (OwnI.more (b' := w.heap.size) f2 (by omega))
  have F3 := Lib.hid f3
  clear f2 f3 ho hb1 hv x1 x2 x3
  go_wp2
  exact bodyPost_ret (v := .agg #[.int .i64 m, .slice A2 R.length c2]) (by simp [results, Try.results43, go_sem, f0, f1]) rfl ⟨_, rfl, F2.out, F3.out⟩
end Go.Proofs.Ytfhdgcndiljjcab

/- A region that draws its order, and whose last operation stores into what the others load: a condition on the world that holds till then. -/
namespace Go.Proofs.Ytfhdgcndiljjcab
open Go

section
variable {P : Program} {ops : Array Oper} {Q : Exit → Act → World → Prop} {md : Region.Mode} {S : World → Prop} {n : Nat}

/-- in whatever order; S holds behind every operation but number n -/
def wpTill (P : Program) (md : Region.Mode) (ops : Array Oper) (Q : Exit → Act → World → Prop) (S : World → Prop) (n : Nat) : Nat → Array Bool → Act → World → Prop
  | 0, listed, a, w => Region.ready md ops listed = [] ∧ Q .normal a w
  | fuel + 1, listed, a, w => (Region.ready md ops listed = [] → Q .normal a w) ∧
    ∀ i ∈ Region.ready md ops listed, wpOp P ops Q i (fun a' w' => (i ≠ n → S w') ∧ wpTill P md ops Q S n fuel (listed.setIfInBounds i true) a' w') a w
theorem any_of_till : ∀ (fuel : Nat) (listed : Array Bool) (a : Act) (w : World), wpTill P md ops Q S n fuel listed a w → wpAny P md ops Q fuel listed a w
  | 0, _, _, _, h => h
  | fuel + 1, _, _, _, h => ⟨h.1, fun i hi => wpOp_mono (fun a' w' k => any_of_till fuel _ a' w' k.2) (h.2 i hi)⟩
/-- what is listed cannot be waited for by what may come up -/
theorem no_wait {i : Nat} {listed : Array Bool} {oj : Oper} (hr : i ∈ Region.ready md ops listed) (hall : ∀ e ∈ oj.after, Region.binds md e = true → listed.getD e.on false = true) :
    ∀ e ∈ oj.after, Region.binds md e = true → e.on ≠ i := by
  intro e he hb heq
  have h1 := hall e he hb
  have h0 := (mem_ready.1 hr).1
  rw [heq] at h1
  by_cases h : i < listed.size
  · simp [h] at h0 h1
    rw [h0] at h1
    exact absurd h1 (by decide)
  · simp [Array.getElem?_eq_none (Nat.le_of_not_lt h)] at h1
/-- an operation that yields v in every world of S may be taken first, if number n waits for it -/
theorem till_first {i : Nat} {oi : Oper} {v : Value} (hi : ops[i]? = some oi) (hsel : ∀ (j : Nat) (o : Oper) cs b, ops[j]? = some o → o.op ≠ .select cs b)
    (hQ : ∀ c a w, Q (.panic c) (a.put oi.dst v) w → Q (.panic c) a w) (hn : ∀ on, ops[n]? = some on → ∃ e ∈ on.after, Region.binds md e = true ∧ e.on = i) :
    ∀ (fuel : Nat) (listed : Array Bool) (a : Act) (w : World),
      (∀ j oj, ops[j]? = some oj → j ≠ i → listed.getD j true = false → (∀ e ∈ oj.after, Region.binds md e = true → e.on ≠ i) → oi.apart ops oj = true) →
      i ∈ Region.ready md ops listed → YieldsIf P ops S oi v a → S w →
      wpTill P md ops Q S n fuel (listed.setIfInBounds i true) (a.put oi.dst v) w → wpTill P md ops Q S n (fuel + 1) listed a w := by
  intro fuel
  induction fuel with
  | zero =>
    intro listed a w _ hr hy hS H
    refine ⟨fun e => (by rw [e] at hr; cases hr), fun j hj => ?_⟩
    by_cases hji : j = i
    · subst hji
      exact hy.wpOp hi hS ⟨fun _ => hS, H⟩
    · have hk := ready_mono hj hji
      rw [H.1] at hk
      cases hk
  | succ fuel ih =>
    intro listed a w hfree hr hy hS H
    refine ⟨fun e => (by rw [e] at hr; cases hr), fun j hj => ?_⟩
    by_cases hji : j = i
    · subst hji
      exact hy.wpOp hi hS ⟨fun _ => hS, H⟩
    · obtain ⟨hun, oj, hoj, hall⟩ := mem_ready.1 hj
      have hnot := no_wait hr hall
      have hjn : j ≠ n := by
        rintro rfl
        obtain ⟨e, he, hb, heq⟩ := hn oj hoj
        exact hnot e he hb heq
      have k2 := wpOp_putIf hoj (hfree j oj hoj hji hun hnot) (fun cs b => hsel i oi cs b hi) (fun cs b => hsel j oj cs b hoj) hQ hy (H.2 j (ready_mono hj hji))
      have hfree' : ∀ k ok, ops[k]? = some ok → k ≠ i → (listed.setIfInBounds j true).getD k true = false →
          (∀ e ∈ ok.after, Region.binds md e = true → e.on ≠ i) → oi.apart ops ok = true := by
        intro k ok hk hki hu hno
        refine hfree k ok hk hki ?_ hno
        by_cases hjk : j = k
        · subst hjk; exact hun
        · rw [getD_set_ne true hjk] at hu; exact hu
      refine wpOp_mono (fun a' w' k3 => ⟨fun _ => k3.2.1 hjn, ih (listed.setIfInBounds j true) a' w' hfree' (ready_mono hr (Ne.symm hji)) k3.1 (k3.2.1 hjn) ?_⟩) k2
      rw [Array.setIfInBounds_comm _ _ hji]
      exact k3.2.2
/-- number n waits for number i -/
def waitB (md : Region.Mode) (ops : Array Oper) (n i : Nat) : Bool := ((ops[n]?).map fun o => o.after.any fun e => Region.binds md e && e.on == i).getD true
theorem till_take {i : Nat} {oi : Oper} {dst : Option Tmp} (v : Value) {fuel : Nat} {listed : Array Bool} {a : Act} {w : World} (hi : ops[i]? = some oi) (hd : oi.dst = dst) (hs : Region.noSelect ops = true) (hf : Region.free md ops listed i = true)
    (hr : (Region.ready md ops listed).contains i = true) (hw : waitB md ops n i = true) (hQ : ∀ c a w, Q (.panic c) (a.put dst v) w → Q (.panic c) a w) (hy : YieldsIf P ops S oi v a) (hS : S w)
    (h : wpTill P md ops Q S n fuel (listed.setIfInBounds i true) (a.put dst v) w) : wpTill P md ops Q S n (fuel + 1) listed a w := by
  subst hd
  refine till_first hi (Region.noSelect_spec hs) hQ (fun on ho => ?_) fuel listed a w (Region.free_spec hi hf) (by simpa using hr) hy hS h
  unfold waitB at hw
  rw [ho] at hw
  obtain ⟨e, he, k⟩ := Array.any_eq_true'.1 (show (on.after.any fun e => Region.binds md e && e.on == i) = true from hw)
  rw [Bool.and_eq_true] at k
  exact ⟨e, he, k.1, by simpa using k.2⟩
/-- one operation alone may come up -/
theorem till_one {i : Nat} {o : Oper} {fuel : Nat} {listed : Array Bool} {a : Act} {w : World} (hr : Region.ready md ops listed = [i]) (ho : ops[i]? = some o)
    (h : ∀ K : Act → World → Prop, Shut (∀ a w, (i ≠ n → S w) → wpTill P md ops Q S n fuel (listed.setIfInBounds i true) a w → K a w) → if Region.wanted o (yielded ops a.tmps) = true then Oper.wp P o a w K Q else K (a.put o.dst undef) w) :
    wpTill P md ops Q S n (fuel + 1) listed a w := by
  refine ⟨fun e => (by rw [e] at hr; cases hr), fun j hj => ?_⟩
  rw [hr] at hj
  obtain rfl : j = i := by simpa using hj
  exact wpOp_step ho (fun K hK => h K (fun a w hS hW => hK a w ⟨hS, hW⟩))
theorem till_done {fuel : Nat} {listed : Array Bool} {a : Act} {w : World} (hr : Region.ready md ops listed = []) (h : Q .normal a w) : wpTill P md ops Q S n fuel listed a w := by
  cases fuel with
  | zero => exact ⟨hr, h⟩
  | succ f => exact ⟨fun _ => h, by rw [hr]; simp⟩
theorem region_till {id : Nat} {a : Act} {w : World} (S : World → Prop) (n : Nat) (hm : P.follows .mixedOrders = true) (h : wpTill P .any ops Q S n ops.size (Array.replicate ops.size false) a w.drew) : (Code.region id ops true).wp P Q a w :=
  wp_region_any hm (any_of_till _ _ _ _ h)
end
end Go.Proofs.Ytfhdgcndiljjcab

