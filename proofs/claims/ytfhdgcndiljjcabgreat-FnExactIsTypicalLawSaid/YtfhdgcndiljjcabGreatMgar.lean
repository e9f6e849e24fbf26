/- Texts of contracts, joined. -/
import Derived.Test.YtfhdgcndiljjcabGreatMgaq
import Derived.Test.YtfhdgcndiljjcabGreatMgae
import Derived.Maps.Own
import Derived.Maps.Views
import Derived.Tactics2
import Derived.Defers
import Derived.Recover
import Derived.Laws.Pointers
import Derived.Deep.RegionHeld3
/- A system's equations in a map: what it holds, and Euclid's step. -/
namespace Go.Proofs.YtfhdgcndiljjcabGreat
open Go.RowKit Go.WideShapes Go.ChangeShapes Go.ChangeAt
/-- how an equation reads -/
def litE (l : List Int) : DataW Unit := .agg (l.map fun x => .lit (.int .i64 x))
def cellInt : Value → Int
  | .int _ x => x
  | _ => 0
def isCellI : Value → Bool
  | .int .i64 _ => true
  | _ => false
def rdE : Value → Option (DataW Unit × List MemPlace)
  | .agg cs => if cs.size = 11 ∧ cs.toList.all isCellI = true then some (litE (cs.toList.map cellInt), []) else none
  | _ => none
theorem map_inj {α β : Type} {f : α → β} (hf : ∀ x y, f x = f y → x = y) : ∀ {l r : List α}, l.map f = r.map f → l = r
  | [], [], _ => rfl
  | [], _ :: _, h => by cases h
  | _ :: _, [], h => by cases h
  | x :: l, y :: r, h => by
    rw [List.map_cons, List.map_cons] at h
    injection h with h1 h2
    rw [hf x y h1, map_inj hf h2]
theorem litE_inj {l r : List Int} (h : litE l = litE r) : l = r := by
  unfold litE at h
  injection h with h
  exact map_inj (fun x y e => by injection e with e; injection e) h
theorem rdE_arr {l : List Int} (h : l.length = 11) : rdE (.agg (arrE l)) = some (litE l, []) := by
  unfold rdE
  dsimp only
  have e : (arrE l).toList.map cellInt = l := by
    unfold arrE
    rw [List.toList_toArray, List.map_map]
    exact (List.map_congr_left (fun x _ => rfl)).trans (List.map_id l)
  rw [if_pos ⟨by rw [arrE_size, h], by unfold arrE; simp [isCellI]⟩, e]
theorem rdE_inv {v : Value} {l : List Int} {ps : List MemPlace} (h : rdE v = some (litE l, ps)) : l.length = 11 ∧ v = .agg (arrE l) := by
  unfold rdE at h
  split at h
  · rename_i cs
    split at h
    · rename_i hc
      have h1 := litE_inj (Prod.mk.inj (Option.some.inj h)).1
      have hs : cs.toList = l.map (Value.int .i64) := by
        rw [← h1, List.map_map]
        refine ((List.map_congr_left (fun x hx => ?_)).trans (List.map_id cs.toList)).symm
        have := List.all_eq_true.1 hc.2 x hx
        unfold isCellI at this
        split at this
        · rfl
        · cases this
      refine ⟨by rw [← h1, List.length_map, Array.length_toList, hc.1], ?_⟩
      unfold arrE
      rw [← hs, Array.toArray_toList]
    · cases h
  · cases h
/-- the map holds the rows -/
structure MapRows (D : DataW Unit) (rows : Nat → List Int) : Prop where
  isMap : Maps.IsMap D
  at_ : ∀ k : Nat, 0 < k → k ≤ 10 → D.atKey (.int .i64 k) (litE (List.replicate 11 0)) = litE (rows k)
theorem MapRows.put {D : DataW Unit} {rows : Nat → List Int} (h : MapRows D rows) (k : Nat) (r : List Int) : MapRows (D.put (.int .i64 k) (litE r)) (Sys.upd rows k r) := by
  refine ⟨h.isMap.put _ _, fun j h0 hj => ?_⟩
  unfold Sys.upd
  by_cases e : j = k
  · rw [if_pos e, e]
    exact Maps.atKey_put_same (k := .int .i64 (k : Int)) h.isMap (show WideAt.IsKeyLit (.int .i64 (k : Int)) from True.intro) _ _
  · rw [if_neg e, Maps.atKey_put_other (fun he => e (by injection he with _ he; omega))]
    exact h.at_ j h0 hj
theorem MapRows.empty : MapRows (.map []) Sys.none0 := ⟨Maps.isMap_empty, fun _ _ _ => rfl⟩
abbrev OwnM (w : World) (M n : Nat) (D : DataW Unit) : Prop := w.ownsMap Tryz.prog 2 rdE M n D
theorem lit_wf {k : Nat} (h : k ≤ 10) : (Lit.int .i64 (k : Int)).wf = true := by
  have h1 : IntKind.i64.min = -9223372036854775808 := by decide
  have h2 : IntKind.i64.max = 9223372036854775807 := by decide
  unfold Lit.wf
  rw [Bool.and_eq_true, decide_eq_true_eq, decide_eq_true_eq, h1, h2]
  omega
theorem key_lit {k : Nat} (h : k ≤ 10) : keyOf Tryz.prog 2 (.int .i64 (k : Int)) = some (.int .i64 (k : Int)) := Maps.keyOf_int_mk Tryz.underlying2 (lit_wf h)
theorem OwnM.look {w : World} {M n : Nat} {D : DataW Unit} {rows : Nat → List Int} (h : OwnM w M n D) (hm : MapRows D rows) {k : Nat} (h0 : 0 < k) (hk : k ≤ 10) :
    (Instr.lookup 151 (.map (some M)) (.int .i64 (k : Int)) false).run Tryz.prog w = .ok (.agg (arrE (rows k))) w := by
  obtain ⟨v, ps, hrun, hv⟩ := World.ownsMap.lookup h (Maps.int_keyed Tryz.underlying2) Tryz.underlying151 (z := .agg (arrE (List.replicate 11 0))) (Tryz.zeroValue137 _) (rdE_arr (by simp)) (key_lit hk)
  rw [hm.at_ k h0 hk] at hv
  rw [(rdE_inv hv).2] at hrun
  exact hrun
end Go.Proofs.YtfhdgcndiljjcabGreat

/- Contract of the addition of an equation to a system. -/
namespace Go.Proofs.YtfhdgcndiljjcabGreat
open Go.RowKit Go.WideShapes Go.ChangeShapes Go.ChangeAt
/-- a whole equation is loaded, in a region that draws its order -/
theorem yieldsE {ops : Array Oper} {S : World → Prop} {op : Oper} {a : Act} (hw : Region.wanted op (yielded ops a.tmps) = true) (x : Operand) (ho : op.op = .load 137 x)
    (g : Nat) (cs : Array Value) (T : TypeId) (hx : a.eval x = .pointer (some ⟨g, 0, none⟩)) (hS : ∀ w, S w → VarC T w g cs) (hs : cs.size = 11) : YieldsIf Tryz.prog ops S op (.agg cs) a :=
  .inl ⟨hw, fun w hw' => by
    unfold execOp
    simp only [ho, hx, Sem.run_bind, (hS w hw').loadE hs, Result.andThen_ok, Sem.run_pure]⟩
/-- a whole equation is stored -/
theorem wp_storeE {op : Oper} {a : Act} {w : World} {K : Act → World → Prop} {Q : Exit → Act → World → Prop} (x y : Operand) (ho : op.op = .store 137 x y)
    (g : Nat) (cs cs' : Array Value) (T : TypeId) (hx : a.eval x = .pointer (some ⟨g, 0, none⟩)) (hy : a.eval y = .agg cs') (hv : VarC T w g cs) (hs : cs.size = 11) (hs' : cs'.size = 11) (h1 : cs'.all (·.oneCell') = true)
    (h : K (a.put op.dst undef) (w.setRow g cs')) : op.wp Tryz.prog a w K Q := by
  unfold Oper.wp execOp
  simp only [ho, hx, hy, Sem.run_bind, hv.storeE hs hs' h1, Result.andThen_ok, Sem.run_pure]
  exact h
theorem grown_setRow (w : World) (g : Nat) (cs : Array Value) : w.grownBy (w.setRow g cs) (some g) :=
  ⟨rfl, rfl, rfl, by simp, fun k _ hne => setRow_other w g k cs (fun e => hne (by rw [e]))⟩
theorem grown_of_below {w w' : World} (h : Below w.heap.size w w') (r : Option Nat) : w.grownBy w' r := ⟨h.os, h.tape, h.output, h.size, fun k hk _ => h.block k hk⟩
/-- what an addition leaves behind -/
def AddPost (o : Option (Nat → List Int)) (M n : Nat) (w : World) (q : Ending) (w' : World) : Prop :=
  match o with
  | some r => q = .returned (.tuple #[]) ∧ (∃ D, OwnM w' M n D ∧ MapRows D r) ∧ w.grownBy w' (some M)
  | none => (∃ s, q = .panicked [{ v := .iface 9 s, recovered := false }]) ∧ w.grownBy w' (some M)
theorem sys_e0 {m : Int} {e : List Int} (m1 : 2 ≤ m) (m2 : m ≤ 10000) (h : Sys.Ok m e) : (solM m 0 (Ser.co e 0)).2 = 0 ↔ Ser.co e 0 = 0 := by
  have hr := h.red 0
  obtain ⟨s1, s2⟩ := Sys.sol_facts (m := m) (c := 0) (b := Ser.co e 0) m1 m2 (by omega) (by omega) hr.1 hr.2
  have hg : gcdI m 0 = m := by unfold gcdI; simp; omega
  rw [hg] at s1 s2
  by_cases h0 : Ser.co e 0 = 0
  · rw [h0] at s1 ⊢
    exact ⟨fun _ => rfl, fun _ => (s1 (Int.dvd_zero m)).1⟩
  · have hd : ¬ m ∣ Ser.co e 0 := fun hd => h0 ((Int.emod_eq_of_lt hr.1 hr.2).symm.trans (Int.emod_eq_zero_of_dvd hd))
    exact ⟨fun h => by rw [(s2 hd).1] at h; exact absurd h (by decide), fun h => absurd h h0⟩
set_option maxHeartbeats 8000000 in
set_option maxRecDepth 100000 in
theorem add_zero (m : Int) (m1 : 2 ≤ m) (m2 : m ≤ 10000) (rows : Nat → List Int) (e : List Int) (M n : Nat) (D : DataW Unit) (w : World) (he : Sys.Ok m e) (hl : Sys.lastE e = 0) (hM : OwnM w M n D) (hD : MapRows D rows) :
    Calls Tryz.prog 166 #[.agg #[.int .i64 m, .map (some M)], .agg (arrE e)] w (AddPost (Sys.addS m 0 rows e) M n w) := by
  obtain ⟨W, hW⟩ : ∃ W, (w.alloc (.cells #[.int .i64 m, .map (some M)] 153)).alloc (.cells (arrE e) 137) = W := ⟨_, rfl⟩
  have v1 : VarC 153 W w.heap.size #[.int .i64 m, .map (some M)] := by rw [← hW]; exact (VarC.new _ _ _).keep (below_one _ _)
  have v2 : VarC 137 W (w.heap.size + 1) (arrE e) := by
    rw [← hW]
    have := VarC.new 137 (w.alloc (.cells #[.int .i64 m, .map (some M)] 153)) (arrE e)
    simpa using this
  have hM2 : OwnM W M n D := by rw [← hW]; exact (hM.alloc _).alloc _
  have HB := Lib.hid (show Below w.heap.size w W by rw [← hW]; exact below_alloc _ (below_one _ _))
  have V1 := Lib.hid v1
  have V2 := Lib.hid v2
  have HM := Lib.hid hM2
  have HD := Lib.hid hD
  have HW := Lib.hid hW
  have hla := fun W0 => eqLast_any m e W0 he
  rw [hl] at hla
  have HLA := Lib.hid hla
  have hse : (arrE e).size = 11 := by rw [arrE_size, he.len]
  have HSE := Lib.hid hse
  have hc0 := v2.cell 0 _ (arrE_at (by rw [he.len]; omega))
  have hz := sys_e0 m1 m2 he
  have HMk : Hid (∀ w', Below W.heap.size W w' → OwnM w' M n D) := Lib.hid (fun w' h => World.ownsMap.kept HM.out (grown_of_below h none) (by simp))
  obtain ⟨X, hX⟩ : ∃ X, Ser.co e 0 = X := ⟨_, rfl⟩
  rw [hX] at hc0 hz
  have hA : Sys.addS m 0 rows e = if X = 0 then some rows else none := by unfold Sys.addS; rw [hX]
  obtain ⟨ce, hce⟩ : ∃ c, arrE e = c := ⟨_, rfl⟩
  rw [hce] at HW HLA V2 HSE
  rw [hce]
  have HC0 : Hid (∀ w', Below W.heap.size W w' → w'.cell? ⟨w.heap.size + 1, 0, none⟩ = some (.int .i64 X)) := Lib.hid (fun w' h => (h.cell (p := ⟨w.heap.size + 1, 0, none⟩) v2.lt).trans hc0)
  clear v1 v2 hW hM hM2 hla hl he hse hce hX hD hc0
  by_cases h0 : X = 0
  · rw [if_pos h0] at hA
    have HQ := Lib.hid (fun W0 => quot_yes m X 0 W0 (hz.2 h0))
    rw [hA]
    clear hA hz h0
    go_enter Tryz.func166, Tryz.ntmps166
    go_upto_region 1 with fail
    rw [HW.out]
    go_wp2_with (refine wpL_loadE rfl _ rfl _ ce _ rfl V2.out HSE.out ?_)
    refine (HLA.out _).mono ?_
    rintro r w2 ⟨rfl, hb2⟩
    have x1 := (V1.out.keep hb2).cell 0 _ rfl
    have x2 := (V1.out.keep hb2).cell 1 _ rfl
    have x3 := HC0.out _ hb2
    go_wp2_with fail
    refine (HQ.out _).mono ?_
    rintro r w3 ⟨rfl, hb3⟩
    have hb := below_step hb2 hb3
    go_wp2
    go_end0
    exact ⟨rfl, ⟨D, HMk.out _ hb, HD.out⟩, grown_of_below (below_step HB.out hb) _⟩
  · rw [if_neg h0] at hA
    have HQ := Lib.hid (fun W0 => quot_no m X 0 W0 (fun h => h0 (hz.1 h)))
    rw [hA]
    clear hA hz h0
    go_enter Tryz.func166, Tryz.ntmps166
    go_upto_region 1 with fail
    rw [HW.out]
    go_wp2_with (refine wpL_loadE rfl _ rfl _ ce _ rfl V2.out HSE.out ?_)
    refine (HLA.out _).mono ?_
    rintro r w2 ⟨rfl, hb2⟩
    have x1 := (V1.out.keep hb2).cell 0 _ rfl
    have x2 := (V1.out.keep hb2).cell 1 _ rfl
    have x3 := HC0.out _ hb2
    go_wp2_with fail
    refine (HQ.out _).mono ?_
    rintro r w3 ⟨⟨s, rfl⟩, hb3⟩
    go_wp2
    exact ⟨rfl, ⟨_, rfl⟩, grown_of_below (below_step HB.out (below_step hb2 hb3)) _⟩
end Go.Proofs.YtfhdgcndiljjcabGreat

/- Contract of the addition of an equation to a system: the step. -/
namespace Go.Proofs.YtfhdgcndiljjcabGreat
open Go.RowKit Go.WideShapes Go.ChangeShapes Go.ChangeAt
/-- the number in a cell -/
def cellN (w : World) (a : Addr) : Nat := match w.cell? a with
  | some (.int _ x) => x.toNat
  | _ => 0
theorem cellN_int {w : World} {a : Addr} {k : IntKind} {x : Int} (h : w.cell? a = some (.int k x)) : cellN w a = x.toNat := by unfold cellN; rw [h]
theorem Sys.Ok.bd {m : Int} {e : List Int} (m2 : m ≤ 10000) (h : Sys.Ok m e) (i : Nat) : -10000 ≤ Ser.co e i ∧ Ser.co e i ≤ 10000 := by have := h.red i; omega
theorem Sys.Ok.lessE {m q : Int} {e f : List Int} (hm : 0 < m) : Sys.Ok m (Sys.lessE m q e f) := Sys.Ok.cut hm _
set_option maxHeartbeats 16000000 in
set_option maxRecDepth 100000 in
theorem add_succ (m : Int) (m1 : 2 ≤ m) (m2 : m ≤ 10000) (L : Nat) (hL : L < 10) (M : Nat)
    (ih : ∀ (rows : Nat → List Int) (e : List Int) (n : Nat) (D : DataW Unit) (w : World), Sys.Tri m rows → Sys.Ok m e → Sys.lastE e ≤ L → n + 2 ^ L ≤ 1000000000 → OwnM w M n D → MapRows D rows →
      Calls Tryz.prog 166 #[.agg #[.int .i64 m, .map (some M)], .agg (arrE e)] w (AddPost (Sys.addS m L rows e) M (n + (2 ^ L - 1)) w))
    (rows : Nat → List Int) (e : List Int) (n : Nat) (D : DataW Unit) (w : World) (hT : Sys.Tri m rows) (he : Sys.Ok m e) (hl : Sys.lastE e = L + 1) (hn : n + 2 ^ (L + 1) ≤ 1000000000) (hM : OwnM w M n D) (hD : MapRows D rows) :
    Calls Tryz.prog 166 #[.agg #[.int .i64 m, .map (some M)], .agg (arrE e)] w (AddPost (Sys.addS m (L + 1) rows e) M (n + (2 ^ (L + 1) - 1)) w) := by
  obtain ⟨W, hW⟩ : ∃ W, (w.alloc (.cells #[.int .i64 m, .map (some M)] 153)).alloc (.cells (arrE e) 137) = W := ⟨_, rfl⟩
  have v1 : VarC 153 W w.heap.size #[.int .i64 m, .map (some M)] := by rw [← hW]; exact (VarC.new _ _ _).keep (below_one _ _)
  have v2 : VarC 137 W (w.heap.size + 1) (arrE e) := by
    rw [← hW]
    have := VarC.new 137 (w.alloc (.cells #[.int .i64 m, .map (some M)] 153)) (arrE e)
    simpa using this
  have hM2 : OwnM W M n D := by rw [← hW]; exact (hM.alloc _).alloc _
  have hMlt := Lib.hid hM.lt
  have HB := Lib.hid (show Below w.heap.size w W by rw [← hW]; exact below_alloc _ (below_one _ _))
  have V1 := Lib.hid v1
  have V2 := Lib.hid v2
  have HM := Lib.hid hM2
  have HD := Lib.hid hD
  have HW := Lib.hid hW
  have HOE := Lib.hid he
  have HT := Lib.hid hT
  have hla := fun W0 => eqLast_any m e W0 he
  rw [hl] at hla
  obtain ⟨K, hK⟩ : ∃ K, L + 1 = K := ⟨_, rfl⟩
  rw [hK] at hla
  have HLA := Lib.hid hla
  have HKL := Lib.hid hK
  have HLE := Lib.hid (hl.trans hK)
  have hse : (arrE e).size = 11 := by rw [arrE_size, he.len]
  have HSE := Lib.hid hse
  have j0 : (0 : Int) < (K : Int) := by omega
  have j1 : (0 : Int) ≤ (K : Int) := by omega
  have j2 : (K : Int) < 11 := by omega
  have hkk : ¬ (K : Int) = 0 := by omega
  obtain ⟨k1, k2⟩ := ne_facts hkk
  have HK0 := Lib.hid (show 0 < K ∧ K ≤ 10 by omega)
  have HMk : Hid (∀ w', Below W.heap.size W w' → OwnM w' M n D) := Lib.hid (fun w' h => World.ownsMap.kept HM.out (grown_of_below h none) (by simp))
  obtain ⟨P, hP⟩ : ∃ P, Sys.euc m K 20000 (rows K) e = P := ⟨_, rfl⟩
  have HP := Lib.hid hP
  obtain ⟨R0, hR0⟩ : ∃ R, Sys.addS m (L + 1) rows e = R := ⟨_, rfl⟩
  have hRR : R0 = match Sys.addS m L (Sys.upd rows K P.1) (Sys.timesE m (m / gcdI m (Ser.co P.1 K)) P.1) with
      | none => none
      | some r2 => Sys.addS m L r2 P.2 := by
    subst hK
    rw [← hR0, ← hP]
    conv => lhs; unfold Sys.addS
    rw [if_pos hl]
    rfl
  rw [hR0]
  have HRR := Lib.hid hRR
  have hEO := Sys.euc_ok (m := m) (k := K) (by omega) (by omega) 20000 (rows K) e (hT.ok _) he (by have := he.red K; omega)
  rw [hP] at hEO
  have HEO := Lib.hid hEO
  have hor := hT.ok K
  have HOR := Lib.hid hor
  obtain ⟨ce, hce⟩ : ∃ c, arrE e = c := ⟨_, rfl⟩
  obtain ⟨cr, hcr⟩ : ∃ c, arrE (rows K) = c := ⟨_, rfl⟩
  have hsr : cr.size = 11 := by rw [← hcr, arrE_size, hor.len]
  have hor1 : cr.all (·.oneCell') = true := by rw [← hcr]; exact arrE_one _
  rw [hce] at HW HLA V2 HSE
  rw [hce]
  have HCE := Lib.hid hce
  have HCR := Lib.hid hcr
  have HSR := Lib.hid hsr
  have HO1 := Lib.hid hor1
  have hp1 : 2 ^ (L + 1) = 2 * 2 ^ L := by rw [Nat.pow_succ]; omega
  have hp2 : 1 ≤ 2 ^ L := Nat.one_le_two_pow
  obtain ⟨p, hp⟩ : ∃ p, 2 ^ L = p := ⟨_, rfl⟩
  rw [hp] at ih hp1 hp2
  rw [hp1] at hn ⊢
  have hNB : Hid (n + 2 * p ≤ 1000000000 ∧ 1 ≤ p) := Lib.hid ⟨hn, hp2⟩
  have HLL := Lib.hid hL
  clear v1 v2 hW hM hM2 hla hl he hse hD hT hP hR0 hRR hEO hor hsr hor1 hce hcr hkk hn hL hK hp hp1 hp2
  go_enter Tryz.func166, Tryz.ntmps166
  go_upto_region 1 with fail
  rw [HW.out]
  go_wp2_with (refine wpL_loadE rfl _ rfl _ ce _ rfl V2.out HSE.out ?_)
  refine (HLA.out _).mono ?_
  rintro r w2 ⟨rfl, hb2⟩
  have x1 := (V1.out.keep hb2).cell 0 _ rfl
  have x2 := (V1.out.keep hb2).cell 1 _ rfl
  have hlk := OwnM.look (HMk.out _ hb2) HD.out HK0.out.1 HK0.out.2
  rw [HCR.out] at hlk
  have hvn := VarC.new 137 w2 #[.int .i64 0, .int .i64 0, .int .i64 0, .int .i64 0, .int .i64 0, .int .i64 0, .int .i64 0, .int .i64 0, .int .i64 0, .int .i64 0, .int .i64 0]
  go_upto_region 4 with fail
  go_wp2_with (refine wpL_storeE rfl _ _ rfl _ #[.int .i64 0, .int .i64 0, .int .i64 0, .int .i64 0, .int .i64 0, .int .i64 0, .int .i64 0, .int .i64 0, .int .i64 0, .int .i64 0, .int .i64 0] cr _ rfl rfl hvn rfl HSR.out HO1.out ?_)
  rw [World.setRow_alloc_new]
  simp only [Act.put]
  clear hvn hlk x1 x2
  have hb3 := below_step hb2 (below_one w2 (.cells cr 137))
  have v5 := VarC.new 137 w2 cr
  have hg5 : W.heap.size ≤ w2.heap.size := hb2.size
  obtain ⟨w3, hw3⟩ : ∃ w3, w2.alloc (.cells cr 137) = w3 := ⟨_, rfl⟩
  rw [hw3] at hb3 v5 ⊢
  obtain ⟨G, hG⟩ : ∃ G, w2.heap.size = G := ⟨_, rfl⟩
  rw [hG] at v5 hg5 ⊢
  have hWs : w.heap.size + 1 < W.heap.size := V2.out.lt
  have HG := Lib.hid (show w.heap.size + 1 < G by omega)
  have V5 := Lib.hid v5
  have B3 := Lib.hid (below_step HB.out hb3)
  have M3 := Lib.hid (HMk.out _ hb3)
  have S3 := Lib.hid (V1.out.keep hb3)
  have E3 := Lib.hid (V2.out.keep hb3)
  clear hb2 hb3 v5 hg5 hw3 hG hWs HMk HW HLA HM V1 V2
  go_wp2
  go_loopw [19] (fun _ wr => ∃ (r' e' : List Int) (nn : Nat), Sys.Ok m r' ∧ Sys.Ok m e' ∧ Sys.euc m K nn r' e' = P ∧ (Ser.co e' K).toNat < nn ∧ VarC 137 wr (w.heap.size + 1) (arrE e') ∧ VarC 137 wr G (arrE r') ∧ VarC 153 wr w.heap.size #[.int .i64 m, .map (some M)] ∧ OwnM wr M n D ∧ Below w.heap.size w wr) (fun _ wr => cellN wr ⟨w.heap.size + 1, K, none⟩)
  case atStart => exact ⟨rows K, e, 20000, HOR.out, HOE.out, HP.out, by have := HOE.out.red K; omega, by rw [HCE.out]; exact E3.out, by rw [HCR.out]; exact V5.out, S3.out, M3.out, B3.out⟩
  case round =>
    obtain ⟨r', e', nn, o1, o2, hP, hnn, v3, v5, vs, hM, hB⟩ := hrel
    clear V5 B3 M3 S3 E3
    have c3 := v3.cell K _ (arrE_at (by rw [o2.len]; omega))
    have c5 := v5.cell K _ (arrE_at (by rw [o1.len]; omega))
    by_cases h0 : Ser.co e' K = 0
    · rw [h0] at c3
      have hPe : P = (r', e') := by
        obtain ⟨q, rfl⟩ : ∃ q, nn = q + 1 := ⟨nn - 1, by omega⟩
        rw [← hP]
        unfold Sys.euc
        rw [if_pos h0]
      clear hP hnn h0 c5
      subst hPe
      have O1 := Lib.hid o1
      have O2 := Lib.hid o2
      have EV := Lib.hid v3
      have RV := Lib.hid v5
      have SV := Lib.hid vs
      have HMM := Lib.hid hM
      have HBB := Lib.hid hB
      clear o1 o2 v3 v5 vs hM hB
      have s0 := SV.out.cell 0 _ rfl
      have s1 := SV.out.cell 1 _ rfl
      have hsz : (arrE r').size = 11 := by rw [arrE_size, O1.out.len]
      have HSZ := Lib.hid hsz
      have hval := rdE_arr O1.out.len
      obtain ⟨cs, hcs⟩ : ∃ c, arrE r' = c := ⟨_, rfl⟩
      rw [hcs] at RV HSZ hval
      have HCS := Lib.hid hcs
      have HVAL := Lib.hid hval
      have HKY := Lib.hid (key_lit (show K ≤ 10 from HK0.out.2))
      have hnm : n < maxLen := by have := hNB.out; unfold maxLen; omega
      clear hsz hcs hval
      go_upto_region 7 with fail
      go_wp2_with (first
        | (refine wpL_loadE rfl _ rfl _ cs _ rfl RV.out HSZ.out ?_)
        | (at_mapUpdate; refine wpList_mapUpdate_own _ rfl _ _ _ 151 rfl 2 137 (Maps.int_keyed Tryz.underlying2) Tryz.underlying151 rdE M n D rfl HMM.out hnm _ _ (.int .i64 (K : Int)) rfl rfl HKY.out (litE r') [] HVAL.out ?_; intro w4 hown4 hgrow4))
      have hMl := hMlt.out
      have hGl := HG.out
      have RV4 := RV.out.other hgrow4 (by intro e; injection e; omega)
      have SV4 := SV.out.other hgrow4 (by intro e; injection e; omega)
      have EV4 := EV.out.other hgrow4 (by intro e; injection e; omega)
      have c4 := RV4.cell K _ (by rw [← HCS.out]; exact arrE_at (by rw [O1.out.len]; omega))
      have hred := O1.out.red K
      obtain ⟨C, hC⟩ : ∃ C, Ser.co r' K = C := ⟨_, rfl⟩
      obtain ⟨g1, g2, g3⟩ := Sys.gcd_facts m1 C
      have hHRR := HRR.out
      try dsimp only at hHRR
      rw [hC] at c4 hred hHRR
      obtain ⟨g, hg⟩ : ∃ g, gcdI m C = g := ⟨_, rfl⟩
      have HGD := Lib.hid (fun W0 => by have := greatestDivisor_any m C W0 (by omega) (by omega) (by omega) (by omega); rw [hg] at this; exact this)
      rw [hg] at g1 g2 hHRR
      have hq0 : 0 ≤ m / g ∧ m / g ≤ m := ⟨Int.ediv_nonneg (by omega) (by omega), Int.ediv_le_self _ (by omega)⟩
      have htd : m.tdiv g = m / g := Int.tdiv_eq_ediv_of_nonneg (by omega)
      have HTM := Lib.hid (fun W0 => eqTimes_any m (m / g) r' W0 m1 m2 (by omega) (by omega) O1.out.len (O1.out.bd m2))
      have hTo : Sys.Ok m (Sys.timesE m (m / g) r') := Sys.Ok.cut (by omega) _
      have hov := HEO.out.over (fun j hj => HT.out.tri K HK0.out.1 j hj) (fun j hj => Sys.lastE_over HOE.out j (by rw [HLE.out]; exact hj))
      have hTl : Sys.lastE (Sys.timesE m (m / g) r') ≤ L := Sys.lastE_le_of (fun j hj => by
        by_cases hj10 : j ≤ 10
        · unfold Sys.timesE
          rw [Ser.co_cut hj10]
          by_cases hjk : j = K
          · rw [hjk, hC, ← hg]; exact Sys.times_zero (hg ▸ g1) (hg ▸ g2) (hg ▸ g3)
          · rw [show Ser.co r' j = 0 from hov.1 j (by have := HKL.out; omega)]; simp
        · exact Ser.co_over (by rw [hTo.len]; omega))
      have HTU := Lib.hid (HT.out.upd K O1.out hov.1)
      have HMR := Lib.hid (HD.out.put K r')
      have HOW := Lib.hid hown4
      obtain ⟨Q, hQ⟩ : ∃ Q, m / g = Q := ⟨_, rfl⟩
      rw [hQ] at hq0 htd HTM hTo hTl hHRR
      have HTA := Lib.hid (Sys.addS_ok m1 m2 L (Sys.upd rows K r') (Sys.timesE m Q r') HTU.out hTo hTl (by have := HKL.out; have := HK0.out; omega))
      have IH1 := Lib.hid (fun W0 (h : OwnM W0 M (n + 1) (D.put (.int .i64 (K : Int)) (litE r'))) => ih (Sys.upd rows K r') (Sys.timesE m Q r') (n + 1) (D.put (.int .i64 (K : Int)) (litE r')) W0 HTU.out hTo hTl (by have := hNB.out; omega) h HMR.out)
      have HEL := Lib.hid (show Sys.lastE e' ≤ L from Sys.lastE_le_of (fun j hj => by
        by_cases hjk : j = K
        · rw [hjk]; exact HEO.out.z
        · exact hov.2 j (by have := HKL.out; omega)))
      obtain ⟨q0, q1⟩ := hq0
      have hwQ : IntKind.i64.wrap Q = Q := by rw [IntKind.wrap_i64]; omega
      have hgn : ¬ g = 0 := by omega
      have hgn1 : ¬ g = -1 := by omega
      have GR4 := Lib.hid (grown_trans (grown_of_below HBB.out (some M)) hgrow4)
      rw [HCS.out] at HTM
      obtain ⟨cT, hcT⟩ : ∃ c, arrE (Sys.timesE m Q r') = c := ⟨_, rfl⟩
      rw [hcT] at HTM IH1
      have HS0 : Hid ((VarC 137 w4.drew G cs ∧ w4.drew.cell? ⟨w.heap.size, 0, none⟩ = some (.int .i64 m) ∧ w4.drew.cell? ⟨w.heap.size, 1, none⟩ = some (.map (some M))) ∧ w4.drew.cell? ⟨G, K, none⟩ = some (.int .i64 C)) := Lib.hid ⟨⟨RV4.drew, SV4.cell 0 _ rfl, SV4.cell 1 _ rfl⟩, c4⟩
      have HSK : Hid (∀ w', Below w4.heap.size w4 w' → (VarC 137 w' G cs ∧ w'.cell? ⟨w.heap.size, 0, none⟩ = some (.int .i64 m) ∧ w'.cell? ⟨w.heap.size, 1, none⟩ = some (.map (some M))) ∧ w'.cell? ⟨G, K, none⟩ = some (.int .i64 C)) := Lib.hid (fun w' h => ⟨⟨RV4.keep h, (SV4.keep h).cell 0 _ rfl, (SV4.keep h).cell 1 _ rfl⟩, by
        rw [(h.cell (p := ⟨G, K, none⟩) RV4.lt)]; exact c4⟩)
      have HRX := Lib.hid hHRR
      have EV5 := Lib.hid EV4
      have HCC := Lib.hid hC
      have SV5 := Lib.hid SV4
      clear hg hC g3 hov hTo hTl hQ hred hown4 hgrow4 RV4 SV4 EV4 hcT hHRR HRR s0 s1 c3 hMl hGl c4 g2
      refine region_tilN (fun w' => (VarC 137 w' G cs ∧ w'.cell? ⟨w.heap.size, 0, none⟩ = some (.int .i64 m) ∧ w'.cell? ⟨w.heap.size, 1, none⟩ = some (.map (some M))) ∧ w'.cell? ⟨G, K, none⟩ = some (.int .i64 C)) 15 (by kernel_rfl) ?_
      refine tilN_take (i := 0) (dst := some 40) (.agg #[.int .i64 m, .map (some M)]) rfl rfl (by kernel_rfl) (by kernel_rfl) (by kernel_rfl) (by kernel_rfl) (fun _ _ _ h => h) (Or.inl ⟨by rfl, ?_⟩) HS0.out ?_
      · rintro w' ⟨⟨a0, a1, a2⟩, a3⟩
        go_simp
      simp only [Act.put, List.setIfInBounds_toArray, List.set_cons_zero, List.set_cons_succ]
      refine tilN_take (i := 1) (dst := some 41) (.agg cs) rfl rfl (by kernel_rfl) (by kernel_rfl) (by kernel_rfl) (by kernel_rfl) (fun _ _ _ h => h) (yieldsE (by rfl) _ rfl _ cs _ rfl (fun w' h => h.1.1) HSZ.out) HS0.out ?_
      simp only [Act.put, List.setIfInBounds_toArray, List.set_cons_zero, List.set_cons_succ]
      refine tilN_take (i := 2) (dst := some 42) (.pointer (some ⟨w.heap.size, 0, none⟩)) rfl rfl (by kernel_rfl) (by kernel_rfl) (by kernel_rfl) (by kernel_rfl) (fun _ _ _ h => h) (Or.inl ⟨by rfl, ?_⟩) HS0.out ?_
      · rintro w' ⟨⟨a0, a1, a2⟩, a3⟩
        go_simp
      simp only [Act.put, List.setIfInBounds_toArray, List.set_cons_zero, List.set_cons_succ]
      refine tilN_take (i := 3) (dst := some 43) (.int .i64 m) rfl rfl (by kernel_rfl) (by kernel_rfl) (by kernel_rfl) (by kernel_rfl) (fun _ _ _ h => h) (Or.inl ⟨by rfl, ?_⟩) HS0.out ?_
      · rintro w' ⟨⟨a0, a1, a2⟩, a3⟩
        go_simp
      simp only [Act.put, List.setIfInBounds_toArray, List.set_cons_zero, List.set_cons_succ]
      refine tilN_take (i := 4) (dst := some 44) (.pointer (some ⟨w.heap.size, 0, none⟩)) rfl rfl (by kernel_rfl) (by kernel_rfl) (by kernel_rfl) (by kernel_rfl) (fun _ _ _ h => h) (Or.inl ⟨by rfl, ?_⟩) HS0.out ?_
      · rintro w' ⟨⟨a0, a1, a2⟩, a3⟩
        go_simp
      simp only [Act.put, List.setIfInBounds_toArray, List.set_cons_zero, List.set_cons_succ]
      refine tilN_take (i := 5) (dst := some 45) (.int .i64 m) rfl rfl (by kernel_rfl) (by kernel_rfl) (by kernel_rfl) (by kernel_rfl) (fun _ _ _ h => h) (Or.inl ⟨by rfl, ?_⟩) HS0.out ?_
      · rintro w' ⟨⟨a0, a1, a2⟩, a3⟩
        go_simp
      simp only [Act.put, List.setIfInBounds_toArray, List.set_cons_zero, List.set_cons_succ]
      refine tilN_take (i := 6) (dst := some 46) (.pointer (some ⟨w.heap.size, 0, none⟩)) rfl rfl (by kernel_rfl) (by kernel_rfl) (by kernel_rfl) (by kernel_rfl) (fun _ _ _ h => h) (Or.inl ⟨by rfl, ?_⟩) HS0.out ?_
      · rintro w' ⟨⟨a0, a1, a2⟩, a3⟩
        go_simp
      simp only [Act.put, List.setIfInBounds_toArray, List.set_cons_zero, List.set_cons_succ]
      refine tilN_take (i := 7) (dst := some 47) (.int .i64 m) rfl rfl (by kernel_rfl) (by kernel_rfl) (by kernel_rfl) (by kernel_rfl) (fun _ _ _ h => h) (Or.inl ⟨by rfl, ?_⟩) HS0.out ?_
      · rintro w' ⟨⟨a0, a1, a2⟩, a3⟩
        go_simp
      simp only [Act.put, List.setIfInBounds_toArray, List.set_cons_zero, List.set_cons_succ]
      refine tilN_take (i := 8) (dst := some 48) (.int .i64 K) rfl rfl (by kernel_rfl) (by kernel_rfl) (by kernel_rfl) (by kernel_rfl) (fun _ _ _ h => h) (Or.inl ⟨by rfl, ?_⟩) HS0.out ?_
      · rintro w' ⟨⟨a0, a1, a2⟩, a3⟩
        go_simp
      simp only [Act.put, List.setIfInBounds_toArray, List.set_cons_zero, List.set_cons_succ]
      refine tilN_take (i := 9) (dst := some 49) (.pointer (some ⟨G, K, none⟩)) rfl rfl (by kernel_rfl) (by kernel_rfl) (by kernel_rfl) (by kernel_rfl) (fun _ _ _ h => h) (Or.inl ⟨by rfl, ?_⟩) HS0.out ?_
      · rintro w' ⟨⟨a0, a1, a2⟩, a3⟩
        go_simp
      simp only [Act.put, List.setIfInBounds_toArray, List.set_cons_zero, List.set_cons_succ]
      refine tilN_take (i := 10) (dst := some 50) (.int .i64 C) rfl rfl (by kernel_rfl) (by kernel_rfl) (by kernel_rfl) (by kernel_rfl) (fun _ _ _ h => h) (Or.inl ⟨by rfl, ?_⟩) HS0.out ?_
      · rintro w' ⟨⟨a0, a1, a2⟩, a3⟩
        go_simp
      simp only [Act.put, List.setIfInBounds_toArray, List.set_cons_zero, List.set_cons_succ]
      refine tilN_one (i := 11) (by kernel_rfl) rfl (fun K hK => ?_)
      go_simp
      (go_at_call 104; with_reducible refine Calls.mono (HGD.out _) ?_; rintro e w5 ⟨rfl, hb5⟩; have b5 := below_step (below_drew0 w4) hb5)
      dsimp only
      refine hK.out _ _ (fun _ => HSK.out _ b5) ?_
      clear hK K
      try simp only [Act.put, List.setIfInBounds_toArray, List.set_cons_zero, List.set_cons_succ]
      refine tilN_take (i := 12) (dst := some 52) (.int .i64 Q) rfl rfl (by kernel_rfl) (by kernel_rfl) (by kernel_rfl) (by kernel_rfl) (fun _ _ _ h => h) (Or.inl ⟨by rfl, ?_⟩) (HSK.out _ b5) ?_
      · rintro w' ⟨⟨a0, a1, a2⟩, a3⟩
        go_simp
      simp only [Act.put, List.setIfInBounds_toArray, List.set_cons_zero, List.set_cons_succ]
      refine tilN_one (i := 13) (by kernel_rfl) rfl (fun K hK => ?_)
      go_simp
      (go_at_call 154; with_reducible refine Calls.mono (HTM.out _) ?_; rintro e w6 ⟨rfl, hb6⟩; have b6 := below_step b5 hb6)
      dsimp only
      refine hK.out _ _ (fun _ => HSK.out _ b6) ?_
      clear hK K
      try simp only [Act.put, List.setIfInBounds_toArray, List.set_cons_zero, List.set_cons_succ]
      have hM6 : OwnM w6 M (n + 1) (D.put (.int .i64 (K : Int)) (litE r')) := World.ownsMap.kept HOW.out (grown_of_below b6 none) (by simp)
      have HM6 := Lib.hid hM6
      have HI6 := Lib.hid (IH1.out w6 HM6.out)
      have GR6 := Lib.hid (grown_trans GR4.out (grown_of_below b6 (some M)))
      have RV6 := Lib.hid ((HSK.out _ b6).1.1)
      have SV6 := Lib.hid (SV5.out.keep b6)
      have EV6 := Lib.hid (EV5.out.keep b6)
      have HMl := Lib.hid hMlt.out
      clear hM6 b5 b6 hb5 hb6
      cases hA1 : Sys.addS m L (Sys.upd rows K r') (Sys.timesE m Q r') with
      | none =>
        have hr := HRX.out
        rw [hA1] at hr
        dsimp only at hr
        have hi := HI6.out
        rw [hA1] at hi
        have HII := Lib.hid hi
        rw [hr]
        clear hi hr hA1
        refine tilN_one (i := 14) (by kernel_rfl) rfl (fun K hK => ?_)
        go_simp
        go_at_call 166
        refine HII.out.mono ?_
        rintro q w7 ⟨⟨s, rfl⟩, hg7⟩
        clear hK
        go_wp2
        exact ⟨rfl, ⟨s, rfl⟩, grown_trans GR6.out hg7⟩
      | some r2 =>
        have hr := HRX.out
        rw [hA1] at hr
        dsimp only at hr
        have hi := HI6.out
        rw [hA1] at hi
        have HII := Lib.hid hi
        have HT2 := Lib.hid ((HTA.out.1 r2 hA1).tri)
        have HRY := Lib.hid hr
        clear hi hr hA1 HRX HI6 HTA
        refine tilN_one (i := 14) (by kernel_rfl) rfl (fun K' hK => ?_)
        go_simp
        go_at_call 166
        refine HII.out.mono ?_
        rintro q w7 ⟨rfl, ⟨D7, hM7, hD7⟩, hg7⟩
        have hMl := HMl.out
        have hGl := HG.out
        have RV7 := RV6.out.other hg7 (by intro e; injection e; omega)
        have SV7 := SV6.out.other hg7 (by intro e; injection e; omega)
        have EV7 := EV6.out.other hg7 (by intro e; injection e; omega)
        have GR7 := Lib.hid (grown_trans GR6.out hg7)
        have s0 := SV7.cell 0 _ rfl
        have s1 := SV7.cell 1 _ rfl
        have c7 := RV7.cell K _ (by rw [← HCS.out]; exact arrE_at (by rw [O1.out.len]; omega))
        have hne := HCC.out
        rw [hne] at c7
        dsimp only
        refine hK.out _ _ (fun _ => ⟨⟨RV7, s0, s1⟩, c7⟩) ?_
        clear hK K'
        refine tilN_done (by kernel_rfl) ?_
        have EV8 := Lib.hid EV7
        have HM8 := Lib.hid hM7
        have HD8 := Lib.hid hD7
        have hse : (arrE e').size = 11 := by rw [arrE_size, O2.out.len]
        have HSE2 := Lib.hid hse
        have hfin : n + 1 + (p - 1) + (p - 1) = n + (2 * p - 1) := by have := hNB.out; omega
        have hih := ih r2 e' (n + 1 + (p - 1)) D7 w7 HT2.out O2.out HEL.out (by have := hNB.out; omega) HM8.out HD8.out
        rw [hfin, ← HRY.out] at hih
        have HIH := Lib.hid hih
        obtain ⟨ce', hce'⟩ : ∃ c, arrE e' = c := ⟨_, rfl⟩
        rw [hce'] at EV8 HSE2 HIH
        clear hse hfin hih hce' RV7 SV7 EV7 c7 hM7 hD7 hg7 hMl hGl hne
        go_upto_region 9 with fail
        go_wp2_with (first
          | (refine wpL_loadE rfl _ rfl _ ce' _ rfl EV8.out HSE2.out ?_))
        refine HIH.out.mono ?_
        rintro q w9 hq
        cases R0 with
        | none =>
          obtain ⟨⟨s, rfl⟩, hg9⟩ := hq
          go_wp2
          exact ⟨rfl, ⟨s, rfl⟩, grown_trans GR7.out hg9⟩
        | some r9 =>
          obtain ⟨rfl, hD9, hg9⟩ := hq
          go_wp2
          go_end0
          exact ⟨rfl, hD9, grown_trans GR7.out hg9⟩
    · have hst : Sys.euc m K (nn - 1) e' (Sys.lessE m (Ser.co r' K / Ser.co e' K) r' e') = P := by
        obtain ⟨q, rfl⟩ : ∃ q, nn = q + 1 := ⟨nn - 1, by omega⟩
        rw [← hP, Nat.add_sub_cancel]
        conv => rhs; unfold Sys.euc
        rw [if_neg h0]
      have hat := Sys.less_at (row := r') (k := K) (by have := HK0.out; omega) o2 h0
      have b1 := o1.red K
      have b2 := o2.red K
      have hmod := Int.emod_lt_of_pos (Ser.co r' K) (show 0 < Ser.co e' K by omega)
      have hmod0 := Int.emod_nonneg (Ser.co r' K) h0
      obtain ⟨X, hX⟩ : ∃ X, Ser.co r' K = X := ⟨_, rfl⟩
      obtain ⟨Y, hY⟩ : ∃ Y, Ser.co e' K = Y := ⟨_, rfl⟩
      rw [hX, hY] at hst hat hmod hmod0
      rw [hX] at c5 b1
      rw [hY] at c3 b2 h0 hnn
      have hq0 : 0 ≤ X / Y ∧ X / Y ≤ X := ⟨Int.ediv_nonneg b1.1 b2.1, Int.ediv_le_self _ b1.1⟩
      have htd : X.tdiv Y = X / Y := Int.tdiv_eq_ediv_of_nonneg b1.1
      have HLS := Lib.hid (fun W0 => eqLess_any m (X / Y) r' e' W0 m1 m2 (by omega) (by omega) o1.len o2.len (o1.bd m2) (o2.bd m2))
      have hol : Sys.Ok m (Sys.lessE m (X / Y) r' e') := Sys.Ok.lessE (by omega)
      obtain ⟨Q, hQ⟩ : ∃ Q, X / Y = Q := ⟨_, rfl⟩
      rw [hQ] at hst hat hq0 htd HLS hol
      have hwQ : IntKind.i64.wrap Q = Q := by rw [IntKind.wrap_i64]; omega
      obtain ⟨E2, hE2⟩ : ∃ E2, Sys.lessE m Q r' e' = E2 := ⟨_, rfl⟩
      rw [hE2] at hst hat HLS hol
      have hYn : ¬ Y = -1 := by omega
      have cE2 : ∀ (w' : World), VarC 137 w' (w.heap.size + 1) (arrE E2) → w'.cell? ⟨w.heap.size + 1, K, none⟩ = some (.int .i64 (X % Y)) := fun w' h => by
        rw [h.cell K _ (arrE_at (by rw [hol.len]; have := HK0.out; omega)), hat]
      have CE2 := Lib.hid cE2
      have hs1 : (arrE r').size = 11 := by rw [arrE_size, o1.len]
      have hs2 : (arrE e').size = 11 := by rw [arrE_size, o2.len]
      have hs3 : (arrE E2).size = 11 := by rw [arrE_size, hol.len]
      have ho2 := arrE_one e'
      have ho3 := arrE_one E2
      obtain ⟨a1, ha1⟩ : ∃ c, arrE r' = c := ⟨_, rfl⟩
      obtain ⟨a2, ha2⟩ : ∃ c, arrE e' = c := ⟨_, rfl⟩
      obtain ⟨a3, ha3⟩ : ∃ c, arrE E2 = c := ⟨_, rfl⟩
      rw [ha1] at v5 hs1
      rw [ha2] at v3 hs2 ho2
      rw [ha3] at hs3 ho3
      rw [ha1, ha2, ha3] at HLS
      have A2 := Lib.hid ha2
      have A3 := Lib.hid ha3
      have Z1 := Lib.hid hs1
      have Z2 := Lib.hid hs2
      have Z3 := Lib.hid hs3
      have U2 := Lib.hid ho2
      have U3 := Lib.hid ho3
      have O2 := Lib.hid o2
      have OL := Lib.hid hol
      have HST := Lib.hid hst
      have HAT := Lib.hid hat
      have HNN : Hid ((X % Y).toNat < nn - 1) := Lib.hid (by omega)
      have HMZ : Hid ((X % Y).toNat < Y.toNat) := Lib.hid (by omega)
      have EV := Lib.hid v3
      have RV := Lib.hid v5
      have SV := Lib.hid vs
      have HMM := Lib.hid hM
      have HBB := Lib.hid hB
      have C3 := Lib.hid c3
      have sv0 := vs.cell 0 _ rfl
      have HS0 : Hid ((VarC 137 wr.drew (w.heap.size + 1) a2 ∧ VarC 137 wr.drew G a1) ∧ wr.drew.cell? ⟨w.heap.size, 0, none⟩ = some (.int .i64 m) ∧ wr.drew.cell? ⟨w.heap.size + 1, K, none⟩ = some (.int .i64 Y) ∧ wr.drew.cell? ⟨G, K, none⟩ = some (.int .i64 X)) := Lib.hid ⟨⟨v3.drew, v5.drew⟩, sv0, c3, c5⟩
      have HSK : Hid (∀ w', Below wr.heap.size wr w' → (VarC 137 w' (w.heap.size + 1) a2 ∧ VarC 137 w' G a1) ∧ w'.cell? ⟨w.heap.size, 0, none⟩ = some (.int .i64 m) ∧ w'.cell? ⟨w.heap.size + 1, K, none⟩ = some (.int .i64 Y) ∧ w'.cell? ⟨G, K, none⟩ = some (.int .i64 X)) := Lib.hid (fun w' h => ⟨⟨v3.keep h, v5.keep h⟩, (vs.keep h).cell 0 _ rfl, (h.cell (p := ⟨w.heap.size + 1, K, none⟩) v3.lt).trans c3, (h.cell (p := ⟨G, K, none⟩) v5.lt).trans c5⟩)
      obtain ⟨qb1, qb2⟩ := hq0
      obtain ⟨yb1, yb2⟩ := b2
      obtain ⟨xb1, xb2⟩ := b1
      clear hX hY hQ hE2 ha1 ha2 ha3 hs1 hs2 hs3 ho2 ho3 hP hst hat hol hmod hmod0 hnn v3 v5 vs hM hB c5 cE2 sv0 o1 o2
      go_upto_region 6 with fail
      refine region_tilN (fun w' => (VarC 137 w' (w.heap.size + 1) a2 ∧ VarC 137 w' G a1) ∧ w'.cell? ⟨w.heap.size, 0, none⟩ = some (.int .i64 m) ∧ w'.cell? ⟨w.heap.size + 1, K, none⟩ = some (.int .i64 Y) ∧ w'.cell? ⟨G, K, none⟩ = some (.int .i64 X)) 13 (by kernel_rfl) ?_
      refine tilN_take (i := 0) (dst := some 23) (.agg a2) rfl rfl (by kernel_rfl) (by kernel_rfl) (by kernel_rfl) (by kernel_rfl) (fun _ _ _ h => h) (yieldsE (by rfl) _ rfl _ a2 _ rfl (fun w' h => h.1.1) Z2.out) HS0.out ?_
      simp only [Act.put, List.setIfInBounds_toArray, List.set_cons_zero, List.set_cons_succ]
      refine tilN_take (i := 1) (dst := some 24) (.agg a1) rfl rfl (by kernel_rfl) (by kernel_rfl) (by kernel_rfl) (by kernel_rfl) (fun _ _ _ h => h) (yieldsE (by rfl) _ rfl _ a1 _ rfl (fun w' h => h.1.2) Z1.out) HS0.out ?_
      simp only [Act.put, List.setIfInBounds_toArray, List.set_cons_zero, List.set_cons_succ]
      refine tilN_take (i := 2) (dst := some 25) (.pointer (some ⟨w.heap.size, 0, none⟩)) rfl rfl (by kernel_rfl) (by kernel_rfl) (by kernel_rfl) (by kernel_rfl) (fun _ _ _ h => h) (Or.inl ⟨by rfl, ?_⟩) HS0.out ?_
      · rintro w' ⟨⟨h1, h2⟩, h3, h4, h5⟩
        go_simp
      simp only [Act.put, List.setIfInBounds_toArray, List.set_cons_zero, List.set_cons_succ]
      refine tilN_take (i := 3) (dst := some 26) (.int .i64 m) rfl rfl (by kernel_rfl) (by kernel_rfl) (by kernel_rfl) (by kernel_rfl) (fun _ _ _ h => h) (Or.inl ⟨by rfl, ?_⟩) HS0.out ?_
      · rintro w' ⟨⟨h1, h2⟩, h3, h4, h5⟩
        go_simp
      simp only [Act.put, List.setIfInBounds_toArray, List.set_cons_zero, List.set_cons_succ]
      refine tilN_take (i := 4) (dst := some 27) (.int .i64 K) rfl rfl (by kernel_rfl) (by kernel_rfl) (by kernel_rfl) (by kernel_rfl) (fun _ _ _ h => h) (Or.inl ⟨by rfl, ?_⟩) HS0.out ?_
      · rintro w' ⟨⟨h1, h2⟩, h3, h4, h5⟩
        go_simp
      simp only [Act.put, List.setIfInBounds_toArray, List.set_cons_zero, List.set_cons_succ]
      refine tilN_take (i := 5) (dst := some 28) (.pointer (some ⟨G, K, none⟩)) rfl rfl (by kernel_rfl) (by kernel_rfl) (by kernel_rfl) (by kernel_rfl) (fun _ _ _ h => h) (Or.inl ⟨by rfl, ?_⟩) HS0.out ?_
      · rintro w' ⟨⟨h1, h2⟩, h3, h4, h5⟩
        go_simp
      simp only [Act.put, List.setIfInBounds_toArray, List.set_cons_zero, List.set_cons_succ]
      refine tilN_take (i := 6) (dst := some 29) (.int .i64 X) rfl rfl (by kernel_rfl) (by kernel_rfl) (by kernel_rfl) (by kernel_rfl) (fun _ _ _ h => h) (Or.inl ⟨by rfl, ?_⟩) HS0.out ?_
      · rintro w' ⟨⟨h1, h2⟩, h3, h4, h5⟩
        go_simp
      simp only [Act.put, List.setIfInBounds_toArray, List.set_cons_zero, List.set_cons_succ]
      refine tilN_take (i := 7) (dst := some 30) (.int .i64 K) rfl rfl (by kernel_rfl) (by kernel_rfl) (by kernel_rfl) (by kernel_rfl) (fun _ _ _ h => h) (Or.inl ⟨by rfl, ?_⟩) HS0.out ?_
      · rintro w' ⟨⟨h1, h2⟩, h3, h4, h5⟩
        go_simp
      simp only [Act.put, List.setIfInBounds_toArray, List.set_cons_zero, List.set_cons_succ]
      refine tilN_take (i := 8) (dst := some 31) (.pointer (some ⟨w.heap.size + 1, K, none⟩)) rfl rfl (by kernel_rfl) (by kernel_rfl) (by kernel_rfl) (by kernel_rfl) (fun _ _ _ h => h) (Or.inl ⟨by rfl, ?_⟩) HS0.out ?_
      · rintro w' ⟨⟨h1, h2⟩, h3, h4, h5⟩
        go_simp
      simp only [Act.put, List.setIfInBounds_toArray, List.set_cons_zero, List.set_cons_succ]
      refine tilN_take (i := 9) (dst := some 32) (.int .i64 Y) rfl rfl (by kernel_rfl) (by kernel_rfl) (by kernel_rfl) (by kernel_rfl) (fun _ _ _ h => h) (Or.inl ⟨by rfl, ?_⟩) HS0.out ?_
      · rintro w' ⟨⟨h1, h2⟩, h3, h4, h5⟩
        go_simp
      simp only [Act.put, List.setIfInBounds_toArray, List.set_cons_zero, List.set_cons_succ]
      refine tilN_take (i := 10) (dst := some 33) (.int .i64 Q) rfl rfl (by kernel_rfl) (by kernel_rfl) (by kernel_rfl) (by kernel_rfl) (fun _ _ _ h => h) (Or.inl ⟨by rfl, ?_⟩) HS0.out ?_
      · rintro w' ⟨⟨h1, h2⟩, h3, h4, h5⟩
        go_simp
      simp only [Act.put, List.setIfInBounds_toArray, List.set_cons_zero, List.set_cons_succ]
      refine tilN_take (i := 11) (dst := some 34) (.agg a2) rfl rfl (by kernel_rfl) (by kernel_rfl) (by kernel_rfl) (by kernel_rfl) (fun _ _ _ h => h) (yieldsE (by rfl) _ rfl _ a2 _ rfl (fun w' h => h.1.1) Z2.out) HS0.out ?_
      simp only [Act.put, List.setIfInBounds_toArray, List.set_cons_zero, List.set_cons_succ]
      refine tilN_one (i := 12) (by kernel_rfl) rfl (fun K hK => ?_)
      go_simp
      (go_at_call 164; with_reducible refine Calls.mono (HLS.out _) ?_; rintro e w5 ⟨rfl, hb5⟩; have b5 := below_step (below_drew0 wr) hb5)
      dsimp only
      refine hK.out _ _ (fun _ => HSK.out _ b5) ?_
      clear hK K
      try simp only [Act.put, List.setIfInBounds_toArray, List.set_cons_zero, List.set_cons_succ]
      have GV5 := (HSK.out _ b5).1.2
      have EV5 := (HSK.out _ b5).1.1
      have hGl := HG.out
      have T1 := Lib.hid (show VarC 137 ((w5.setRow G a2).setRow (w.heap.size + 1) a3) (w.heap.size + 1) a3 from (EV5.setRow_ne (by omega)).setRow)
      have T2 := Lib.hid (show VarC 137 ((w5.setRow G a2).setRow (w.heap.size + 1) a3) G a2 from GV5.setRow.setRow_ne (by omega))
      have T3 := Lib.hid (show VarC 153 ((w5.setRow G a2).setRow (w.heap.size + 1) a3) w.heap.size #[.int .i64 m, .map (some M)] from ((SV.out.keep b5).setRow_ne (by omega)).setRow_ne (by omega))
      have hMl := hMlt.out
      have T4 := Lib.hid (show OwnM ((w5.setRow G a2).setRow (w.heap.size + 1) a3) M n D from World.ownsMap.kept (World.ownsMap.kept (World.ownsMap.kept HMM.out (grown_of_below b5 none) (by simp)) (grown_setRow _ _ _) (by intro h; injection h; omega)) (grown_setRow _ _ _) (by intro h; injection h; omega))
      have T5 := Lib.hid (show Below w.heap.size w ((w5.setRow G a2).setRow (w.heap.size + 1) a3) from below_setRow (below_setRow (below_step HBB.out b5) (by omega) a2) (by omega) a3)
      have GV := Lib.hid GV5
      have EVx := Lib.hid (EV5.setRow_ne (cs' := a2) (show w.heap.size + 1 ≠ G by omega))
      clear GV5 EV5 hMl hGl b5 hb5
      refine tilN_one (i := 13) (by kernel_rfl) rfl (fun K hK => ?_)
      rw [if_pos (by kernel_rfl)]
      (refine wp_storeE _ _ rfl _ a1 a2 _ rfl rfl GV.out Z1.out Z2.out U2.out ?_)
      refine hK.out _ _ (fun hlt => absurd hlt (by decide)) ?_
      clear hK K
      simp only [Act.put]
      refine tilN_one (i := 14) (by kernel_rfl) rfl (fun K hK => ?_)
      rw [if_pos (by kernel_rfl)]
      (refine wp_storeE _ _ rfl _ a2 a3 _ rfl rfl EVx.out Z2.out Z3.out U3.out ?_)
      refine hK.out _ _ (fun hlt => absurd hlt (by decide)) ?_
      clear hK K
      refine tilN_done (by kernel_rfl) ?_
      go_wp2
      go_roundw
      case rel => ((repeat apply Exists.intro); exact ⟨⟨e', E2, nn - 1, O2.out, OL.out, HST.out, by rw [HAT.out]; exact HNN.out, by rw [A3.out]; exact T1.out, by rw [A2.out]; exact T2.out, T3.out, T4.out, T5.out⟩, rfl⟩)
      case measure =>
        rw [cellN_int (CE2.out _ (by rw [A3.out]; exact T1.out)), cellN_int C3.out]
        exact HMZ.out
end Go.Proofs.YtfhdgcndiljjcabGreat

/- Contract of the addition of an equation to a system, whole. -/
namespace Go.Proofs.YtfhdgcndiljjcabGreat
open Go.RowKit Go.WideShapes Go.ChangeShapes Go.ChangeAt
theorem AddPost.mono {o : Option (Nat → List Int)} {M n n' : Nat} {w : World} {q : Ending} {w' : World} (h : AddPost o M n w q w') (hn : n ≤ n') : AddPost o M n' w q w' := by
  cases o with
  | none => exact h
  | some r =>
    obtain ⟨h1, ⟨D, h2, h3⟩, h4⟩ := h
    exact ⟨h1, ⟨D, World.ownsMap.mono h2 hn, h3⟩, h4⟩
theorem add_any (m : Int) (m1 : 2 ≤ m) (m2 : m ≤ 10000) (M : Nat) : ∀ (L : Nat), L ≤ 10 → ∀ (rows : Nat → List Int) (e : List Int) (n : Nat) (D : DataW Unit) (w : World), Sys.Tri m rows → Sys.Ok m e → Sys.lastE e ≤ L → n + 2 ^ L ≤ 1000000000 → OwnM w M n D → MapRows D rows →
    Calls Tryz.prog 166 #[.agg #[.int .i64 m, .map (some M)], .agg (arrE e)] w (AddPost (Sys.addS m L rows e) M (n + (2 ^ L - 1)) w) := by
  intro L
  induction L with
  | zero =>
    intro _ rows e n D w _ he hl _ hM hD
    exact add_zero m m1 m2 rows e M n D w he (by omega) hM hD
  | succ L ih =>
    intro hL rows e n D w hT he hl hn hM hD
    have hp1 : 2 ^ (L + 1) = 2 * 2 ^ L := by rw [Nat.pow_succ]; omega
    have hp2 : 1 ≤ 2 ^ L := Nat.one_le_two_pow
    by_cases hk : Sys.lastE e = L + 1
    · exact add_succ m m1 m2 L (by omega) M (ih (by omega)) rows e n D w hT he hk hn hM hD
    · have := ih (by omega) rows e n D w hT he (by omega) (by omega) hM hD
      have e1 : Sys.addS m (L + 1) rows e = Sys.addS m L rows e := by
        conv => lhs; unfold Sys.addS
        rw [if_neg hk]
      rw [e1]
      exact this.mono fun q w' h => h.mono (by omega)
/-- at whatever equation -/
theorem add_ten (m : Int) (m1 : 2 ≤ m) (m2 : m ≤ 10000) (M : Nat) (rows : Nat → List Int) (e : List Int) (n : Nat) (D : DataW Unit) (w : World) (hT : Sys.Tri m rows) (he : Sys.Ok m e) (hn : n + 1024 ≤ 1000000000) (hM : OwnM w M n D) (hD : MapRows D rows) :
    Calls Tryz.prog 166 #[.agg #[.int .i64 m, .map (some M)], .agg (arrE e)] w (AddPost (Sys.addS m 10 rows e) M (n + 1023) w) :=
  add_any m m1 m2 M 10 (Nat.le_refl _) rows e n D w hT he (Sys.lastF_le e 10) hn hM hD
end Go.Proofs.YtfhdgcndiljjcabGreat

/- Contract of the least solution: the deferred closure. -/
namespace Go.Proofs.YtfhdgcndiljjcabGreat
open Go.RowKit Go.WideShapes Go.ChangeShapes Go.ChangeAt
theorem catch_panicking (g g2 : Nat) (Z : Array Value) (x : Value) (u : TypeId) (pv : Value) (older : List PanicEntry) (w : World) (h1 : VarC 137 w g Z) (hs : Z.size = 11) (h2 : VarC 4 w g2 #[x]) (hne : g2 ≠ g) :
    CallsD Tryz.prog 165 #[.pointer (some ⟨g, 0, none⟩), .pointer (some ⟨g2, 0, none⟩)] (.panicking ({ v := .iface u pv, recovered := false } :: older)) w fun e u' w' =>
      e = .returned (.tuple #[]) ∧ u' = .panicking ({ v := .iface u pv, recovered := true } :: older) ∧ w' = (w.setRow g (#[.int .i64 0, .int .i64 0, .int .i64 0, .int .i64 0, .int .i64 0, .int .i64 0, .int .i64 0, .int .i64 0, .int .i64 0, .int .i64 0, .int .i64 0])).setCell ⟨g2, 0, none⟩ (.bool false) := by
  refine callsD_of_wpS Tryz.func165 rfl fun c₀ cs hu => ?_
  apply wpS_seq
  apply wpS_region
  simp [wpOpsS, go_sem, recoverD, hu, Tryz.ntmps165, Exit.thenS]
  refine wpS_cond (t := true) (by simp [Act.eval, Array.replicate]) ?_
  simp only [if_true]
  have ho0 : (#[.int .i64 0, .int .i64 0, .int .i64 0, .int .i64 0, .int .i64 0, .int .i64 0, .int .i64 0, .int .i64 0, .int .i64 0, .int .i64 0, .int .i64 0] : Array Value).all (·.oneCell') = true := arrE_one (List.replicate 11 0)
  have hz0 : (#[.int .i64 0, .int .i64 0, .int .i64 0, .int .i64 0, .int .i64 0, .int .i64 0, .int .i64 0, .int .i64 0, .int .i64 0, .int .i64 0, .int .i64 0] : Array Value).size = 11 := rfl
  have h3 := (h2.setRow_ne (cs' := #[.int .i64 0, .int .i64 0, .int .i64 0, .int .i64 0, .int .i64 0, .int .i64 0, .int .i64 0, .int .i64 0, .int .i64 0, .int .i64 0, .int .i64 0]) hne).cell 0 _ rfl
  have h4 := (h2.setRow_ne (cs' := #[.int .i64 0, .int .i64 0, .int .i64 0, .int .i64 0, .int .i64 0, .int .i64 0, .int .i64 0, .int .i64 0, .int .i64 0, .int .i64 0, .int .i64 0]) hne).fz 0
  refine wpS_of_wp ?_
  go_wp2_with (refine wpL_storeE rfl _ _ rfl _ Z (#[.int .i64 0, .int .i64 0, .int .i64 0, .int .i64 0, .int .i64 0, .int .i64 0, .int .i64 0, .int .i64 0, .int .i64 0, .int .i64 0, .int .i64 0]) _ rfl rfl h1 hs hz0 ho0 ?_)
  cases c₀
  simp_all [bodyPostS, results, Tryz.results165]
theorem catch_idle (g g2 : Nat) (w : World) :
    CallsD Tryz.prog 165 #[.pointer (some ⟨g, 0, none⟩), .pointer (some ⟨g2, 0, none⟩)] .returning w fun e u' w' => e = .returned (.tuple #[]) ∧ u' = .returning ∧ w' = w := by
  refine callsD_of_wpS Tryz.func165 rfl fun c₀ cs hu => ?_
  apply wpS_seq
  apply wpS_region
  simp [wpOpsS, go_sem, recoverD, hu, Tryz.ntmps165, Exit.thenS]
  refine wpS_cond (t := false) (by simp [Act.eval, Array.replicate]) ?_
  simp only [Bool.false_eq_true, if_false]
  refine wpS_of_wp (wp_skip ?_)
  cases c₀
  simp_all [bodyPostS, results, Tryz.results165]
end Go.Proofs.YtfhdgcndiljjcabGreat

/- Contract of the least solution. -/
namespace Go.Proofs.YtfhdgcndiljjcabGreat
open Go.RowKit Go.WideShapes Go.ChangeShapes Go.ChangeAt
/-- equations lie in a slice -/
def EqsAt (w : World) (A : Option Addr) (es : List (List Int)) : Prop :=
  es ≠ [] → ∃ b off, A = some ⟨b, off, none⟩ ∧ b < w.heap.size ∧ ∀ i e, es[i]? = some e → w.rangeAt b (off + i * 11) (e.map (Value.int .i64))
theorem EqsAt.below {B : Nat} {w w' : World} {A : Option Addr} {es : List (List Int)} (h : EqsAt w A es) (hb : Below B w w') (hB : w.heap.size ≤ B) : EqsAt w' A es := by
  intro hn
  obtain ⟨b, off, rfl, hlt, hc⟩ := h hn
  exact ⟨b, off, rfl, Nat.lt_of_lt_of_le hlt hb.size, fun i e he j v hv => (hb.cell (p := ⟨b, off + i * 11 + j, none⟩) (Nat.lt_of_lt_of_le hlt hB)).trans (hc i e he j v hv)⟩
theorem Sys.grd_stable (m : Int) (rows : Nat → List Int) {i k : Nat} (h : i ≤ k) : ∀ n, k ≤ n → Sys.grd m rows n i = Sys.grd m rows k i := by
  intro n hn
  obtain ⟨q, rfl⟩ : ∃ q, n = k + q := ⟨n - k, by omega⟩
  clear hn
  induction q with
  | zero => rfl
  | succ q ih => rw [← Nat.add_assoc, Sys.grd_keep m rows (by omega)]; exact ih
/-- the numbers found so far, as the program keeps them: 0 at 0 -/
def solP (X : Nat → Int) (k : Nat) : List Int := (List.range 11).map fun i => if 0 < i ∧ i < k then X i else 0
theorem solP_len (X : Nat → Int) (k : Nat) : (solP X k).length = 11 := by simp [solP]
theorem solP_co {X : Nat → Int} {k i : Nat} (h : i ≤ 10) : Ser.co (solP X k) i = if 0 < i ∧ i < k then X i else 0 := by
  unfold Ser.co solP
  rw [List.getElem?_map, List.getElem?_range (by omega)]; rfl
theorem solP_zero (X : Nat → Int) : solP X 1 = List.replicate 11 0 := by
  refine Ser.list_ext (by rw [solP_len, List.length_replicate]) (fun i hi => ?_)
  rw [solP_len] at hi
  rw [solP_co (by omega), if_neg (by omega), Ser.co_zeros]
theorem solP_step (X : Nat → Int) {k : Nat} (h0 : 0 < k) (h : k ≤ 10) : (solP X k).set k (X k) = solP X (k + 1) := by
  refine Ser.list_ext (by rw [List.length_set, solP_len, solP_len]) (fun i hi => ?_)
  rw [List.length_set, solP_len] at hi
  rw [Ser.co_set (by rw [solP_len]; omega), solP_co (by omega), solP_co (by omega)]
  by_cases e : i = k
  · rw [if_pos e, if_pos (by omega), e]
  · rw [if_neg e]
    by_cases c : 0 < i ∧ i < k
    · rw [if_pos c, if_pos (by omega)]
    · rw [if_neg c, if_neg (by omega)]
def solL (X : Nat → Int) : List Int := solP X 11
/-- what the least solution's call returns -/
def LeastPost (o : Option (Nat → Int)) (w : World) (q : Ending) (w' : World) : Prop :=
  (match o with
  | some X => q = .returned (.tuple #[.agg (arrE (solL X)), .bool true])
  | none => q = .returned (.tuple #[.agg (arrE (List.replicate 11 0)), .bool false])) ∧ Below w.heap.size w w'
theorem addAll_drop (m : Int) (rows : Nat → List Int) (es : List (List Int)) {i : Nat} {e : List Int} (h : es[i]? = some e) : Sys.addAll m rows (es.drop i) = match Sys.addS m 10 rows e with
    | none => none
    | some r => Sys.addAll m r (es.drop (i + 1)) := by
  obtain ⟨hi, he⟩ := List.getElem?_eq_some_iff.1 h
  rw [List.drop_eq_getElem_cons hi, he]
  rfl
theorem neg_mod_mod (l m : Int) : -(l % m) % m = -l % m := by
  rw [show -(l % m) = -l + m * (l / m) by have := Int.emod_add_mul_ediv l m; omega]
  exact Int.add_mul_emod_self_left _ _ _
/-- the next number is what the division gives -/
theorem pick_fact {m : Int} {rows : Nat → List Int} (h : ∀ j, 0 < j → j ≤ 10 → 0 ≤ Sys.grd m rows 10 j ∧ Sys.grd m rows 10 j < m ∧ Sys.Sat m (Sys.grd m rows 10) (rows j) ∧ (solM m (Ser.co (rows j) j) (Sys.want m (rows j) j (Sys.grd m rows 10))).2 = 0)
    {k : Nat} (h0 : 0 < k) (hk : k ≤ 10) :
    (solM m (Ser.co (rows k) k) (-(Sys.low (rows k) k (solX (solP (Sys.grd m rows 10) k)) % m) % m)).2 = 0 ∧ (solM m (Ser.co (rows k) k) (-(Sys.low (rows k) k (solX (solP (Sys.grd m rows 10) k)) % m) % m)).1 = Sys.grd m rows 10 k := by
  have e1 : Sys.low (rows k) k (solX (solP (Sys.grd m rows 10) k)) = Sys.low (rows k) k (Sys.grd m rows 10) := Sys.low_congr (fun i hi => by
    unfold solX
    by_cases hz : i = 0
    · rw [if_pos hz, hz, Sys.grd_zero]
    · rw [if_neg hz, solP_co (by omega), if_pos (by omega)])
  rw [e1, neg_mod_mod]
  refine ⟨(h k h0 hk).2.2.2, ?_⟩
  obtain ⟨q, rfl⟩ : ∃ q, k = q + 1 := ⟨k - 1, by omega⟩
  rw [Sys.grd_stable m rows (Nat.le_refl (q + 1)) 10 hk, Sys.grd_at]
  unfold Sys.pick Sys.want
  rw [Sys.low_congr (x := Sys.grd m rows 10) (y := Sys.grd m rows q) (fun i hi => Sys.grd_stable m rows (by omega) 10 (by omega))]
theorem least_end {g g2 : Nat} {cs : Array Value} {x : Bool} {w w9 : World} {tmps : Array Value} {X : Option (Nat → Int)} {u : FrameMode} (h1 : tmps[4]?.getD undef = .pointer (some ⟨g, 0, none⟩)) (h2 : tmps[5]?.getD undef = .pointer (some ⟨g2, 0, none⟩)) (hu : settle u = .returning)
    (h3 : (loadVar 137 ⟨g, 0, none⟩).run Tryz.prog w9 = .ok (.agg cs) w9) (h4 : (loadVar 4 ⟨g2, 0, none⟩).run Tryz.prog w9 = .ok (.bool x) w9) (hp : LeastPost X w (.returned (.tuple #[.agg cs, .bool x])) w9) :
    Leaves Tryz.prog Tryz.f155 tmps (LeastPost X w) [] (settle u) w9 := by
  rw [hu]
  simp [Leaves, results, Tryz.results155, asAddr, h1, h2, h3, h4]
  exact hp
set_option maxHeartbeats 16000000 in
set_option maxRecDepth 100000 in
theorem leastSolution_any (m : Int) (m1 : 2 ≤ m) (m2 : m ≤ 10000) (A : Option Addr) (c : Nat) (es : List (List Int)) (w : World) (hO : ∀ e ∈ es, Sys.Ok m e) (hA : EqsAt w A es) (hn : es.length ≤ 1000) :
    Calls Tryz.prog 155 #[.int .i64 m, .slice A es.length c] w (LeastPost (Sys.leastS m es) w) := by
  have hmf : ∀ (fn : Fn) (first cap : Array Value) (w : World), (Instr.makeFunc fn first cap).run Tryz.prog w = .ok (.func fn first cap) w := fun _ _ _ _ => rfl
  have hmm := @run_makeMap Tryz.prog
  obtain ⟨N, hN⟩ : ∃ N, es.length = N := ⟨_, rfl⟩
  have HN := Lib.hid hN
  have HOO := Lib.hid hO
  have HAA := Lib.hid hA
  have HLS : Hid (Sys.leastS m es = (Sys.addAll m Sys.none0 es).map fun r => Sys.grd m r 10) := Lib.hid rfl
  obtain ⟨R, hR⟩ : ∃ R, Sys.leastS m es = R := ⟨_, rfl⟩
  rw [hR] at HLS
  rw [hN, hR]
  rw [hN] at hn
  clear hO hA hN hR
  go_enter_defers Tryz.func155, Tryz.ntmps155
  go_upto_region 3 with fail
  obtain ⟨W, hW⟩ : ∃ W, (((w.alloc (.cells #[.int .i64 0, .int .i64 0, .int .i64 0, .int .i64 0, .int .i64 0, .int .i64 0, .int .i64 0, .int .i64 0, .int .i64 0, .int .i64 0, .int .i64 0] 137)).alloc (.cells #[.bool false] 4)).alloc (.map #[] 0)).alloc (.cells #[.int .i64 m, .map (some (w.heap.size + 1 + 1))] 153) = W := ⟨_, rfl⟩
  have hs1 : (w.alloc (.cells #[.int .i64 0, .int .i64 0, .int .i64 0, .int .i64 0, .int .i64 0, .int .i64 0, .int .i64 0, .int .i64 0, .int .i64 0, .int .i64 0, .int .i64 0] 137)).heap.size = w.heap.size + 1 := by simp
  have hs2 : ((w.alloc (.cells #[.int .i64 0, .int .i64 0, .int .i64 0, .int .i64 0, .int .i64 0, .int .i64 0, .int .i64 0, .int .i64 0, .int .i64 0, .int .i64 0, .int .i64 0] 137)).alloc (.cells #[.bool false] 4)).heap.size = w.heap.size + 1 + 1 := by simp
  have hs3 : (((w.alloc (.cells #[.int .i64 0, .int .i64 0, .int .i64 0, .int .i64 0, .int .i64 0, .int .i64 0, .int .i64 0, .int .i64 0, .int .i64 0, .int .i64 0, .int .i64 0] 137)).alloc (.cells #[.bool false] 4)).alloc (.map #[] 0)).heap.size = w.heap.size + 1 + 1 + 1 := by simp
  have v1 : VarC 137 W w.heap.size #[.int .i64 0, .int .i64 0, .int .i64 0, .int .i64 0, .int .i64 0, .int .i64 0, .int .i64 0, .int .i64 0, .int .i64 0, .int .i64 0, .int .i64 0] := by rw [← hW]; exact (((VarC.new _ _ _).keep (below_one _ _)).keep (below_one _ _)).keep (below_one _ _)
  have v2 : VarC 4 W (w.heap.size + 1) #[.bool false] := by
    have := ((VarC.new 4 (w.alloc (.cells #[.int .i64 0, .int .i64 0, .int .i64 0, .int .i64 0, .int .i64 0, .int .i64 0, .int .i64 0, .int .i64 0, .int .i64 0, .int .i64 0, .int .i64 0] 137)) #[.bool false]).keep (below_one _ (.map #[] 0))).keep (below_one _ (.cells #[.int .i64 m, .map (some (w.heap.size + 1 + 1))] 153))
    rw [hs1, hW] at this
    exact this
  have v3 : OwnM W (w.heap.size + 1 + 1) 0 (.map []) := by
    have := (World.ownsMap_made ((w.alloc (.cells #[.int .i64 0, .int .i64 0, .int .i64 0, .int .i64 0, .int .i64 0, .int .i64 0, .int .i64 0, .int .i64 0, .int .i64 0, .int .i64 0, .int .i64 0] 137)).alloc (.cells #[.bool false] 4)) Tryz.prog 2 rdE).alloc (.cells #[.int .i64 m, .map (some (w.heap.size + 1 + 1))] 153)
    rw [hs2, hW] at this
    exact this
  have v4 : VarC 153 W (w.heap.size + 1 + 1 + 1) #[.int .i64 m, .map (some (w.heap.size + 1 + 1))] := by
    have := VarC.new 153 (((w.alloc (.cells #[.int .i64 0, .int .i64 0, .int .i64 0, .int .i64 0, .int .i64 0, .int .i64 0, .int .i64 0, .int .i64 0, .int .i64 0, .int .i64 0, .int .i64 0] 137)).alloc (.cells #[.bool false] 4)).alloc (.map #[] 0)) #[.int .i64 m, .map (some (w.heap.size + 1 + 1))]
    rw [hs3, hW] at this
    exact this
  have HBW := Lib.hid (show Below w.heap.size w W by rw [← hW]; exact below_alloc _ (below_alloc _ (below_alloc _ (below_one _ _))))
  have HW := Lib.hid hW
  have V1 := Lib.hid v1
  have V2 := Lib.hid v2
  have V3 := Lib.hid v3
  have V4 := Lib.hid v4
  rw [HW.out]
  clear v1 v2 v3 v4 hW hs1 hs2 hs3 hmm HW
  go_wp2
  go_loopw [17] (fun s17 wr => ∃ (i n : Nat) (rows : Nat → List Int) (D : DataW Unit), i ≤ N ∧ s17 = .int .i64 i ∧ Sys.Tri m rows ∧ (∀ k, 0 < k → k ≤ 10 → Sys.Clo m rows k) ∧ Sys.addAll m Sys.none0 es = Sys.addAll m rows (es.drop i) ∧ n ≤ 1023 * i ∧ OwnM wr (w.heap.size + 1 + 1) n D ∧ MapRows D rows ∧ VarC 137 wr w.heap.size #[.int .i64 0, .int .i64 0, .int .i64 0, .int .i64 0, .int .i64 0, .int .i64 0, .int .i64 0, .int .i64 0, .int .i64 0, .int .i64 0, .int .i64 0] ∧ VarC 4 wr (w.heap.size + 1) #[.bool false] ∧ VarC 153 wr (w.heap.size + 1 + 1 + 1) #[.int .i64 m, .map (some (w.heap.size + 1 + 1))] ∧ Below w.heap.size w wr) (fun s17 _ => N - (intOf s17).toNat)
  case atStart => exact ⟨0, 0, Sys.none0, .map [], Nat.zero_le _, rfl, Sys.tri0 (by omega), fun k _ _ => Sys.clo0 m k, rfl, Nat.zero_le _, V3.out, MapRows.empty, V1.out, V2.out, V4.out, HBW.out⟩
  case round =>
    clear V1 V2 V3 V4 HBW
    obtain ⟨i, n, rows, D, hi, rfl, hT, hC, hE, hnn, hM, hD, u1, u2, u4, hB⟩ := hrel
    have HT := Lib.hid hT
    have HCL := Lib.hid hC
    have HE := Lib.hid hE
    have HNN := Lib.hid hnn
    have HM := Lib.hid hM
    have HD := Lib.hid hD
    have U1 := Lib.hid u1
    have U2 := Lib.hid u2
    have U4 := Lib.hid u4
    have HB := Lib.hid hB
    clear hT hC hE hnn hM hD u1 u2 u4 hB
    by_cases hlt : i < N
    · have i1 : (0 : Int) ≤ (i : Int) := by omega
      have i2 : (i : Int) < (N : Int) := by omega
      obtain ⟨e, he⟩ : ∃ e, es[i]? = some e := ⟨_, List.getElem?_eq_getElem (by rw [HN.out]; exact hlt)⟩
      have hok := HOO.out e (List.mem_of_getElem? he)
      obtain ⟨b, off, rfl, hbl, hcell⟩ := (HAA.out.below HB.out (Nat.le_refl _)) (by intro h; rw [h] at he; cases he)
      have hrg := hcell i e he
      have hdr := addAll_drop m rows es he
      have hadd := Sys.addS_ok m1 m2 10 rows e HT.out hok (Sys.lastF_le e 10) (Nat.le_refl _)
      have HRG := Lib.hid hrg
      have HOK := Lib.hid hok
      have HDR := Lib.hid (HE.out.trans hdr)
      have HAD := Lib.hid hadd
      have hse : (arrE e).size = 11 := by rw [arrE_size, hok.len]
      have HSE := Lib.hid hse
      have HSL := Lib.hid (show (e.map (Value.int .i64)).length = 11 by rw [List.length_map, hok.len])
      have HO1 := Lib.hid (arrE_one e)
      have HTEN := Lib.hid (fun W0 (h : OwnM W0 (w.heap.size + 1 + 1) n D) => add_ten m m1 m2 (w.heap.size + 1 + 1) rows e n D W0 HT.out hok (by have := HNN.out; omega) h HD.out)
      clear hcell hrg hdr hadd he hok hse
      obtain ⟨w2, hw2⟩ : ∃ w2, (wr.alloc (.cells #[.int .i64 0, .int .i64 0, .int .i64 0, .int .i64 0, .int .i64 0, .int .i64 0, .int .i64 0, .int .i64 0, .int .i64 0, .int .i64 0, .int .i64 0] 137)).setRow wr.heap.size (arrE e) = w2 := ⟨_, rfl⟩
      have hw3 := hw2
      rw [World.setRow_alloc_new] at hw3
      have e8 : VarC 137 w2 wr.heap.size (arrE e) := by rw [← hw3]; exact VarC.new _ _ _
      have hb2 : Below wr.heap.size wr w2 := by rw [← hw3]; exact below_one _ _
      have hM2 : OwnM w2 (w.heap.size + 1 + 1) n D := by rw [← hw3]; exact HM.out.alloc _
      have y1 := (U4.out.keep hb2).cell 0 _ rfl
      have y2 := (U4.out.keep hb2).cell 1 _ rfl
      have K1 := Lib.hid (U1.out.keep hb2)
      have K2 := Lib.hid (U2.out.keep hb2)
      have K4 := Lib.hid (U4.out.keep hb2)
      have HB2 := Lib.hid (below_step HB.out hb2)
      have HTN := Lib.hid (HTEN.out w2 hM2)
      have HWs : Hid (w.heap.size + 1 + 1 + 1 < wr.heap.size) := Lib.hid U4.out.lt
      have HW2 := Lib.hid hw2
      rw [← hw2] at y1 y2 e8
      have E8 := Lib.hid e8
      clear e8 hb2 hM2 hw2 hw3 HTEN HM U1 U2 U4 HB
      go_upto_region 5 with fail
      go_wp2_with (first
        | (refine wpList_load_mid rfl _ _ rfl b (off + i * 11) rfl (e.map (Value.int .i64)) _ HRG.out Tryz.underlying137 rfl (by rw [HSL.out]; exact info_eqn) ?_)
        | (refine wpL_storeE rfl _ _ rfl _ #[.int .i64 0, .int .i64 0, .int .i64 0, .int .i64 0, .int .i64 0, .int .i64 0, .int .i64 0, .int .i64 0, .int .i64 0, .int .i64 0, .int .i64 0] (arrE e) _ rfl rfl (VarC.new 137 wr #[.int .i64 0, .int .i64 0, .int .i64 0, .int .i64 0, .int .i64 0, .int .i64 0, .int .i64 0, .int .i64 0, .int .i64 0, .int .i64 0, .int .i64 0]) rfl HSE.out HO1.out ?_)
        | (refine wpL_loadE rfl _ rfl _ (arrE e) _ rfl E8.out HSE.out ?_))
      rw [HW2.out]
      clear y1 y2 E8
      cases hA : Sys.addS m 10 rows e with
      | none =>
        have hd := HDR.out
        rw [hA] at hd
        dsimp only at hd
        have hl := HLS.out
        rw [hd] at hl
        have HRN : Hid (R = none) := Lib.hid hl
        have ht := HTN.out
        rw [hA] at ht
        have HT0 := Lib.hid ht
        clear hd hl ht hA
        refine HT0.out.mono ?_
        rintro q w3 ⟨⟨s, rfl⟩, hg3⟩
        have z1 := K1.out.other hg3 (by intro h; injection h; omega)
        have z2 := K2.out.other hg3 (by intro h; injection h; omega)
        have hb3 : Below w.heap.size w w3 := HB2.out.grown hg3 HB2.out.size (fun k h => by injection h; omega)
        have Z1 := Lib.hid z1
        have Z2 := Lib.hid z2
        have HB3 := Lib.hid hb3
        clear z1 z2 hb3 hg3
        go_wp2
        refine leaves_cons (f := 165) (args := #[.pointer (some ⟨w.heap.size, 0, none⟩), .pointer (some ⟨w.heap.size + 1, 0, none⟩)]) (by simp) (by simp [go_sem]) ?_
        refine (catch_panicking w.heap.size (w.heap.size + 1) #[.int .i64 0, .int .i64 0, .int .i64 0, .int .i64 0, .int .i64 0, .int .i64 0, .int .i64 0, .int .i64 0, .int .i64 0, .int .i64 0, .int .i64 0] (.bool false) 9 _ [] w3 Z1.out rfl Z2.out (by omega)).mono ?_
        rintro q u' w4 ⟨rfl, rfl, rfl⟩
        have y1 := ((Z1.out.setRow (cs' := #[.int .i64 0, .int .i64 0, .int .i64 0, .int .i64 0, .int .i64 0, .int .i64 0, .int .i64 0, .int .i64 0, .int .i64 0, .int .i64 0, .int .i64 0])).far (w.heap.size + 1) 0 (.bool false) (by omega)).varE rfl
        have y2 := ((Z2.out.setRow_ne (cs' := #[.int .i64 0, .int .i64 0, .int .i64 0, .int .i64 0, .int .i64 0, .int .i64 0, .int .i64 0, .int .i64 0, .int .i64 0, .int .i64 0, .int .i64 0]) (show w.heap.size + 1 ≠ w.heap.size by omega)).set 0 (.bool false)).cell 0 _ rfl
        have hfin := (below_setRow HB3.out (Nat.le_refl _) #[.int .i64 0, .int .i64 0, .int .i64 0, .int .i64 0, .int .i64 0, .int .i64 0, .int .i64 0, .int .i64 0, .int .i64 0, .int .i64 0, .int .i64 0]).setCell (p := ⟨w.heap.size + 1, 0, none⟩) (show w.heap.size ≤ w.heap.size + 1 by omega) (.bool false)
        rw [HRN.out]
        obtain ⟨w9, hw9⟩ : ∃ w9, (w3.setRow w.heap.size #[.int .i64 0, .int .i64 0, .int .i64 0, .int .i64 0, .int .i64 0, .int .i64 0, .int .i64 0, .int .i64 0, .int .i64 0, .int .i64 0, .int .i64 0]).setCell ⟨w.heap.size + 1, 0, none⟩ (.bool false) = w9 := ⟨_, rfl⟩
        rw [hw9] at y1 y2 hfin ⊢
        have y3 : (loadVar 4 ⟨w.heap.size + 1, 0, none⟩).run Tryz.prog w9 = .ok (.bool false) w9 := by simp [go_sem, y2]
        exact least_end (X := none) (by simp) (by simp) (by simp [settle]) y1 y3 ⟨rfl, hfin⟩
      | some r2 =>
        have hd := HDR.out
        rw [hA] at hd
        dsimp only at hd
        have ht := HTN.out
        rw [hA] at ht
        have HT0 := Lib.hid ht
        have HDD := Lib.hid hd
        have HAO := Lib.hid (HAD.out.1 r2 hA)
        clear hd ht hA
        refine HT0.out.mono ?_
        rintro q w3 ⟨rfl, ⟨D3, hM3, hD3⟩, hg3⟩
        have Z1 := Lib.hid (K1.out.other hg3 (by intro h; injection h; omega))
        have Z2 := Lib.hid (K2.out.other hg3 (by intro h; injection h; omega))
        have Z4 := Lib.hid (K4.out.other hg3 (by intro h; injection h; omega))
        have HB3 : Hid (Below w.heap.size w w3) := Lib.hid (HB2.out.grown hg3 HB2.out.size (fun k h => by injection h; omega))
        have HM3 := Lib.hid hM3
        have HD3 := Lib.hid hD3
        clear hM3 hD3 hg3
        go_wp2
        go_roundw
        case rel => first
          | exact ⟨i + 1, n + 1023, r2, D3, hlt, by go_num, HAO.out.tri, HAO.out.clo HCL.out, HDD.out, by have := HNN.out; omega, HM3.out, HD3.out, Z1.out, Z2.out, Z4.out, HB3.out⟩
          | ((repeat apply Exists.intro); exact ⟨⟨i + 1, n + 1023, r2, D3, hlt, by go_num, HAO.out.tri, HAO.out.clo HCL.out, HDD.out, by have := HNN.out; omega, HM3.out, HD3.out, Z1.out, Z2.out, Z4.out, HB3.out⟩, rfl⟩)
        case measure => simp only [intOf]; omega
    · obtain rfl : i = N := by omega
      have i2 : ¬ ((i : Int) < (i : Int)) := by omega
      have hE := HE.out
      rw [List.drop_of_length_le (by rw [HN.out]; exact Nat.le_refl _)] at hE
      have hl := HLS.out
      rw [hE] at hl
      have HRS : Hid (R = some (Sys.grd m rows 10)) := Lib.hid hl
      have HGO := Lib.hid (Sys.grd_ok m1 m2 HT.out HCL.out)
      obtain ⟨X, hX⟩ : ∃ X, Sys.grd m rows 10 = X := ⟨_, rfl⟩
      rw [hX] at HRS
      have HX := Lib.hid hX
      have u1 := U1.out
      rw [show (#[.int .i64 0, .int .i64 0, .int .i64 0, .int .i64 0, .int .i64 0, .int .i64 0, .int .i64 0, .int .i64 0, .int .i64 0, .int .i64 0, .int .i64 0] : Array Value) = arrE (solP X 1) by rw [solP_zero]; rfl] at u1
      have UU := Lib.hid u1
      clear hE hl hX u1 U1 HE HLS hlt
      go_wp2
      go_loopw [9] (fun s9 wq => ∃ k : Nat, 1 ≤ k ∧ k ≤ 11 ∧ s9 = .int .i64 k ∧ OwnM wq (w.heap.size + 1 + 1) n D ∧ VarC 137 wq w.heap.size (arrE (solP X k)) ∧ VarC 4 wq (w.heap.size + 1) #[.bool false] ∧ VarC 153 wq (w.heap.size + 1 + 1 + 1) #[.int .i64 m, .map (some (w.heap.size + 1 + 1))] ∧ Below w.heap.size w wq) (fun s9 _ => 12 - (intOf s9).toNat)
      case atStart => exact ⟨1, Nat.le_refl _, by omega, rfl, HM.out, UU.out, U2.out, U4.out, HB.out⟩
      case round =>
        clear UU U2 U4 HB HM
        obtain ⟨k, k1, k11, rfl, hM, v1, v2, v4, hB⟩ := hrel
        by_cases hk : k ≤ 10
        · have hX := HX.out
          have hpf := pick_fact (HGO.out 10 (Nat.le_refl _)) (k := k) (by omega) hk
          have hgo := HGO.out 10 (Nat.le_refl _)
          rw [hX] at hpf hgo
          have hstep := solP_step X (k := k) (by omega) hk
          have hok := HT.out.ok k
          have hbs : ∀ i, -10000 ≤ Ser.co (solP X k) i ∧ Ser.co (solP X k) i ≤ 10000 := fun i => by
            by_cases hi : i ≤ 10
            · rw [solP_co hi]
              by_cases hc : 0 < i ∧ i < k
              · rw [if_pos hc]; have := hgo i hc.1 hi; omega
              · rw [if_neg hc]; omega
            · rw [Ser.co_over (by rw [solP_len]; omega)]; omega
          have HVB := Lib.hid (fun W0 => valueBefore_any m (rows k) (solP X k) k W0 m1 m2 k1 hk hok.len (solP_len X k) (hok.bd m2) hbs)
          obtain ⟨V, hV⟩ : ∃ V, Sys.low (rows k) k (solX (solP X k)) % m = V := ⟨_, rfl⟩
          have hVb : 0 ≤ V ∧ V < m := by rw [← hV]; exact ⟨Int.emod_nonneg _ (by omega), Int.emod_lt_of_pos _ (by omega)⟩
          rw [hV] at HVB hpf
          have HRM := Lib.hid (fun W0 => remainder_any m (-V) W0 (by omega) m2 (by omega) (by omega))
          obtain ⟨T, hTT⟩ : ∃ T, -V % m = T := ⟨_, rfl⟩
          rw [hTT] at HRM hpf
          have hcr := (show (arrE (rows k))[k]? = some (.int .i64 (Ser.co (rows k) k)) from arrE_at (by rw [hok.len]; omega))
          obtain ⟨C, hC⟩ : ∃ C, Ser.co (rows k) k = C := ⟨_, rfl⟩
          rw [hC] at hpf hcr
          have HQT := Lib.hid (fun W0 => by have := quot_yes m T C W0 hpf.1; rw [hpf.2] at this; exact this)
          have hlk := OwnM.look hM HD.out (k := k) (by omega) hk
          have hs1 : (arrE (rows k)).size = 11 := by rw [arrE_size, hok.len]
          have hs2 : (arrE (solP X k)).size = 11 := by rw [arrE_size, solP_len]
          have ho1 := arrE_one (rows k)
          obtain ⟨cr, hcr2⟩ : ∃ c, arrE (rows k) = c := ⟨_, rfl⟩
          obtain ⟨cs, hcs2⟩ : ∃ c, arrE (solP X k) = c := ⟨_, rfl⟩
          rw [hcr2] at hcr hlk hs1 ho1
          rw [hcr2, hcs2] at HVB
          have v1' := v1
          rw [hcs2] at hs2 v1'
          have n1 : IntKind.i64.wrap (-V) = -V := by rw [IntKind.wrap_i64]; omega
          obtain ⟨Xk, hXk⟩ : ∃ Y, X k = Y := ⟨_, rfl⟩
          rw [hXk] at HQT hstep
          have y1 := v4.cell 0 _ rfl
          have y2 := v4.cell 1 _ rfl
          obtain ⟨w5, hw5⟩ : ∃ w5, (wr.alloc (.cells #[.int .i64 0, .int .i64 0, .int .i64 0, .int .i64 0, .int .i64 0, .int .i64 0, .int .i64 0, .int .i64 0, .int .i64 0, .int .i64 0, .int .i64 0] 137)).setRow wr.heap.size cr = w5 := ⟨_, rfl⟩
          have hw6 := hw5
          rw [World.setRow_alloc_new] at hw6
          have e10 : VarC 137 w5 wr.heap.size cr := by rw [← hw6]; exact VarC.new _ _ _
          have hb5 : Below wr.heap.size wr w5 := by rw [← hw6]; exact below_one _ _
          have hlt1 : w.heap.size + 1 + 1 + 1 < wr.heap.size := v4.lt
          have HS0 : Hid ((VarC 137 w5.drew wr.heap.size cr ∧ VarC 137 w5.drew w.heap.size cs) ∧ w5.drew.cell? ⟨wr.heap.size, k, none⟩ = some (.int .i64 C)) := Lib.hid ⟨⟨e10.drew, (v1'.keep hb5).drew⟩, e10.drew.cell k _ hcr⟩
          have HSK : Hid (∀ w', Below w5.heap.size w5 w' → (VarC 137 w' wr.heap.size cr ∧ VarC 137 w' w.heap.size cs) ∧ w'.cell? ⟨wr.heap.size, k, none⟩ = some (.int .i64 C)) := Lib.hid (fun w' h => ⟨⟨e10.keep h, (v1'.keep hb5).keep h⟩, (e10.keep h).cell k _ hcr⟩)
          have HFIN : Hid (∀ w', Below w5.heap.size w5 w' → VarC 137 (w'.setCell ⟨w.heap.size, k, none⟩ (.int .i64 Xk)) w.heap.size (arrE (solP X (k + 1))) ∧ VarC 4 (w'.setCell ⟨w.heap.size, k, none⟩ (.int .i64 Xk)) (w.heap.size + 1) #[.bool false] ∧ VarC 153 (w'.setCell ⟨w.heap.size, k, none⟩ (.int .i64 Xk)) (w.heap.size + 1 + 1 + 1) #[.int .i64 m, .map (some (w.heap.size + 1 + 1))] ∧ OwnM (w'.setCell ⟨w.heap.size, k, none⟩ (.int .i64 Xk)) (w.heap.size + 1 + 1) n D ∧ Below w.heap.size w (w'.setCell ⟨w.heap.size, k, none⟩ (.int .i64 Xk)) ∧ (w'.cell? ⟨w.heap.size, k, none⟩).isSome = true ∧ w'.frozen? ⟨w.heap.size, k, none⟩ = false) := Lib.hid (fun w' h => by
            have hb := below_step hb5 h
            refine ⟨?_, (v2.keep hb).far _ _ _ (by omega), (v4.keep hb).far _ _ _ (by omega), World.ownsMap.kept (World.ownsMap.kept hM (grown_of_below hb none) (by simp)) (grown_setCell _ _ _ _) (by intro e; injection e; omega), (below_step hB hb).setCell (Nat.le_refl _) _, ?_, (v1.keep hb).fz k⟩
            · have := (v1.keep hb).set k (.int .i64 Xk)
              rw [arrE_set, hstep] at this
              exact this
            · rw [(v1.keep hb).cell k _ (arrE_at (by rw [solP_len]; omega))]; rfl)
          have HW5 := Lib.hid hw5
          have Z1 := Lib.hid hs1
          have Z2 := Lib.hid hs2
          have O1 := Lib.hid ho1
          have i3 : (k : Int) ≤ 10 := by omega
          have i4 : (0 : Int) ≤ (k : Int) := by omega
          have i5 : (k : Int) < 11 := by omega
          clear hX hpf hgo hstep hok hbs hV hTT hcr hC hcr2 hcs2 hXk e10 hb5 v1 v1' v2 v4 hM hB hs1 hs2 ho1 hw5 hw6
          go_upto_region 11 with fail
          go_wp2_with (refine wpL_storeE rfl _ _ rfl _ #[.int .i64 0, .int .i64 0, .int .i64 0, .int .i64 0, .int .i64 0, .int .i64 0, .int .i64 0, .int .i64 0, .int .i64 0, .int .i64 0, .int .i64 0] cr _ rfl rfl (VarC.new 137 wr #[.int .i64 0, .int .i64 0, .int .i64 0, .int .i64 0, .int .i64 0, .int .i64 0, .int .i64 0, .int .i64 0, .int .i64 0, .int .i64 0, .int .i64 0]) rfl Z1.out O1.out ?_)
          rw [HW5.out]
          try simp only [Act.put]
          clear hlk y1 y2
          refine wp_region_noPanic ?_
          refine region_tilN (fun w' => (VarC 137 w' wr.heap.size cr ∧ VarC 137 w' w.heap.size cs) ∧ w'.cell? ⟨wr.heap.size, k, none⟩ = some (.int .i64 C)) 15 (by kernel_rfl) ?_
          refine tilN_take (i := 0) (dst := some 33) (.int .i64 k) rfl rfl (by kernel_rfl) (by kernel_rfl) (by kernel_rfl) (by kernel_rfl) (fun _ _ _ h => h) (Or.inl ⟨by rfl, ?_⟩) HS0.out ?_
          · rintro w' ⟨⟨h1, h2⟩, h3⟩
            go_simp
          simp only [Act.put, List.setIfInBounds_toArray, List.set_cons_zero, List.set_cons_succ]
          refine tilN_take (i := 1) (dst := some 34) (.int .i64 m) rfl rfl (by kernel_rfl) (by kernel_rfl) (by kernel_rfl) (by kernel_rfl) (fun _ _ _ h => h) (Or.inl ⟨by rfl, ?_⟩) HS0.out ?_
          · rintro w' ⟨⟨h1, h2⟩, h3⟩
            go_simp
          simp only [Act.put, List.setIfInBounds_toArray, List.set_cons_zero, List.set_cons_succ]
          refine tilN_take (i := 2) (dst := some 35) (.int .i64 m) rfl rfl (by kernel_rfl) (by kernel_rfl) (by kernel_rfl) (by kernel_rfl) (fun _ _ _ h => h) (Or.inl ⟨by rfl, ?_⟩) HS0.out ?_
          · rintro w' ⟨⟨h1, h2⟩, h3⟩
            go_simp
          simp only [Act.put, List.setIfInBounds_toArray, List.set_cons_zero, List.set_cons_succ]
          refine tilN_take (i := 3) (dst := some 36) (.agg cr) rfl rfl (by kernel_rfl) (by kernel_rfl) (by kernel_rfl) (by kernel_rfl) (fun _ _ _ h => h) (yieldsE (by rfl) _ rfl _ cr _ rfl (fun w' h => h.1.1) Z1.out) HS0.out ?_
          simp only [Act.put, List.setIfInBounds_toArray, List.set_cons_zero, List.set_cons_succ]
          refine tilN_take (i := 4) (dst := some 37) (.int .i64 m) rfl rfl (by kernel_rfl) (by kernel_rfl) (by kernel_rfl) (by kernel_rfl) (fun _ _ _ h => h) (Or.inl ⟨by rfl, ?_⟩) HS0.out ?_
          · rintro w' ⟨⟨h1, h2⟩, h3⟩
            go_simp
          simp only [Act.put, List.setIfInBounds_toArray, List.set_cons_zero, List.set_cons_succ]
          refine tilN_take (i := 5) (dst := some 38) (.agg cs) rfl rfl (by kernel_rfl) (by kernel_rfl) (by kernel_rfl) (by kernel_rfl) (fun _ _ _ h => h) (yieldsE (by rfl) _ rfl _ cs _ rfl (fun w' h => h.1.2) Z2.out) HS0.out ?_
          simp only [Act.put, List.setIfInBounds_toArray, List.set_cons_zero, List.set_cons_succ]
          refine tilN_take (i := 6) (dst := some 39) (.int .i64 k) rfl rfl (by kernel_rfl) (by kernel_rfl) (by kernel_rfl) (by kernel_rfl) (fun _ _ _ h => h) (Or.inl ⟨by rfl, ?_⟩) HS0.out ?_
          · rintro w' ⟨⟨h1, h2⟩, h3⟩
            go_simp
          simp only [Act.put, List.setIfInBounds_toArray, List.set_cons_zero, List.set_cons_succ]
          refine tilN_take (i := 10) (dst := some 43) (.int .i64 k) rfl rfl (by kernel_rfl) (by kernel_rfl) (by kernel_rfl) (by kernel_rfl) (fun _ _ _ h => h) (Or.inl ⟨by rfl, ?_⟩) HS0.out ?_
          · rintro w' ⟨⟨h1, h2⟩, h3⟩
            go_simp
          simp only [Act.put, List.setIfInBounds_toArray, List.set_cons_zero, List.set_cons_succ]
          refine tilN_take (i := 11) (dst := some 44) (.pointer (some ⟨wr.heap.size, k, none⟩)) rfl rfl (by kernel_rfl) (by kernel_rfl) (by kernel_rfl) (by kernel_rfl) (fun _ _ _ h => h) (Or.inl ⟨by rfl, ?_⟩) HS0.out ?_
          · rintro w' ⟨⟨h1, h2⟩, h3⟩
            go_simp
          simp only [Act.put, List.setIfInBounds_toArray, List.set_cons_zero, List.set_cons_succ]
          refine tilN_take (i := 12) (dst := some 45) (.int .i64 C) rfl rfl (by kernel_rfl) (by kernel_rfl) (by kernel_rfl) (by kernel_rfl) (fun _ _ _ h => h) (Or.inl ⟨by rfl, ?_⟩) HS0.out ?_
          · rintro w' ⟨⟨h1, h2⟩, h3⟩
            go_simp
          simp only [Act.put, List.setIfInBounds_toArray, List.set_cons_zero, List.set_cons_succ]
          refine tilN_one (i := 7) (by kernel_rfl) rfl (fun K hK => ?_)
          go_simp
          (go_at_call 168; with_reducible refine Calls.mono (HVB.out _) ?_; rintro e w6 ⟨rfl, hb6⟩; have b6 := below_step (below_drew0 w5) hb6)
          dsimp only
          refine hK.out _ _ (fun _ => HSK.out _ b6) ?_
          clear hK K
          try simp only [Act.put, List.setIfInBounds_toArray, List.set_cons_zero, List.set_cons_succ]
          refine tilN_take (i := 8) (dst := some 41) (.int .i64 (-V)) rfl rfl (by kernel_rfl) (by kernel_rfl) (by kernel_rfl) (by kernel_rfl) (fun _ _ _ h => h) (Or.inl ⟨by rfl, ?_⟩) (HSK.out _ b6) ?_
          · rintro w' ⟨⟨h1, h2⟩, h3⟩
            go_simp
          simp only [Act.put, List.setIfInBounds_toArray, List.set_cons_zero, List.set_cons_succ]
          refine tilN_one (i := 9) (by kernel_rfl) rfl (fun K hK => ?_)
          go_simp
          (go_at_call 142; with_reducible refine Calls.mono (HRM.out _) ?_; rintro e w7 ⟨rfl, rfl⟩)
          dsimp only
          refine hK.out _ _ (fun _ => HSK.out _ b6) ?_
          clear hK K
          try simp only [Act.put, List.setIfInBounds_toArray, List.set_cons_zero, List.set_cons_succ]
          refine tilN_one (i := 13) (by kernel_rfl) rfl (fun K hK => ?_)
          go_simp
          (go_at_call 167; with_reducible refine Calls.mono (HQT.out _) ?_; rintro e w8 ⟨rfl, hb8⟩; have b8 := below_step b6 hb8)
          dsimp only
          refine hK.out _ _ (fun _ => HSK.out _ b8) ?_
          clear hK K
          try simp only [Act.put, List.setIfInBounds_toArray, List.set_cons_zero, List.set_cons_succ]
          have hf := HFIN.out _ b8
          obtain ⟨f1, f2, f3, f4, f5, f6, f7⟩ := hf
          obtain ⟨old, f6⟩ := Option.isSome_iff_exists.1 f6
          have F1 := Lib.hid f1
          have F2 := Lib.hid f2
          have F3 := Lib.hid f3
          have F4 := Lib.hid f4
          have F5 := Lib.hid f5
          clear f1 f2 f3 f4 f5
          refine tilN_one (i := 14) (by kernel_rfl) rfl (fun K hK => ?_)
          go_simp
          try dsimp only
          refine hK.out _ _ (fun _ => (HSK.out _ b8)) ?_
          clear hK K
          try simp only [Act.put, List.setIfInBounds_toArray, List.set_cons_zero, List.set_cons_succ]
          clear b6 b8 hb6 hb8
          refine tilN_one (i := 15) (by kernel_rfl) rfl (fun K hK => ?_)
          go_simp
          refine hK.out _ _ (fun hlt => absurd hlt (by decide)) ?_
          clear hK K
          refine tilN_done (by kernel_rfl) ?_
          refine NoPanic.normal ?_
          go_wp2
          exact ⟨⟨k + 1, by omega, by omega, by go_num, F4.out, F1.out, F2.out, F3.out, F5.out⟩, by simp only [intOf]; omega⟩
        · obtain rfl : k = 11 := by omega
          have i3 : ¬ ((11 : Nat) : Int) ≤ 10 := by omega
          obtain ⟨cs, hcs⟩ : ∃ c, arrE (solP X 11) = c := ⟨_, rfl⟩
          have hs1 : cs.size = 11 := by rw [← hcs, arrE_size, solP_len]
          have ho1 : (cs.all fun x => x.oneCell') = true := by rw [← hcs]; exact arrE_one _
          rw [hcs] at v1
          have hv1 := v1
          have V1 := Lib.hid v1
          have V2 := Lib.hid v2
          have Z1 := Lib.hid hs1
          have O1 := Lib.hid ho1
          have HB := Lib.hid hB
          have HCS := Lib.hid hcs
          have y1 := ((v2.setRow_ne (cs' := cs) (show w.heap.size + 1 ≠ w.heap.size by omega))).cell 0 _ rfl
          have y2 := ((v2.setRow_ne (cs' := cs) (show w.heap.size + 1 ≠ w.heap.size by omega))).fz 0
          clear hM v1 v2 v4 hB hs1 ho1 hcs hv1
          go_upto_region 13 with fail
          go_wp2_with (first
            | (refine wpL_loadE rfl _ rfl _ cs _ rfl V1.out Z1.out ?_)
            | (refine wpL_storeE rfl _ _ rfl _ cs cs _ rfl rfl V1.out Z1.out Z1.out O1.out ?_))
          go_wp2
          refine leaves_cons (f := 165) (args := #[.pointer (some ⟨w.heap.size, 0, none⟩), .pointer (some ⟨w.heap.size + 1, 0, none⟩)]) (by simp) (by simp [go_sem]) ?_
          refine (catch_idle w.heap.size (w.heap.size + 1) _).mono ?_
          rintro q u' w4 ⟨rfl, rfl, rfl⟩
          have q1 := ((V1.out.setRow (cs' := cs)).far (w.heap.size + 1) 0 (.bool true) (by omega)).varE Z1.out
          have q2 := ((V2.out.setRow_ne (cs' := cs) (show w.heap.size + 1 ≠ w.heap.size by omega)).set 0 (.bool true)).cell 0 _ rfl
          have hfin := (below_setRow HB.out (Nat.le_refl _) cs).setCell (p := ⟨w.heap.size + 1, 0, none⟩) (show w.heap.size ≤ w.heap.size + 1 by omega) (.bool true)
          rw [HRS.out]
          obtain ⟨w9, hw9⟩ : ∃ w9, (wr.setRow w.heap.size cs).setCell ⟨w.heap.size + 1, 0, none⟩ (.bool true) = w9 := ⟨_, rfl⟩
          rw [hw9] at q1 q2 hfin ⊢
          have y3 : (loadVar 4 ⟨w.heap.size + 1, 0, none⟩).run Tryz.prog w9 = .ok (.bool true) w9 := by simp [go_sem, q2]
          exact least_end (X := some X) (by simp) (by simp) (by simp [settle]) q1 y3 ⟨by rw [← HCS.out]; rfl, hfin⟩
end Go.Proofs.YtfhdgcndiljjcabGreat

