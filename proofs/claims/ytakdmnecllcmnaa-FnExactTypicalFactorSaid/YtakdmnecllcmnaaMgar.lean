/- Texts of contracts, joined. -/
import Derived.Test.YtakdmnecllcmnaaMgaq
import Derived.OrdersHeld
import Derived.Deep.RegionHeld3
import Derived.Deep.DrawnRows
import Derived.Test.YtakdmnecllcmnaaMgal
import Derived.Test.YtakdmnecllcmnaaMgaa
import Derived.Deep.MidRow
import Derived.Deep.WholeRow
import Derived.Laws.CopyOwn
import Derived.Test.YtakdmnecllcmnaaMgan
import Derived.Deep.QuietTactic
import Derived.BigQuiet
import Derived.WalkLawsBesides
import Derived.Test.YtakdmnecllcmnaaMgac
import Derived.Maps.Own
import Derived.Maps.Views
import Derived.Test.YtakdmnecllcmnaaMgaf
import Derived.Tactics2
import Derived.Defers
import Derived.Recover
import Derived.Laws.Pointers
import Derived.Test.YtakdmnecllcmnaaMgam
import Derived.Test.YtakdmnecllcmnaaMgai
import Derived.Test.YtakdmnecllcmnaaMgab
/- Plain: the gap of the model's typical laws of which the last needed parameter differs. -/
namespace Go.Proofs.Ytakdmnecllcmnaa
open Go.RowKit

theorem pow_pred {p N : Nat} (h : 1 ≤ N) : p ^ (N - 1) * p = p ^ N := by
  rw [← Nat.pow_succ]; congr 1; omega
theorem emod_down {m M x y : Int} (h : x % M = y % M) (hd : m ∣ M) : x % m = y % m := by
  rw [← Int.emod_emod_of_dvd x hd, h, Int.emod_emod_of_dvd y hd]
theorem law_gap {p N : Nat} {m c : Int} {v v' : Nat → Int} (hp : p = 2 ∨ p = 3 ∨ p = 5 ∨ p = 7) (m1 : 2 ≤ m) (m2 : m ≤ 10000) (hN : 1 ≤ N) (hD : p ^ N ≤ 10)
    (hv : ∀ i, i < N - 1 → v i = v' i) (hc : (v' (N - 1) - v (N - 1)) % m = c % m) :
    ∀ i, i ≤ p ^ N → Ser.co (layC m (gapT m (p ^ N) (lawT p m (p ^ N) v) (lawT p m (p ^ N) v')) (p ^ N)) i % m = (-c * layF (p ^ N) i) % m := by
  intro i hi
  have hN3 : N ≤ 3 := pow_lt11 hp (Nat.le_refl 10) hD
  have hD2 : 2 ≤ p ^ N := by
    have : p ^ 1 ≤ p ^ N := Nat.pow_le_pow_right (by omega) hN
    rw [Nat.pow_one] at this; omega
  have hbin := fun h1 h2 => Pl.bin_lay p (in4 hp) N (List.mem_range.2 (by omega)) hN hD i (List.mem_range.2 (by omega)) h1 h2
  have hneed := Pl.need_pow p (in4 hp) N (List.mem_range.2 (by omega)) hN hD
  have hpp := pow_pred (p := p) hN
  have hnd := Nmr.num_diff (p := p) (v := v) (v' := v') (N - 1) hv
  rw [show N - 1 + 1 = N by omega] at hnd
  have hsame : ∀ e, e < N → Nmr.num p v e = Nmr.num p v' e := fun e he => Nmr.num_ext (N - 1) hv e (by omega)
  have htop := fun h1 h2 => Pl.rest_top p N ((p ^ N : Nat) : Int) (tyW p m (p ^ N)) hsame (p ^ N - 2) i (p ^ N - i) (by omega) h1 h2
  have hlow := Pl.lwF_same p N ((p ^ N : Nat) : Int) (tyW p m (p ^ N)) hsame (p ^ N - 2) (by omega)
  have hW : tyW p m (p ^ N) = ((p ^ N : Nat) : Int) * (m * (p : Int)) := by
    unfold tyW; rw [hneed, Int.mul_comm m, Int.mul_assoc]
  have hdW : m ∣ tyW p m (p ^ N) := ⟨((p ^ N : Nat) : Int) * p, by rw [hW, Int.mul_left_comm]⟩
  obtain ⟨D, hDD⟩ : ∃ D, p ^ N = D := ⟨_, rfl⟩
  obtain ⟨W, hWW⟩ : ∃ W, tyW p m D = W := ⟨_, rfl⟩
  rw [hDD] at hi hD hD2 hbin hneed hpp htop hlow hW hdW
  rw [hWW] at htop hlow hW hdW
  unfold layC
  rw [hDD]
  rw [Ser.co_cut hi, Int.emod_emod]
  unfold gapT lawT
  rw [hneed, hDD, hWW]
  rw [Pl.pc_tab (by omega), Int.emod_emod, Pl.pc_tab (by omega), Pl.pc_tab (by omega), ← Int.sub_emod]
  by_cases hmid : 1 ≤ i ∧ i < D
  · have hx := fun (A : Nat → Int) => (show Pl.lwF p N (D : Int) W A (D - 1) i (D - i) = Pl.dueF p N (D : Int) W A (Pl.lwF p N (D : Int) W A (D - 2)) i (D - i) by
      rw [show D - 1 = D - 2 + 1 by omega]
      exact if_pos ⟨by omega, hmid.1, by omega⟩)
    rw [hx, hx]
    unfold Pl.dueF
    rw [← hlow, htop hmid.1 (by omega), hbin hmid.1 hmid.2, hnd]
    obtain ⟨r, hr⟩ : ∃ r, Pl.restF p N (Nmr.num p v) (Pl.lwF p N (D : Int) W (Nmr.num p v) (D - 2)) (N + 1) i (D - i) = r := ⟨_, rfl⟩
    obtain ⟨L, hL⟩ : ∃ L, layF D i = L := ⟨_, rfl⟩
    obtain ⟨z, hz⟩ : ∃ z, v' (N - 1) - v (N - 1) = z := ⟨_, rfl⟩
    rw [hz] at hc
    rw [hr, hL, hz]
    have e1 : r + (Nmr.num p v N + (p : Int) ^ (N - 1) * z - Nmr.num p v N) * ((p : Int) * L) = r + (D : Int) * (z * L) := by
      have h1 : (p : Int) ^ (N - 1) * (p : Int) = (D : Int) := by rw [← hpp, Int.natCast_mul, Int.natCast_pow]
      rw [show Nmr.num p v N + (p : Int) ^ (N - 1) * z - Nmr.num p v N = (p : Int) ^ (N - 1) * z by omega, ← h1]
      grind
    rw [e1]
    have hs := div_shift (W := W) (T := (D : Int)) (M := m * (p : Int)) (r := r) (z := z * L) (by omega) (Int.mul_pos (by omega) (by omega)) hW
    have hs2 := emod_down hs ⟨(p : Int), rfl⟩
    obtain ⟨Q', hQ'⟩ : ∃ Q', (r + (D : Int) * (z * L)) % W / (D : Int) = Q' := ⟨_, rfl⟩
    obtain ⟨Q, hQ⟩ : ∃ Q, r % W / (D : Int) = Q := ⟨_, rfl⟩
    rw [hQ', hQ] at hs2
    rw [hQ', hQ, Int.sub_emod, Int.emod_emod_of_dvd _ hdW, Int.emod_emod_of_dvd _ hdW, ← Int.sub_emod]
    have e2 : (-Q' - -Q) % m = (-(Q + z * L) - -Q) % m := by
      rw [Int.sub_emod, Int.sub_emod (-(Q + z * L))]
      congr 2
      have := Ser.mul_cong (m := m) (x := -1) (y := -1) rfl hs2
      rw [Int.neg_mul, Int.one_mul, Int.neg_mul, Int.one_mul] at this
      exact this
    rw [e2, show -(Q + z * L) - -Q = (-1) * (z * L) by omega]
    have e3 := Ser.mul_cong (m := m) (x := -1) (y := -1) rfl (Ser.mul_cong (m := m) hc (show L % m = L % m from rfl))
    rw [e3, Int.neg_mul, Int.one_mul, Int.neg_mul]
  · have hside : i = 0 ∨ D - i = 0 := by omega
    rw [Pl.lwF_side _ _ _ _ _ _ _ _ hside, Pl.lwF_side _ _ _ _ _ _ _ _ hside, Int.sub_self]
    unfold layF
    rw [if_neg (by omega), Int.mul_zero]

end Go.Proofs.Ytakdmnecllcmnaa

/- A region that draws its order, and whose last operation stores into what the others load: a condition on the world that holds till then. -/
namespace Go.Proofs.Ytakdmnecllcmnaa
open Go

section
variable {P : Program} {ops : Array Oper} {Q : Exit → Act → World → Prop} {md : Region.Mode} {S : World → Prop} {n : Nat}

/-- in whatever order; S holds behind every operation but number n -/
def wpTill (P : Program) (md : Region.Mode) (ops : Array Oper) (Q : Exit → Act → World → Prop) (S : World → Prop) (n : Nat) : Nat → Array Bool → Act → World → Prop
  | 0, listed, a, w => Region.ready md ops listed = [] ∧ Q .normal a w
  | fuel + 1, listed, a, w => (Region.ready md ops listed = [] → Q .normal a w) ∧
    ∀ i ∈ Region.ready md ops listed, wpOp P ops Q i (fun a' w' => (i ≠ n → S w') ∧ wpTill P md ops Q S n fuel (listed.setIfInBounds i true) a' w') a w
theorem any_of_till : ∀ (fuel : Nat) (listed : Array Bool) (a : Act) (w : World), wpTill P md ops Q S n fuel listed a w → wpAny P md ops Q fuel listed a w
  | 0, _, _, _, h => h
  | fuel + 1, _, _, _, h => ⟨h.1, fun i hi => wpOp_mono (fun a' w' k => any_of_till fuel _ a' w' k.2) (h.2 i hi)⟩
/-- what is listed cannot be waited for by what may come up -/
theorem no_wait {i : Nat} {listed : Array Bool} {oj : Oper} (hr : i ∈ Region.ready md ops listed) (hall : ∀ e ∈ oj.after, Region.binds md e = true → listed.getD e.on false = true) :
    ∀ e ∈ oj.after, Region.binds md e = true → e.on ≠ i := by
  intro e he hb heq
  have h1 := hall e he hb
  have h0 := (mem_ready.1 hr).1
  rw [heq] at h1
  by_cases h : i < listed.size
  · simp [h] at h0 h1
    rw [h0] at h1
    exact absurd h1 (by decide)
  · simp [Array.getElem?_eq_none (Nat.le_of_not_lt h)] at h1
/-- an operation that yields v in every world of S may be taken first, if number n waits for it -/
theorem till_first {i : Nat} {oi : Oper} {v : Value} (hi : ops[i]? = some oi) (hsel : ∀ (j : Nat) (o : Oper) cs b, ops[j]? = some o → o.op ≠ .select cs b)
    (hQ : ∀ c a w, Q (.panic c) (a.put oi.dst v) w → Q (.panic c) a w) (hn : ∀ on, ops[n]? = some on → ∃ e ∈ on.after, Region.binds md e = true ∧ e.on = i) :
    ∀ (fuel : Nat) (listed : Array Bool) (a : Act) (w : World),
      (∀ j oj, ops[j]? = some oj → j ≠ i → listed.getD j true = false → (∀ e ∈ oj.after, Region.binds md e = true → e.on ≠ i) → oi.apart ops oj = true) →
      i ∈ Region.ready md ops listed → YieldsIf P ops S oi v a → S w →
      wpTill P md ops Q S n fuel (listed.setIfInBounds i true) (a.put oi.dst v) w → wpTill P md ops Q S n (fuel + 1) listed a w := by
  intro fuel
  induction fuel with
  | zero =>
    intro listed a w _ hr hy hS H
    refine ⟨fun e => (by rw [e] at hr; cases hr), fun j hj => ?_⟩
    by_cases hji : j = i
    · subst hji
      exact hy.wpOp hi hS ⟨fun _ => hS, H⟩
    · have hk := ready_mono hj hji
      rw [H.1] at hk
      cases hk
  | succ fuel ih =>
    intro listed a w hfree hr hy hS H
    refine ⟨fun e => (by rw [e] at hr; cases hr), fun j hj => ?_⟩
    by_cases hji : j = i
    · subst hji
      exact hy.wpOp hi hS ⟨fun _ => hS, H⟩
    · obtain ⟨hun, oj, hoj, hall⟩ := mem_ready.1 hj
      have hnot := no_wait hr hall
      have hjn : j ≠ n := by
        rintro rfl
        obtain ⟨e, he, hb, heq⟩ := hn oj hoj
        exact hnot e he hb heq
      have k2 := wpOp_putIf hoj (hfree j oj hoj hji hun hnot) (fun cs b => hsel i oi cs b hi) (fun cs b => hsel j oj cs b hoj) hQ hy (H.2 j (ready_mono hj hji))
      have hfree' : ∀ k ok, ops[k]? = some ok → k ≠ i → (listed.setIfInBounds j true).getD k true = false →
          (∀ e ∈ ok.after, Region.binds md e = true → e.on ≠ i) → oi.apart ops ok = true := by
        intro k ok hk hki hu hno
        refine hfree k ok hk hki ?_ hno
        by_cases hjk : j = k
        · subst hjk; exact hun
        · rw [getD_set_ne true hjk] at hu; exact hu
      refine wpOp_mono (fun a' w' k3 => ⟨fun _ => k3.2.1 hjn, ih (listed.setIfInBounds j true) a' w' hfree' (ready_mono hr (Ne.symm hji)) k3.1 (k3.2.1 hjn) ?_⟩) k2
      rw [Array.setIfInBounds_comm _ _ hji]
      exact k3.2.2
/-- number n waits for number i -/
def waitB (md : Region.Mode) (ops : Array Oper) (n i : Nat) : Bool := ((ops[n]?).map fun o => o.after.any fun e => Region.binds md e && e.on == i).getD true
theorem till_take {i : Nat} {oi : Oper} {dst : Option Tmp} (v : Value) {fuel : Nat} {listed : Array Bool} {a : Act} {w : World} (hi : ops[i]? = some oi) (hd : oi.dst = dst) (hs : Region.noSelect ops = true) (hf : Region.free md ops listed i = true)
    (hr : (Region.ready md ops listed).contains i = true) (hw : waitB md ops n i = true) (hQ : ∀ c a w, Q (.panic c) (a.put dst v) w → Q (.panic c) a w) (hy : YieldsIf P ops S oi v a) (hS : S w)
    (h : wpTill P md ops Q S n fuel (listed.setIfInBounds i true) (a.put dst v) w) : wpTill P md ops Q S n (fuel + 1) listed a w := by
  subst hd
  refine till_first hi (Region.noSelect_spec hs) hQ (fun on ho => ?_) fuel listed a w (Region.free_spec hi hf) (by simpa using hr) hy hS h
  unfold waitB at hw
  rw [ho] at hw
  obtain ⟨e, he, k⟩ := Array.any_eq_true'.1 (show (on.after.any fun e => Region.binds md e && e.on == i) = true from hw)
  rw [Bool.and_eq_true] at k
  exact ⟨e, he, k.1, by simpa using k.2⟩
/-- one operation alone may come up -/
theorem till_one {i : Nat} {o : Oper} {fuel : Nat} {listed : Array Bool} {a : Act} {w : World} (hr : Region.ready md ops listed = [i]) (ho : ops[i]? = some o)
    (h : ∀ K : Act → World → Prop, Shut (∀ a w, (i ≠ n → S w) → wpTill P md ops Q S n fuel (listed.setIfInBounds i true) a w → K a w) → if Region.wanted o (yielded ops a.tmps) = true then Oper.wp P o a w K Q else K (a.put o.dst undef) w) :
    wpTill P md ops Q S n (fuel + 1) listed a w := by
  refine ⟨fun e => (by rw [e] at hr; cases hr), fun j hj => ?_⟩
  rw [hr] at hj
  obtain rfl : j = i := by simpa using hj
  exact wpOp_step ho (fun K hK => h K (fun a w hS hW => hK a w ⟨hS, hW⟩))
theorem till_done {fuel : Nat} {listed : Array Bool} {a : Act} {w : World} (hr : Region.ready md ops listed = []) (h : Q .normal a w) : wpTill P md ops Q S n fuel listed a w := by
  cases fuel with
  | zero => exact ⟨hr, h⟩
  | succ f => exact ⟨fun _ => h, by rw [hr]; simp⟩
theorem region_till {id : Nat} {a : Act} {w : World} (S : World → Prop) (n : Nat) (hm : P.follows .mixedOrders = true) (h : wpTill P .any ops Q S n ops.size (Array.replicate ops.size false) a w.drew) : (Code.region id ops true).wp P Q a w :=
  wp_region_any hm (any_of_till _ _ _ _ h)
end
end Go.Proofs.Ytakdmnecllcmnaa

/- Contracts of equations as arrays. -/
namespace Go.Proofs.Ytakdmnecllcmnaa
open Go.RowKit Go.WideShapes Go.ChangeShapes Go.ChangeAt

/-- an equation's cells -/
def arrE (l : List Int) : Array Value := (l.map (Value.int .i64)).toArray
theorem arrE_at {l : List Int} {k : Nat} (h : k < l.length) : (arrE l)[k]? = some (.int .i64 (Ser.co l k)) := by
  unfold arrE Ser.co
  rw [List.getElem?_toArray, List.getElem?_map, List.getElem?_eq_getElem h]
  rfl
theorem arrE_size (l : List Int) : (arrE l).size = l.length := by simp [arrE]
/-! a whole equation out of and into its variable -/
section
theorem VarC.cellsE {w : World} {g : Nat} {cs : Array Value} {T : TypeId} (h : VarC T w g cs) (hs : cs.size = 11) :
    (loadCellsFrom ⟨g, 0, none⟩ 0 11 #[]).run Try.prog w = .ok cs w := by
  have := run_loadCells_list (P := Try.prog) w ⟨g, 0, none⟩ cs.toList (fun j v hv => by
    have hadd : (⟨g, 0, none⟩ : Addr).add j = ⟨g, j, none⟩ := by unfold Addr.add; split <;> simp_all
    rw [hadd]
    exact h.cell j v (by simpa using hv))
  rw [← hs]
  simpa [loadCells] using this
theorem VarC.setRow {w : World} {g : Nat} {cs cs' : Array Value} {T : TypeId} (h : VarC T w g cs) : VarC T (w.setRow g cs') g cs' := setRow_heap w g cs cs' T (0, 0) h
theorem VarC.setRow_ne {w : World} {g g' : Nat} {cs cs' : Array Value} {T : TypeId} (h : VarC T w g cs) (hne : g ≠ g') : VarC T (w.setRow g' cs') g cs := (setRow_other w g' g cs' hne).trans h
theorem arrE_one (l : List Int) : (arrE l).all (·.oneCell') = true := by
  unfold arrE
  rw [Array.all_eq_true_iff_forall_mem]
  intro v hv
  simp at hv
  obtain ⟨x, -, rfl⟩ := hv
  rfl
theorem arrE_set (l : List Int) (k : Nat) (x : Int) : (arrE l).setIfInBounds k (.int .i64 x) = arrE (l.set k x) := by
  unfold arrE
  rw [List.setIfInBounds_toArray, List.map_set]
end
/-- the first k numbers of an equation lessened -/
def lessP (m q : Int) (e f : List Int) (k : Nat) : List Int := (List.range 11).map fun i => if i < k then (Ser.co e i - q * Ser.co f i) % m else Ser.co e i
theorem lessP_len (m q : Int) (e f : List Int) (k : Nat) : (lessP m q e f k).length = 11 := by simp [lessP]
theorem lessP_co {m q : Int} {e f : List Int} {k i : Nat} (h : i ≤ 10) : Ser.co (lessP m q e f k) i = if i < k then (Ser.co e i - q * Ser.co f i) % m else Ser.co e i := by
  unfold Ser.co lessP
  rw [List.getElem?_map, List.getElem?_range (by omega)]; rfl
theorem lessP_zero {m : Int} {e : List Int} (h : e.length = 11) (q : Int) (f : List Int) : lessP m q e f 0 = e := by
  refine Ser.list_ext (by rw [lessP_len, h]) (fun i hi => ?_)
  rw [lessP_len] at hi
  rw [lessP_co (by omega), if_neg (by omega)]
theorem lessP_end (m q : Int) (e f : List Int) : lessP m q e f 11 = Sys.lessE m q e f := by
  refine Ser.list_ext (by rw [lessP_len]; unfold Sys.lessE; rw [Ser.cut_length]) (fun i hi => ?_)
  rw [lessP_len] at hi
  unfold Sys.lessE
  rw [lessP_co (by omega), if_pos (by omega), Ser.co_cut (by omega)]
theorem lessP_step {m q : Int} {e f : List Int} {k : Nat} (h : k ≤ 10) : (lessP m q e f k).set k ((Ser.co e k - q * Ser.co f k) % m) = lessP m q e f (k + 1) := by
  refine Ser.list_ext (by rw [List.length_set, lessP_len, lessP_len]) (fun i hi => ?_)
  rw [List.length_set, lessP_len] at hi
  rw [Ser.co_set (by rw [lessP_len]; omega), lessP_co (by omega), lessP_co (by omega)]
  by_cases e : i = k
  · rw [if_pos e, if_pos (by omega), e]
  · rw [if_neg e]
    by_cases c : i < k
    · rw [if_pos c, if_pos (by omega)]
    · rw [if_neg c, if_neg (by omega)]
end Go.Proofs.Ytakdmnecllcmnaa

/- Contracts of sums over equations, and of divisions that may have no quotient. -/
namespace Go.Proofs.Ytakdmnecllcmnaa
open Go.RowKit Go.WideShapes Go.ChangeShapes Go.ChangeAt

/-- a solution's numbers, 1 at 0 -/
def solX (s : List Int) : Nat → Int := fun i => if i = 0 then 1 else Ser.co s i
theorem low_one (e s : List Int) : Sys.low e 1 (solX s) = Ser.co e 0 := by
  show (0 : Int) + Ser.co e 0 * 1 = _
  omega
theorem low_succ (e : List Int) {s : List Int} {k : Nat} (h : 0 < k) : Sys.low e (k + 1) (solX s) = Sys.low e k (solX s) + Ser.co e k * Ser.co s k := by
  show Sys.low e k (solX s) + Ser.co e k * solX s k = _
  unfold solX
  rw [if_neg (by omega)]
theorem mulB {x y : Int} (h1 : -10000 ≤ x ∧ x ≤ 10000) (h2 : -10000 ≤ y ∧ y ≤ 10000) : -100000000 ≤ x * y ∧ x * y ≤ 100000000 := by
  have a1 := Int.natAbs_mul x y
  have a2 : x.natAbs * y.natAbs ≤ 10000 * 10000 := Nat.mul_le_mul (by omega) (by omega)
  omega
theorem low_bd {e s : List Int} (he : ∀ i, -10000 ≤ Ser.co e i ∧ Ser.co e i ≤ 10000) (hs : ∀ i, -10000 ≤ Ser.co s i ∧ Ser.co s i ≤ 10000) : ∀ k : Nat, -(k : Int) * 100000000 ≤ Sys.low e k (solX s) ∧ Sys.low e k (solX s) ≤ (k : Int) * 100000000
  | 0 => by simp [Sys.low, Ser.psum]
  | k + 1 => by
    have ih := low_bd he hs k
    have hx : -100000000 ≤ Ser.co e k * solX s k ∧ Ser.co e k * solX s k ≤ 100000000 := mulB (he k) (by unfold solX; split; omega; exact hs k)
    have : Sys.low e (k + 1) (solX s) = Sys.low e k (solX s) + Ser.co e k * solX s k := rfl
    rw [this]
    omega
end Go.Proofs.Ytakdmnecllcmnaa

/- A system's equations in a map: what it holds, and Euclid's step. -/
namespace Go.Proofs.Ytakdmnecllcmnaa
open Go.RowKit Go.WideShapes Go.ChangeShapes Go.ChangeAt

/-- how an equation reads -/
def litE (l : List Int) : DataW Unit := .agg (l.map fun x => .lit (.int .i64 x))
def cellInt : Value → Int
  | .int _ x => x
  | _ => 0
def isCellI : Value → Bool
  | .int .i64 _ => true
  | _ => false
def rdE : Value → Option (DataW Unit × List MemPlace)
  | .agg cs => if cs.size = 11 ∧ cs.toList.all isCellI = true then some (litE (cs.toList.map cellInt), []) else none
  | _ => none
theorem map_inj {α β : Type} {f : α → β} (hf : ∀ x y, f x = f y → x = y) : ∀ {l r : List α}, l.map f = r.map f → l = r
  | [], [], _ => rfl
  | [], _ :: _, h => by cases h
  | _ :: _, [], h => by cases h
  | x :: l, y :: r, h => by
    rw [List.map_cons, List.map_cons] at h
    injection h with h1 h2
    rw [hf x y h1, map_inj hf h2]
theorem litE_inj {l r : List Int} (h : litE l = litE r) : l = r := by
  unfold litE at h
  injection h with h
  exact map_inj (fun x y e => by injection e with e; injection e) h
theorem rdE_arr {l : List Int} (h : l.length = 11) : rdE (.agg (arrE l)) = some (litE l, []) := by
  unfold rdE
  dsimp only
  have e : (arrE l).toList.map cellInt = l := by
    unfold arrE
    rw [List.toList_toArray, List.map_map]
    exact (List.map_congr_left (fun x _ => rfl)).trans (List.map_id l)
  rw [if_pos ⟨by rw [arrE_size, h], by unfold arrE; simp [isCellI]⟩, e]
theorem rdE_inv {v : Value} {l : List Int} {ps : List MemPlace} (h : rdE v = some (litE l, ps)) : l.length = 11 ∧ v = .agg (arrE l) := by
  unfold rdE at h
  split at h
  · rename_i cs
    split at h
    · rename_i hc
      have h1 := litE_inj (Prod.mk.inj (Option.some.inj h)).1
      have hs : cs.toList = l.map (Value.int .i64) := by
        rw [← h1, List.map_map]
        refine ((List.map_congr_left (fun x hx => ?_)).trans (List.map_id cs.toList)).symm
        have := List.all_eq_true.1 hc.2 x hx
        unfold isCellI at this
        split at this
        · rfl
        · cases this
      refine ⟨by rw [← h1, List.length_map, Array.length_toList, hc.1], ?_⟩
      unfold arrE
      rw [← hs, Array.toArray_toList]
    · cases h
  · cases h
/-- the map holds the rows -/
structure MapRows (D : DataW Unit) (rows : Nat → List Int) : Prop where
  isMap : Maps.IsMap D
  at_ : ∀ k : Nat, 0 < k → k ≤ 10 → D.atKey (.int .i64 k) (litE (List.replicate 11 0)) = litE (rows k)
theorem MapRows.put {D : DataW Unit} {rows : Nat → List Int} (h : MapRows D rows) (k : Nat) (r : List Int) : MapRows (D.put (.int .i64 k) (litE r)) (Sys.upd rows k r) := by
  refine ⟨h.isMap.put _ _, fun j h0 hj => ?_⟩
  unfold Sys.upd
  by_cases e : j = k
  · rw [if_pos e, e]
    exact Maps.atKey_put_same (k := .int .i64 (k : Int)) h.isMap (show WideAt.IsKeyLit (.int .i64 (k : Int)) from True.intro) _ _
  · rw [if_neg e, Maps.atKey_put_other (fun he => e (by injection he with _ he; omega))]
    exact h.at_ j h0 hj
theorem MapRows.empty : MapRows (.map []) Sys.none0 := ⟨Maps.isMap_empty, fun _ _ _ => rfl⟩
abbrev OwnM (w : World) (M n : Nat) (D : DataW Unit) : Prop := w.ownsMap Try.prog 2 rdE M n D
theorem lit_wf {k : Nat} (h : k ≤ 10) : (Lit.int .i64 (k : Int)).wf = true := by
  have h1 : IntKind.i64.min = -9223372036854775808 := by decide
  have h2 : IntKind.i64.max = 9223372036854775807 := by decide
  unfold Lit.wf
  rw [Bool.and_eq_true, decide_eq_true_eq, decide_eq_true_eq, h1, h2]
  omega
theorem key_lit {k : Nat} (h : k ≤ 10) : keyOf Try.prog 2 (.int .i64 (k : Int)) = some (.int .i64 (k : Int)) := Maps.keyOf_int_mk Try.underlying2 (lit_wf h)
end Go.Proofs.Ytakdmnecllcmnaa

/- Contract of the addition of an equation to a system. -/
namespace Go.Proofs.Ytakdmnecllcmnaa
open Go.RowKit Go.WideShapes Go.ChangeShapes Go.ChangeAt

theorem grown_setRow (w : World) (g : Nat) (cs : Array Value) : w.grownBy (w.setRow g cs) (some g) :=
  ⟨rfl, rfl, rfl, by simp, fun k _ hne => setRow_other w g k cs (fun e => hne (by rw [e]))⟩
theorem grown_of_below {w w' : World} (h : Below w.heap.size w w') (r : Option Nat) : w.grownBy w' r := ⟨h.os, h.tape, h.output, h.size, fun k hk _ => h.block k hk⟩
/-- what an addition leaves behind -/
def AddPost (o : Option (Nat → List Int)) (M n : Nat) (w : World) (q : Ending) (w' : World) : Prop :=
  match o with
  | some r => q = .returned (.tuple #[]) ∧ (∃ D, OwnM w' M n D ∧ MapRows D r) ∧ w.grownBy w' (some M)
  | none => (∃ s, q = .panicked [{ v := .iface 9 s, recovered := false }]) ∧ w.grownBy w' (some M)
end Go.Proofs.Ytakdmnecllcmnaa

/- Contract of the addition of an equation to a system: the step. -/
namespace Go.Proofs.Ytakdmnecllcmnaa
open Go.RowKit Go.WideShapes Go.ChangeShapes Go.ChangeAt

end Go.Proofs.Ytakdmnecllcmnaa

/- Contract of the addition of an equation to a system, whole. -/
namespace Go.Proofs.Ytakdmnecllcmnaa
open Go.RowKit Go.WideShapes Go.ChangeShapes Go.ChangeAt

theorem AddPost.mono {o : Option (Nat → List Int)} {M n n' : Nat} {w : World} {q : Ending} {w' : World} (h : AddPost o M n w q w') (hn : n ≤ n') : AddPost o M n' w q w' := by
  cases o with
  | none => exact h
  | some r =>
    obtain ⟨h1, ⟨D, h2, h3⟩, h4⟩ := h
    exact ⟨h1, ⟨D, World.ownsMap.mono h2 hn, h3⟩, h4⟩
end Go.Proofs.Ytakdmnecllcmnaa

/- Contract of the least solution: the deferred closure. -/
namespace Go.Proofs.Ytakdmnecllcmnaa
open Go.RowKit Go.WideShapes Go.ChangeShapes Go.ChangeAt

end Go.Proofs.Ytakdmnecllcmnaa

/- Contract of the least solution. -/
namespace Go.Proofs.Ytakdmnecllcmnaa
open Go.RowKit Go.WideShapes Go.ChangeShapes Go.ChangeAt

/-- equations lie in a slice -/
def EqsAt (w : World) (A : Option Addr) (es : List (List Int)) : Prop :=
  es ≠ [] → ∃ b off, A = some ⟨b, off, none⟩ ∧ b < w.heap.size ∧ ∀ i e, es[i]? = some e → w.rangeAt b (off + i * 11) (e.map (Value.int .i64))
theorem EqsAt.below {B : Nat} {w w' : World} {A : Option Addr} {es : List (List Int)} (h : EqsAt w A es) (hb : Below B w w') (hB : w.heap.size ≤ B) : EqsAt w' A es := by
  intro hn
  obtain ⟨b, off, rfl, hlt, hc⟩ := h hn
  exact ⟨b, off, rfl, Nat.lt_of_lt_of_le hlt hb.size, fun i e he j v hv => (hb.cell (p := ⟨b, off + i * 11 + j, none⟩) (Nat.lt_of_lt_of_le hlt hB)).trans (hc i e he j v hv)⟩
theorem Sys.grd_stable (m : Int) (rows : Nat → List Int) {i k : Nat} (h : i ≤ k) : ∀ n, k ≤ n → Sys.grd m rows n i = Sys.grd m rows k i := by
  intro n hn
  obtain ⟨q, rfl⟩ : ∃ q, n = k + q := ⟨n - k, by omega⟩
  clear hn
  induction q with
  | zero => rfl
  | succ q ih => rw [← Nat.add_assoc, Sys.grd_keep m rows (by omega)]; exact ih
/-- the numbers found so far, as the program keeps them: 0 at 0 -/
def solP (X : Nat → Int) (k : Nat) : List Int := (List.range 11).map fun i => if 0 < i ∧ i < k then X i else 0
theorem solP_len (X : Nat → Int) (k : Nat) : (solP X k).length = 11 := by simp [solP]
theorem solP_co {X : Nat → Int} {k i : Nat} (h : i ≤ 10) : Ser.co (solP X k) i = if 0 < i ∧ i < k then X i else 0 := by
  unfold Ser.co solP
  rw [List.getElem?_map, List.getElem?_range (by omega)]; rfl
theorem solP_zero (X : Nat → Int) : solP X 1 = List.replicate 11 0 := by
  refine Ser.list_ext (by rw [solP_len, List.length_replicate]) (fun i hi => ?_)
  rw [solP_len] at hi
  rw [solP_co (by omega), if_neg (by omega), Ser.co_zeros]
theorem solP_step (X : Nat → Int) {k : Nat} (h0 : 0 < k) (h : k ≤ 10) : (solP X k).set k (X k) = solP X (k + 1) := by
  refine Ser.list_ext (by rw [List.length_set, solP_len, solP_len]) (fun i hi => ?_)
  rw [List.length_set, solP_len] at hi
  rw [Ser.co_set (by rw [solP_len]; omega), solP_co (by omega), solP_co (by omega)]
  by_cases e : i = k
  · rw [if_pos e, if_pos (by omega), e]
  · rw [if_neg e]
    by_cases c : 0 < i ∧ i < k
    · rw [if_pos c, if_pos (by omega)]
    · rw [if_neg c, if_neg (by omega)]
def solL (X : Nat → Int) : List Int := solP X 11
/-- what the least solution's call returns -/
def LeastPost (o : Option (Nat → Int)) (w : World) (q : Ending) (w' : World) : Prop :=
  (match o with
  | some X => q = .returned (.tuple #[.agg (arrE (solL X)), .bool true])
  | none => q = .returned (.tuple #[.agg (arrE (List.replicate 11 0)), .bool false])) ∧ Below w.heap.size w w'
theorem addAll_drop (m : Int) (rows : Nat → List Int) (es : List (List Int)) {i : Nat} {e : List Int} (h : es[i]? = some e) : Sys.addAll m rows (es.drop i) = match Sys.addS m 10 rows e with
    | none => none
    | some r => Sys.addAll m r (es.drop (i + 1)) := by
  obtain ⟨hi, he⟩ := List.getElem?_eq_some_iff.1 h
  rw [List.drop_eq_getElem_cons hi, he]
  rfl
theorem neg_mod_mod (l m : Int) : -(l % m) % m = -l % m := by
  rw [show -(l % m) = -l + m * (l / m) by have := Int.emod_add_mul_ediv l m; omega]
  exact Int.add_mul_emod_self_left _ _ _
/-- the next number is what the division gives -/
theorem pick_fact {m : Int} {rows : Nat → List Int} (h : ∀ j, 0 < j → j ≤ 10 → 0 ≤ Sys.grd m rows 10 j ∧ Sys.grd m rows 10 j < m ∧ Sys.Sat m (Sys.grd m rows 10) (rows j) ∧ (solM m (Ser.co (rows j) j) (Sys.want m (rows j) j (Sys.grd m rows 10))).2 = 0)
    {k : Nat} (h0 : 0 < k) (hk : k ≤ 10) :
    (solM m (Ser.co (rows k) k) (-(Sys.low (rows k) k (solX (solP (Sys.grd m rows 10) k)) % m) % m)).2 = 0 ∧ (solM m (Ser.co (rows k) k) (-(Sys.low (rows k) k (solX (solP (Sys.grd m rows 10) k)) % m) % m)).1 = Sys.grd m rows 10 k := by
  have e1 : Sys.low (rows k) k (solX (solP (Sys.grd m rows 10) k)) = Sys.low (rows k) k (Sys.grd m rows 10) := Sys.low_congr (fun i hi => by
    unfold solX
    by_cases hz : i = 0
    · rw [if_pos hz, hz, Sys.grd_zero]
    · rw [if_neg hz, solP_co (by omega), if_pos (by omega)])
  rw [e1, neg_mod_mod]
  refine ⟨(h k h0 hk).2.2.2, ?_⟩
  obtain ⟨q, rfl⟩ : ∃ q, k = q + 1 := ⟨k - 1, by omega⟩
  rw [Sys.grd_stable m rows (Nat.le_refl (q + 1)) 10 hk, Sys.grd_at]
  unfold Sys.pick Sys.want
  rw [Sys.low_congr (x := Sys.grd m rows 10) (y := Sys.grd m rows q) (fun i hi => Sys.grd_stable m rows (by omega) 10 (by omega))]
end Go.Proofs.Ytakdmnecllcmnaa

/- Contract of slices.Max at whole numbers, and of isOfOneDegree. -/
namespace Go.Proofs.Ytakdmnecllcmnaa
open Go.RowKit Go.WideShapes Go.ChangeShapes Go.ChangeAt

/-- the greatest of the first k + 1 numbers -/
def maxF (l : List Int) : Nat → Int
  | 0 => Ser.co l 0
  | k + 1 => max (maxF l k) (Ser.co l (k + 1))
theorem maxF_pos {l : List Int} (h : ∀ i, 0 ≤ Ser.co l i) : ∀ k, 0 < maxF l k ↔ ∃ i, i ≤ k ∧ Ser.co l i ≠ 0
  | 0 => ⟨fun h1 => ⟨0, Nat.le_refl _, by unfold maxF at h1; omega⟩, fun ⟨i, hi, h2⟩ => by
    obtain rfl : i = 0 := Nat.le_zero.1 hi
    show 0 < Ser.co l 0
    have := h 0
    omega⟩
  | k + 1 => by
    have ih := maxF_pos h k
    have hk := h (k + 1)
    unfold maxF
    constructor
    · intro h1
      by_cases hc : Ser.co l (k + 1) ≠ 0
      · exact ⟨k + 1, Nat.le_refl _, hc⟩
      · obtain ⟨i, hi, h2⟩ := ih.1 (by omega)
        exact ⟨i, by omega, h2⟩
    · rintro ⟨i, hi, h2⟩
      by_cases hc : i = k + 1
      · subst hc; omega
      · have := ih.2 ⟨i, by omega, h2⟩; omega
theorem lowZ_step {m : Int} {t : List (List Int)} {d k : Nat} (ok : Pl.Ok m d t) : maxF (layC m t k) k > 0 ↔ ∃ i, i ≤ k ∧ Pl.pc t i (k - i) ≠ 0 := by
  have h0 : ∀ i, 0 ≤ Ser.co (layC m t k) i := fun i => by
    by_cases hi : i ≤ k
    · rw [layC_co ok k i hi]; exact (ok.pc i (k - i)).1
    · rw [Ser.co_over (by rw [layC_length]; omega)]; exact Int.le_refl _
  rw [gt_iff_lt, maxF_pos h0 k]
  exact ⟨fun ⟨i, hi, h⟩ => ⟨i, hi, by rwa [layC_co ok k i hi] at h⟩, fun ⟨i, hi, h⟩ => ⟨i, hi, by rwa [layC_co ok k i hi]⟩⟩
end Go.Proofs.Ytakdmnecllcmnaa

/- Contracts of layers: those of Lazard's cocycles, and grids with a layer. -/
namespace Go.Proofs.Ytakdmnecllcmnaa
open Go.RowKit Go.WideShapes Go.ChangeShapes Go.ChangeAt

end Go.Proofs.Ytakdmnecllcmnaa

/- Contract of factorOfLayer: a list of equations is appended to, then solved. -/
namespace Go.Proofs.Ytakdmnecllcmnaa
open Go.RowKit Go.WideShapes Go.ChangeShapes Go.ChangeAt

def rowQ (es : List (List Int)) : List Value := es.flatMap fun e => e.map (Value.int .i64)
theorem rowQ_len : ∀ es : List (List Int), (∀ e ∈ es, e.length = 11) → (rowQ es).length = es.length * 11
  | [], _ => rfl
  | e :: es, h => by
    have ih := rowQ_len es (fun f hf => h f (List.mem_cons_of_mem _ hf))
    have he := h e List.mem_cons_self
    unfold rowQ at ih ⊢
    rw [List.flatMap_cons, List.length_append, ih, List.length_map, he, List.length_cons]; omega
theorem rowQ_at : ∀ (es : List (List Int)) (i : Nat) (e : List Int) (j : Nat) (v : Value), (∀ e ∈ es, e.length = 11) → es[i]? = some e → (e.map (Value.int .i64))[j]? = some v → (rowQ es)[i * 11 + j]? = some v
  | [], i, e, j, v, _, he, _ => by simp at he
  | f :: es, 0, e, j, v, h, he, hv => by
    obtain rfl : f = e := by simpa using he
    unfold rowQ
    rw [List.flatMap_cons, Nat.zero_mul, Nat.zero_add, List.getElem?_append_left (by
      apply Classical.byContradiction
      intro hn
      rw [List.getElem?_eq_none (by omega)] at hv
      cases hv)]
    exact hv
  | f :: es, i + 1, e, j, v, h, he, hv => by
    have ih := rowQ_at es i e j v (fun f hf => h f (List.mem_cons_of_mem _ hf)) (by simpa using he) hv
    have hf := h f List.mem_cons_self
    unfold rowQ at ih ⊢
    rw [List.flatMap_cons, List.getElem?_append_right (by rw [List.length_map, hf]; omega), List.length_map, hf, show (i + 1) * 11 + j - 11 = i * 11 + j by omega]
    exact ih
theorem add_at (g j : Nat) : (⟨g, 0, none⟩ : Addr).add j = ⟨g, j, none⟩ := by unfold Addr.add; split <;> simp_all
theorem arr11 (cs : Array Value) (h : cs.size = 11) : ∃ a b c d e f g i j k l, cs = #[a, b, c, d, e, f, g, i, j, k, l] := by
  obtain ⟨l⟩ := cs
  match l, h with
  | [a, b, c, d, e, f, g, i, j, k, l], _ => exact ⟨a, b, c, d, e, f, g, i, j, k, l, rfl⟩
theorem least_out {m : Int} {l : List Int} {n : Nat} {wr w' : World} {e : Ending} (h : LeastPost (Cyc.facO m l n) wr e w') :
    ∃ cs : List Int, e = .returned (.tuple #[.agg (arrE cs), .bool (Cyc.facO m l n).isSome]) ∧ cs.length = 11 ∧ Ser.co cs 1 = Cyc.facM m l n ∧ Below wr.heap.size wr w' := by
  unfold LeastPost at h
  unfold Cyc.facM
  cases hx : Cyc.facO m l n with
  | none => rw [hx] at h; exact ⟨_, h.1, by simp, rfl, h.2⟩
  | some X => rw [hx] at h; exact ⟨_, h.1, solP_len X 11, by unfold solL; rw [solP_co (by omega), if_pos (by omega)], h.2⟩
end Go.Proofs.Ytakdmnecllcmnaa

/- What the walks of regions that draw their order keep: cells below a block. -/
namespace Go.Proofs.Ytakdmnecllcmnaa
open Go.RowKit Go.WideShapes Go.ChangeShapes Go.ChangeAt

/-- F holds of every world in which what lies below block B is as in W -/
theorem keepS {B : Nat} {W w w' : World} {F : World → Prop} (HF : ∀ w', Below B W w' → F w') (hB : B ≤ W.heap.size) (h : F w ∧ Below B W w) (hb : Below w.heap.size w w') : F w' ∧ Below B W w' := by
  have h2 : Below B W w' := h.2.trans (hb.mono (Nat.le_trans hB h.2.size))
  exact ⟨HF _ h2, h2⟩
theorem keepW {B : Nat} {W w' : World} {F : World → Prop} (HF : ∀ w', Below B W w' → F w') (hb : Below B W w') : F w' ∧ Below B W w' := ⟨HF _ hb, hb⟩
theorem keepA {B : Nat} {W w : World} {F : World → Prop} (HF : ∀ w', Below B W w' → F w') (hB : B ≤ W.heap.size) (o : Obj) (h : F w ∧ Below B W w) : F (w.alloc o) ∧ Below B W (w.alloc o) :=
  keepS HF hB h (below_one w o)
theorem keep2 {B : Nat} {W w : World} {F : World → Prop} (HF : ∀ w', Below B W w' → F w') {g : Nat} (hg : B ≤ g) (x y : Value) (h : F w ∧ Below B W w) : F ((w.setCell ⟨g, 0, none⟩ x).setCell ⟨g, 1, none⟩ y) ∧ Below B W ((w.setCell ⟨g, 0, none⟩ x).setCell ⟨g, 1, none⟩ y) := by
  have h2 : Below B W ((w.setCell ⟨g, 0, none⟩ x).setCell ⟨g, 1, none⟩ y) := (h.2.setCell hg x).setCell hg y
  exact ⟨HF _ h2, h2⟩
theorem keep3 {B : Nat} {W w : World} {F : World → Prop} (HF : ∀ w', Below B W w' → F w') {g : Nat} (hg : B ≤ g) (x y z : Value) (h : F w ∧ Below B W w) : F (((w.setCell ⟨g, 0, none⟩ x).setCell ⟨g, 1, none⟩ y).setCell ⟨g, 2, none⟩ z) ∧ Below B W (((w.setCell ⟨g, 0, none⟩ x).setCell ⟨g, 1, none⟩ y).setCell ⟨g, 2, none⟩ z) := by
  have h2 : Below B W (((w.setCell ⟨g, 0, none⟩ x).setCell ⟨g, 1, none⟩ y).setCell ⟨g, 2, none⟩ z) := ((h.2.setCell hg x).setCell hg y).setCell hg z
  exact ⟨HF _ h2, h2⟩
theorem below_less {B : Nat} {W w' : World} (hB : B ≤ W.heap.size) (h : Below W.heap.size W w') : Below B W w' := h.mono hB
end Go.Proofs.Ytakdmnecllcmnaa

/- Contracts of cocycleFactor, IsCocycle and CocycleFactor of the program. -/
namespace Go.Proofs.Ytakdmnecllcmnaa
open Go.RowKit Go.WideShapes Go.ChangeShapes Go.ChangeAt

theorem cyc_fdeg (a b : Value) (W : World) : (Instr.field 58 (.agg #[a, b]) 1).run Try.prog W = .ok b W := by kernel_rfl
/-- the models of IsCocycle and CocycleFactor -/
def cycB (m : Int) (t : List (List Int)) : Bool := isP m t && Cyc.isC m t (t.length - 1)
def cycF (m : Int) (t : List (List Int)) : Int := if cycB m t then Cyc.facM m (layC m t (t.length - 1)) (t.length - 1) else 0
theorem cyc_no {m : Int} {t : List (List Int)} (h : isP m t = false) : cycB m t = false ∧ cycF m t = 0 := by
  have : cycB m t = false := by unfold cycB; rw [h]; rfl
  exact ⟨this, by unfold cycF; rw [this]; rfl⟩
theorem cyc_isC {m : Int} {t : List (List Int)} {d : Nat} (h : isP m t = true) (e : t.length = d + 1) : cycB m t = Cyc.isC m t d := by
  unfold cycB; rw [h, e]; rfl
theorem cyc_low {m : Int} {t : List (List Int)} {d : Nat} (h : isP m t = true) (e : t.length = d + 1) (hl : d = 1 ∨ Cyc.lowZ t d = false) : cycB m t = false ∧ cycF m t = 0 := by
  have : cycB m t = false := by
    rw [cyc_isC h e]
    unfold Cyc.isC
    rcases hl with rfl | hl
    · rfl
    · rw [hl]; simp
  exact ⟨this, by unfold cycF; rw [this]; rfl⟩
theorem cyc_yes {m : Int} {t : List (List Int)} {d : Nat} (h : isP m t = true) (e : t.length = d + 1) (ok : Pl.Ok m d t) (h1 : ¬ d = 1) (hl : Cyc.lowZ t d = true) :
    cycB m t = (Cyc.facO m (layC m t d) d).isSome ∧ cycF m t = Cyc.facM m (layC m t d) d := by
  have hd1 := ok.d1
  have hd2 := ok.d2
  have hiff := Cyc.isC_iff ok.m1 ok.m2 ok (by omega) hd2 (l := layC m t d) (fun i hi => layC_co ok d i hi)
  have hB : cycB m t = (Cyc.facO m (layC m t d) d).isSome := by
    rw [cyc_isC h e]
    unfold Cyc.isC
    rw [hl, show decide (2 ≤ d) = true from decide_eq_true (by omega)]
    simp only [Bool.true_and]
    rw [Bool.eq_iff_iff, Bool.and_eq_true]
    exact hiff
  refine ⟨hB, ?_⟩
  unfold cycF
  rw [hB, e, show d + 1 - 1 = d from rfl]
  cases hx : Cyc.facO m (layC m t d) d with
  | none => unfold Cyc.facM; rw [hx]; rfl
  | some X => rfl
/-- what the two give together -/
def cycC (m : Int) (t : List (List Int)) : Int × Int := if cycB m t then (cycF m t, 0) else (0, 1)
end Go.Proofs.Ytakdmnecllcmnaa

/- Contracts of factorTo and of the model's gap. -/
namespace Go.Proofs.Ytakdmnecllcmnaa
open Go.RowKit Go.WideShapes Go.ChangeShapes Go.ChangeAt

theorem gap_tab (m : Int) (d : Nat) (t t' : List (List Int)) (k : Int) (hk : (k + 1) % m = 0) :
    (Pl.tab m d fun i j => Pl.pc t' i j + Pl.pc (Pl.tab m d fun i j => Pl.pc t i j * k) i j) = gapT m d t t' := by
  refine Pl.tab_congr (fun i j hij => ?_)
  rw [Pl.pc_tab hij, Int.add_emod, Int.emod_emod, ← Int.add_emod]
  have e : Pl.pc t' i j + Pl.pc t i j * k = (Pl.pc t' i j - Pl.pc t i j) + Pl.pc t i j * (k + 1) := by rw [Int.mul_add, Int.mul_one]; omega
  rw [e, Int.add_emod, Int.mul_emod, hk, Int.mul_zero, Int.zero_emod, Int.add_zero, Int.emod_emod]
set_option maxHeartbeats 4000000 in
set_option maxRecDepth 100000 in
theorem l07Gap_any (m : Int) (d : Nat) (A : Option Addr) (c : Nat) (t : List (List Int)) (A' : Option Addr) (c' : Nat) (t' : List (List Int)) (w : World) (ok : Pl.Ok m d t) (ok' : Pl.Ok m d t') (hr : RP w A t) (hr' : RP w A' t') :
    Calls Try.prog 52 #[.int .i64 m, .slice A t.length c, .slice A' t'.length c'] w fun e w' => ∃ v, e = .returned v ∧ OwnR w' w.heap.size w'.heap.size v (gapT m d t t') ∧ Below w.heap.size w w' := by
  have m1 := ok.m1
  have m2 := ok.m2
  have HS := Lib.hid (l03Scale_any m d (m - 1) A c t w ok hr (by omega) (by omega))
  have okS : Pl.Ok m d (Pl.tab m d fun i j => Pl.pc t i j * (m - 1)) := Pl.Ok.of_tab m1 m2 ok.d1 ok.d2 _
  have hA := fun A1 c1 W0 (h : Below w.heap.size w W0) (h1 : RP W0 A1 (Pl.tab m d fun i j => Pl.pc t i j * (m - 1))) => l03Add_any m d A' c' t' A1 c1 _ W0 ok' okS (hr'.below h) h1
  have hll : (Pl.tab m d fun i j => Pl.pc t i j * (m - 1)).length = d + 1 := Pl.tab_length _ _ _
  rw [gap_tab m d t t' (m - 1) (by rw [show m - 1 + 1 = m by omega, Int.emod_self]), hll] at hA
  have HA := Lib.hid hA
  have HLL := Lib.hid hll
  have n1 : IntKind.i64.wrap (m - 1) = m - 1 := by rw [IntKind.wrap_i64]; omega
  obtain ⟨G, hG⟩ : ∃ G, gapT m d t t' = G := ⟨_, rfl⟩
  rw [hG] at HA ⊢
  obtain ⟨T, hT⟩ : ∃ T, (Pl.tab m d fun i j => Pl.pc t i j * (m - 1)) = T := ⟨_, rfl⟩
  rw [hT] at HA HS HLL
  clear hA hll okS hr hr' ok ok' hG hT
  go_enter Try.func52, Try.ntmps52
  go_wp2_with fail
  refine HS.out.mono ?_
  rintro e w1 ⟨v, rfl, ho1, hb1⟩
  obtain ⟨A1, c1, rfl, -⟩ := ho1.len
  rw [HLL.out] at ho1 ⊢
  go_wp2_with fail
  refine (HA.out _ _ _ hb1 ho1.rp).mono ?_
  rintro e w2 ⟨v, rfl, ho2, hb2⟩
  have hB := below_step hb1 hb2
  have HO := Lib.hid (ho2.low hb1.size)
  have HB := Lib.hid hB
  clear ho1 ho2 hb1 hb2 hB
  go_wp2
  go_ret
  exact ⟨_, rfl, HO.out, HB.out⟩
end Go.Proofs.Ytakdmnecllcmnaa

