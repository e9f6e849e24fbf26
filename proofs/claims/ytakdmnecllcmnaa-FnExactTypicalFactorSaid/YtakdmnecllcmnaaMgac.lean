/- Texts of contracts, joined. -/
import Derived.OrdersHeld
import Derived.Deep.RegionHeld3
import Derived.Deep.DrawnRows
import Derived.Test.YtakdmnecllcmnaaMgab
import Derived.Test.YtakdmnecllcmnaaMgaa
import Derived.BigQuiet
import Derived.Deep.QuietTactic
import Derived.Deep.LoopGhost
import Derived.LoopN
import Derived.WalkMore
import Derived.Outline
import Derived.ProofKit
import Derived.OpenShut
import Derived.ChangeSame
import Derived.Deep.Matrix
/- A region that draws its order, and whose last operations store into what the others load: a condition on the world that holds till then. -/
namespace Go.Proofs.Ytakdmnecllcmnaa
open Go

section
variable {P : Program} {ops : Array Oper} {Q : Exit → Act → World → Prop} {md : Region.Mode} {S : World → Prop} {n : Nat}

/-- in whatever order; S holds behind every operation below number n -/
def wpTilN (P : Program) (md : Region.Mode) (ops : Array Oper) (Q : Exit → Act → World → Prop) (S : World → Prop) (n : Nat) : Nat → Array Bool → Act → World → Prop
  | 0, listed, a, w => Region.ready md ops listed = [] ∧ Q .normal a w
  | fuel + 1, listed, a, w => (Region.ready md ops listed = [] → Q .normal a w) ∧
    ∀ i ∈ Region.ready md ops listed, wpOp P ops Q i (fun a' w' => (i < n → S w') ∧ wpTilN P md ops Q S n fuel (listed.setIfInBounds i true) a' w') a w
theorem any_of_tilN : ∀ (fuel : Nat) (listed : Array Bool) (a : Act) (w : World), wpTilN P md ops Q S n fuel listed a w → wpAny P md ops Q fuel listed a w
  | 0, _, _, _, h => h
  | fuel + 1, _, _, _, h => ⟨h.1, fun i hi => wpOp_mono (fun a' w' k => any_of_tilN fuel _ a' w' k.2) (h.2 i hi)⟩
/-- what is listed cannot be waited for by what may come up -/
theorem no_waitN {i : Nat} {listed : Array Bool} {oj : Oper} (hr : i ∈ Region.ready md ops listed) (hall : ∀ e ∈ oj.after, Region.binds md e = true → listed.getD e.on false = true) :
    ∀ e ∈ oj.after, Region.binds md e = true → e.on ≠ i := by
  intro e he hb heq
  have h1 := hall e he hb
  have h0 := (mem_ready.1 hr).1
  rw [heq] at h1
  by_cases h : i < listed.size
  · simp [h] at h0 h1
    rw [h0] at h1
    exact absurd h1 (by decide)
  · simp [Array.getElem?_eq_none (Nat.le_of_not_lt h)] at h1
/-- number k waits for number i, maybe by others -/
def waitT (md : Region.Mode) (ops : Array Oper) (i : Nat) : Nat → Nat → Bool
  | 0, _ => false
  | f + 1, k => match ops[k]? with
    | none => false
    | some o => o.after.any fun e => Region.binds md e && (e.on == i || waitT md ops i f e.on)
/-- what is listed has waited for what is listed -/
def Clos (md : Region.Mode) (ops : Array Oper) (listed : Array Bool) : Prop := ∀ l o, ops[l]? = some o → listed.getD l false = true → ∀ e ∈ o.after, Region.binds md e = true → listed.getD e.on false = true
theorem waitT_listed {i : Nat} {listed : Array Bool} (hc : Clos md ops listed) : ∀ (f k : Nat) (o : Oper), ops[k]? = some o → (∀ e ∈ o.after, Region.binds md e = true → listed.getD e.on false = true) → waitT md ops i f k = true → listed.getD i false = true
  | 0, _, _, _, _, h => by cases h
  | f + 1, k, o, ho, hw, h => by
    unfold waitT at h
    rw [ho] at h
    obtain ⟨e, he, h2⟩ := Array.any_eq_true'.1 h
    rw [Bool.and_eq_true, Bool.or_eq_true] at h2
    rcases h2.2 with h3 | h3
    · rw [← (by simpa using h3 : e.on = i)]
      exact hw e he h2.1
    · cases hq : ops[e.on]? with
      | none =>
        cases f with
        | zero => cases h3
        | succ f => unfold waitT at h3; rw [hq] at h3; cases h3
      | some o2 => exact waitT_listed hc f e.on o2 hq (hc e.on o2 hq (hw e he h2.1)) h3
theorem not_listed {i : Nat} {listed : Array Bool} (h0 : listed.getD i true = false) (h1 : listed.getD i false = true) : False := by
  by_cases h : i < listed.size
  · simp [h] at h0 h1
    rw [h0] at h1
    exact absurd h1 (by decide)
  · simp [Array.getElem?_eq_none (Nat.le_of_not_lt h)] at h1
theorem set_listed {l j : Nat} {listed : Array Bool} (h : (listed.setIfInBounds j true).getD l false = true) : l = j ∨ listed.getD l false = true := by
  by_cases e : l = j
  · exact .inl e
  · rw [getD_set_ne false (fun x => e x.symm)] at h
    exact .inr h
theorem listed_set {l j : Nat} {listed : Array Bool} (h : listed.getD l false = true) : (listed.setIfInBounds j true).getD l false = true := by
  by_cases e : j = l
  · subst e
    by_cases hs : j < listed.size
    · simp [hs]
    · simp [Array.getElem?_eq_none (Nat.le_of_not_lt hs)] at h
  · rw [getD_set_ne false e]
    exact h
/-- an operation that yields v in every world of S may be taken first, if number n waits for it -/
theorem tilN_first {i : Nat} {oi : Oper} {v : Value} (hi : ops[i]? = some oi) (hsel : ∀ (j : Nat) (o : Oper) cs b, ops[j]? = some o → o.op ≠ .select cs b)
    (hQ : ∀ c a w, Q (.panic c) (a.put oi.dst v) w → Q (.panic c) a w) (hn : ∀ k on, n ≤ k → ops[k]? = some on → waitT md ops i ops.size k = true) :
    ∀ (fuel : Nat) (listed : Array Bool) (a : Act) (w : World), Clos md ops listed →
      (∀ j oj, ops[j]? = some oj → j ≠ i → listed.getD j true = false → (∀ e ∈ oj.after, Region.binds md e = true → e.on ≠ i) → oi.apart ops oj = true) →
      i ∈ Region.ready md ops listed → YieldsIf P ops S oi v a → S w →
      wpTilN P md ops Q S n fuel (listed.setIfInBounds i true) (a.put oi.dst v) w → wpTilN P md ops Q S n (fuel + 1) listed a w := by
  intro fuel
  induction fuel with
  | zero =>
    intro listed a w _ _ hr hy hS H
    refine ⟨fun e => (by rw [e] at hr; cases hr), fun j hj => ?_⟩
    by_cases hji : j = i
    · subst hji
      exact hy.wpOp hi hS ⟨fun _ => hS, H⟩
    · have hk := ready_mono hj hji
      rw [H.1] at hk
      cases hk
  | succ fuel ih =>
    intro listed a w hcl hfree hr hy hS H
    refine ⟨fun e => (by rw [e] at hr; cases hr), fun j hj => ?_⟩
    by_cases hji : j = i
    · subst hji
      exact hy.wpOp hi hS ⟨fun _ => hS, H⟩
    · obtain ⟨hun, oj, hoj, hall⟩ := mem_ready.1 hj
      have hnot := no_waitN hr hall
      have hjn : j < n := by
        apply Classical.byContradiction
        intro hge
        exact not_listed (mem_ready.1 hr).1 (waitT_listed hcl _ j oj hoj hall (hn j oj (by omega) hoj))
      have k2 := wpOp_putIf hoj (hfree j oj hoj hji hun hnot) (fun cs b => hsel i oi cs b hi) (fun cs b => hsel j oj cs b hoj) hQ hy (H.2 j (ready_mono hj hji))
      have hfree' : ∀ k ok, ops[k]? = some ok → k ≠ i → (listed.setIfInBounds j true).getD k true = false →
          (∀ e ∈ ok.after, Region.binds md e = true → e.on ≠ i) → oi.apart ops ok = true := by
        intro k ok hk hki hu hno
        refine hfree k ok hk hki ?_ hno
        by_cases hjk : j = k
        · subst hjk; exact hun
        · rw [getD_set_ne true hjk] at hu; exact hu
      have hcl' : Clos md ops (listed.setIfInBounds j true) := by
        intro l o ho hl e he hb
        rcases set_listed hl with rfl | hl
        · rw [hoj] at ho
          injection ho with ho
          subst ho
          exact listed_set (hall e he hb)
        · exact listed_set (hcl l o ho hl e he hb)
      refine wpOp_mono (fun a' w' k3 => ⟨fun _ => k3.2.1 hjn, ih (listed.setIfInBounds j true) a' w' hcl' hfree' (ready_mono hr (Ne.symm hji)) k3.1 (k3.2.1 hjn) ?_⟩) k2
      rw [Array.setIfInBounds_comm _ _ hji]
      exact k3.2.2
/-- number n and all behind it wait for number i; what is listed is closed -/
def waitN (md : Region.Mode) (ops : Array Oper) (listed : Array Bool) (n i : Nat) : Bool :=
  ((List.range ops.size).all fun k => decide (k < n) || waitT md ops i ops.size k) &&
    (List.range ops.size).all fun l => !(listed.getD l false) || ((ops[l]?).map fun o => o.after.all fun e => !(Region.binds md e) || listed.getD e.on false).getD true
theorem tilN_take {i : Nat} {oi : Oper} {dst : Option Tmp} (v : Value) {fuel : Nat} {listed : Array Bool} {a : Act} {w : World} (hi : ops[i]? = some oi) (hd : oi.dst = dst) (hs : Region.noSelect ops = true) (hf : Region.free md ops listed i = true)
    (hr : (Region.ready md ops listed).contains i = true) (hw : waitN md ops listed n i = true) (hQ : ∀ c a w, Q (.panic c) (a.put dst v) w → Q (.panic c) a w) (hy : YieldsIf P ops S oi v a) (hS : S w)
    (h : wpTilN P md ops Q S n fuel (listed.setIfInBounds i true) (a.put dst v) w) : wpTilN P md ops Q S n (fuel + 1) listed a w := by
  subst hd
  unfold waitN at hw
  rw [Bool.and_eq_true] at hw
  have hsz : ∀ {k : Nat} {on : Oper}, ops[k]? = some on → k < ops.size := fun {k on} ho => by
    apply Classical.byContradiction
    intro h
    rw [Array.getElem?_eq_none (by omega)] at ho
    cases ho
  refine tilN_first hi (Region.noSelect_spec hs) hQ (fun k on hk ho => ?_) fuel listed a w (fun l o ho hl e he hb => ?_) (Region.free_spec hi hf) (by simpa using hr) hy hS h
  · have h1 := List.all_eq_true.1 hw.1 k (List.mem_range.2 (hsz ho))
    simp only [Bool.or_eq_true, decide_eq_true_eq] at h1
    rcases h1 with h1 | h1
    · omega
    · exact h1
  · have h1 := List.all_eq_true.1 hw.2 l (List.mem_range.2 (hsz ho))
    rw [ho, hl] at h1
    have h2 : (o.after.all fun e => !(Region.binds md e) || listed.getD e.on false) = true := by simpa using h1
    have h3 := Array.all_eq_true_iff_forall_mem.1 h2 e he
    rw [hb] at h3
    simpa using h3
/-- one operation alone may come up -/
theorem tilN_one {i : Nat} {o : Oper} {fuel : Nat} {listed : Array Bool} {a : Act} {w : World} (hr : Region.ready md ops listed = [i]) (ho : ops[i]? = some o)
    (h : ∀ K : Act → World → Prop, Shut (∀ a w, (i < n → S w) → wpTilN P md ops Q S n fuel (listed.setIfInBounds i true) a w → K a w) → if Region.wanted o (yielded ops a.tmps) = true then Oper.wp P o a w K Q else K (a.put o.dst undef) w) :
    wpTilN P md ops Q S n (fuel + 1) listed a w := by
  refine ⟨fun e => (by rw [e] at hr; cases hr), fun j hj => ?_⟩
  rw [hr] at hj
  obtain rfl : j = i := by simpa using hj
  exact wpOp_step ho (fun K hK => h K (fun a w hS hW => hK a w ⟨hS, hW⟩))
theorem tilN_done {fuel : Nat} {listed : Array Bool} {a : Act} {w : World} (hr : Region.ready md ops listed = []) (h : Q .normal a w) : wpTilN P md ops Q S n fuel listed a w := by
  cases fuel with
  | zero => exact ⟨hr, h⟩
  | succ f => exact ⟨fun _ => h, by rw [hr]; simp⟩
theorem region_tilN {id : Nat} {a : Act} {w : World} (S : World → Prop) (n : Nat) (hm : P.follows .mixedOrders = true) (h : wpTilN P .any ops Q S n ops.size (Array.replicate ops.size false) a w.drew) : (Code.region id ops true).wp P Q a w :=
  wp_region_any hm (any_of_tilN _ _ _ _ h)
end
end Go.Proofs.Ytakdmnecllcmnaa

/- Contract of numerators, for residues. -/
namespace Go.Proofs.Ytakdmnecllcmnaa
open Go.RowKit Go.WideShapes Go.ChangeShapes Go.ChangeAt

theorem pow_bd7 {p : Nat} (h : p ≤ 7) {i : Nat} (hi : i ≤ 3) (h1 : 1 ≤ p) : 1 ≤ p ^ i ∧ p ^ i ≤ 343 := by
  refine ⟨Nat.pow_pos h1, ?_⟩
  refine Nat.le_trans (Nat.pow_le_pow_left h i) ?_
  exact Nat.le_trans (Nat.pow_le_pow_right (by omega) hi) (by decide)
theorem OwnD.more {w : World} {base b' : Nat} {v : Value} {m : Int} {l : List Int} (h : OwnD w base v m l) (hb : b' ≤ base) : OwnD w b' v m l := by
  unfold OwnD at h ⊢
  refine ⟨h.1, ?_⟩
  rcases h.2 with hn | ⟨g, cap, cur, hv, hg, hh, rest⟩
  · exact .inl hn
  · exact .inr ⟨g, cap, cur, hv, Nat.le_trans hb hg, hh, rest⟩
theorem cell_addr {w : World} {g i j : Nat} {x : Option Value} (h : w.cell? ⟨g, i, none⟩ = x) (e : j = i) : w.cell? ⟨g, j, none⟩ = x := e ▸ h
set_option maxHeartbeats 4000000 in
set_option maxRecDepth 100000 in
theorem numeratorsD_any (p : Nat) (m : Int) (A : Option Addr) (c : Nat) (xs : List Int) (w : World) (h1 : 2 ≤ m) (h2 : m ≤ 100000000) (p1 : 1 ≤ p) (p7 : p ≤ 7) (hn : xs.length ≤ 3) (hx : ∀ i, 0 ≤ Ser.co xs i ∧ Ser.co xs i < m) (hr : RD w A m xs) :
    Calls Try.prog 63 #[.int .i64 p, .agg #[.int .i64 m, .int .i64 (1 % m)], .slice A xs.length c] w fun e w' => ∃ v, e = .returned v ∧ OwnD w' w.heap.size v m (Nmr.numR m p (Ser.co xs) (xs.length + 1)) ∧ Below w.heap.size w w' := by
  obtain ⟨w1, hw1⟩ : ∃ w1, w.alloc (.cells #[.int .i64 m, .int .i64 (1 % m)] 78) = w1 := ⟨_, rfl⟩
  have hb1 : Below w.heap.size w w1 := by rw [← hw1]; exact below_one _ _
  have v1 : VarC 78 w1 w.heap.size #[.int .i64 m, .int .i64 (1 % m)] := by rw [← hw1]; exact VarC.new _ _ _
  have hz1 : w1.heap.size = w.heap.size + 1 := by rw [← hw1]; simp
  have HW1 := Lib.hid hw1
  have HB1 := Lib.hid hb1
  have V1 := Lib.hid v1
  have HR := Lib.hid (hr.below hb1)
  have HX := Lib.hid hx
  obtain ⟨n, hN⟩ : ∃ n, xs.length = n := ⟨_, rfl⟩
  have HN := Lib.hid hN
  have HSC := Lib.hid (fun x W0 (h : 0 ≤ x ∧ x < m) => res_scaled_any m x (p : Int) W0 (by omega) h2 (by
    have := Int.mul_le_mul (show x ≤ 100000000 by omega) (show (p : Int) ≤ 7 by omega) (by omega) (by omega)
    have := Int.mul_nonneg h.1 (show (0 : Int) ≤ p by omega)
    omega))
  have HS0 := Lib.hid (fun W0 => by
    have h := res_scaled_any m (1 % m) 0 W0 (by omega) h2 (by rw [Int.mul_zero]; omega)
    rw [Int.mul_zero, Int.zero_emod] at h
    exact h)
  have HPW := Lib.hid (fun x k W0 (h : 0 ≤ x ∧ x < m) (hk : k ≤ 1000000) (k1 : 1 ≤ k) => powerRK_any m x k W0 (by omega) h2 h hk k1)
  have HTI := Lib.hid (fun x y W0 (h : 0 ≤ x ∧ x < m) (h' : 0 ≤ y ∧ y < m) => res_times_any m x y W0 (by omega) h2 (mulGr2 h h' h2))
  have HPL := Lib.hid (fun x y W0 (h : 0 ≤ x ∧ x < m) (h' : 0 ≤ y ∧ y < m) => res_plus_any m x y W0 (by omega) h2 (by omega) (by omega))
  have HMO := Lib.hid (fun x : Int => (⟨Int.emod_nonneg x (by omega), Int.emod_lt_of_pos x (by omega)⟩ : 0 ≤ x % m ∧ x % m < m))
  have HP := Lib.hid (fun i (hi : i ≤ 3) => pow_bd7 (p := p) p7 hi p1)
  have HST := Lib.hid (fun k i => Nmr.hs_step m p (fun i => Nmr.num p (Ser.co xs) i * Ser.co xs (k - i) ^ (p ^ i)) (Nmr.num p (Ser.co xs) i % m) (Ser.co xs (k - i) ^ (p ^ i) % m) i (Ser.mul_cong (Int.emod_emod _ _) (Int.emod_emod _ _)))
  rw [hN] at hn ⊢
  have mhs := fun (a b : Value) (w : World) => (show (method 242 78 (.agg #[a, b]) "loop.example/g01152/impl.scaled").run Try.prog w = .ok (142, .agg #[a, b]) w by kernel_rfl)
  have mht := fun (a b : Value) (w : World) => (show (method 242 78 (.agg #[a, b]) "loop.example/g01152/impl.times").run Try.prog w = .ok (143, .agg #[a, b]) w by kernel_rfl)
  have mhp := fun (a b : Value) (w : World) => (show (method 242 78 (.agg #[a, b]) "loop.example/g01152/impl.plus").run Try.prog w = .ok (141, .agg #[a, b]) w by kernel_rfl)
  have u1 : OwnD (w1.alloc (.cells #[.int .i64 m, .int .i64 (1 % m)] 78)) w1.heap.size (.slice (some ⟨w1.heap.size, 0, none⟩) 1 1) m (Nmr.numR m p (Ser.co xs) 1) := OwnD.one _ _ _
  obtain ⟨W, hW⟩ : ∃ W, w1.alloc (.cells #[.int .i64 m, .int .i64 (1 % m)] 78) = W := ⟨_, rfl⟩
  rw [hW] at u1
  have U1 := Lib.hid u1
  have HWB := Lib.hid (show Below w1.heap.size w1 W by rw [← hW]; exact below_one _ _)
  have HW := Lib.hid hW
  obtain ⟨a1, b1, -, -⟩ := v1.tells2
  clear hw1 hb1 v1 hr hx hN hW u1
  go_enter Try.func63, Try.ntmps63
  go_upto_region 1 with fail
  rw [HW1.out]
  go_upto_region 2 with fail
  rw [HW.out]
  have hzz : w.heap.size ≤ w1.heap.size := HB1.out.size
  clear a1 b1
  go_wp2
  go_loopw [7, 8, 9, 10, 11, 12, 17] (fun s7 _ _ _ _ _ s17 wr => ∃ (k : Nat) (A1 : Option Addr) (c1 : Nat), k ≤ n ∧ s17 = .int .i64 k ∧ s7 = .slice A1 (k + 1) c1 ∧ OwnD wr w1.heap.size (.slice A1 (k + 1) c1) m (Nmr.numR m p (Ser.co xs) (k + 1)) ∧ Below w1.heap.size w1 wr) (fun _ _ _ _ _ _ s17 _ => n + 1 - (intOf s17).toNat)
  case atStart => exact ⟨0, _, _, Nat.zero_le _, rfl, rfl, by rw [← hz1]; exact U1.out, HWB.out⟩
  case round =>
    clear U1 HWB HW HW1
    obtain ⟨wo, hwo⟩ : ∃ wo, wo = wr := ⟨_, rfl⟩
    subst hwo
    obtain ⟨k, A1, c1, hk, rfl, rfl, ho, hb⟩ := hrel
    have HO := Lib.hid ho
    have HB := Lib.hid hb
    by_cases hlt : k < n
    · have i1 : (k : Int) < (n : Int) := by omega
      obtain ⟨a1, b1, -, -⟩ := (V1.out.keep hb).tells2
      clear ho hb
      go_upto_region 5 with fail
      go_wp2_with fail
      refine (HS0.out wo).mono ?_
      rintro e wa ⟨rfl, hba⟩
      obtain ⟨X0, hX0⟩ : ∃ X0, wa.alloc (.cells #[.int .i64 m, .int .i64 0] 78) = X0 := ⟨_, rfl⟩
      have v9 : VarC 78 X0 wa.heap.size #[.int .i64 m, .int .i64 0] := by rw [← hX0]; exact VarC.new _ _ _
      have hb0 : Below wo.heap.size wo X0 := by rw [← hX0]; exact below_alloc _ hba
      have hg9 : wo.heap.size ≤ wa.heap.size := hba.size
      have HX0 := Lib.hid hX0
      have V9 := Lib.hid v9
      have HB0 := Lib.hid hb0
      have HO0 := Lib.hid (HO.out.keep hb0)
      obtain ⟨g9, hg⟩ : ∃ g9, wa.heap.size = g9 := ⟨_, rfl⟩
      rw [hg] at V9 hg9
      clear v9 hb0 hX0 hba a1 b1
      go_upto_region 7 with fail
      rw [HX0.out]
      clear HX0 hg
      go_wp2
      go_loopw [10, 11, 12, 25] (fun s10 _ _ s25 wx => ∃ i : Nat, i ≤ k + 1 ∧ s25 = .int .i64 i ∧ s10 = .int .i64 (p ^ i : Nat) ∧ VarC 78 wx g9 #[.int .i64 m, .int .i64 (Nmr.hs p (fun i => Nmr.num p (Ser.co xs) i * Ser.co xs (k - i) ^ (p ^ i)) i % m)] ∧ OwnD wx w1.heap.size (.slice A1 (k + 1) c1) m (Nmr.numR m p (Ser.co xs) (k + 1)) ∧ Below wo.heap.size wo wx) (fun _ _ _ s25 _ => k + 2 - (intOf s25).toNat)
      case atStart => exact ⟨0, Nat.zero_le _, rfl, rfl, V9.out, HO0.out, HB0.out⟩
      case round =>
        clear V9 HO0 HB0
        obtain ⟨i, hi, rfl, rfl, v9, ho, hb⟩ := hrel
        have V9 := Lib.hid v9
        have HO1 := Lib.hid ho
        have HB1' := Lib.hid hb
        by_cases hil : i < k + 1
        · have i2 : (i : Int) < (k : Int) + 1 := by omega
          have hl1 := Nmr.numR_length m p (Ser.co xs) (k + 1)
          obtain ⟨gl, e, hgl, hcl⟩ := (ho.rd) (by intro h; rw [h] at hl1; simp at hl1)
          subst e
          obtain ⟨l1, l2⟩ := hcl i (by rw [hl1]; exact hil)
          rw [Nmr.numR_co hil] at l2
          obtain ⟨N, hNN⟩ : ∃ N, Nmr.num p (Ser.co xs) i % m = N := ⟨_, rfl⟩
          rw [hNN] at l2
          clear ho hcl hl1 v9 hb
          go_upto_region 10 with fail
          obtain ⟨r, hsub⟩ : ∃ r : Nat, (k : Int) - (i : Int) = (r : Int) := ⟨k - i, by omega⟩
          have hsn : k - i = r := by omega
          have hb2 := HB1'.out
          have v9 := V9.out.keep (below_one wr (.cells #[.int .i64 m, .int .i64 N] 78))
          have v12 := VarC.new 78 wr #[.int .i64 m, .int .i64 N]
          have hb3 := below_alloc (.cells #[.int .i64 m, .int .i64 N] 78) hb2
          have ho2 := HO1.out.keep (below_one wr (.cells #[.int .i64 m, .int .i64 N] 78))
          obtain ⟨Z, hZ⟩ : ∃ Z, wr.alloc (.cells #[.int .i64 m, .int .i64 N] 78) = Z := ⟨_, rfl⟩
          obtain ⟨g12, hg12⟩ : ∃ g12, wr.heap.size = g12 := ⟨_, rfl⟩
          rw [hZ] at v9 v12 hb3 ho2
          have h99 : g9 < wr.heap.size := V9.out.lt
          rw [hg12] at v12 h99
          have hbz : Below w1.heap.size w1 Z := below_step HB.out hb3
          obtain ⟨gp, e, hgp, hpc⟩ := (HR.out.below hbz) (by intro h; have := HN.out; rw [h] at this; simp at this; omega)
          subst e
          obtain ⟨p1', p2'⟩ := hpc r (by rw [HN.out]; omega)
          have hxr := HX.out r
          have hst := HST.out k i
          rw [hsn] at hst
          have hS := HMO.out (Nmr.hs p (fun i => Nmr.num p (Ser.co xs) i * Ser.co xs (k - i) ^ (p ^ i)) i)
          have hN1 := HMO.out (Nmr.num p (Ser.co xs) i)
          have hpi := HP.out i (by omega)
          obtain ⟨S, hS9⟩ : ∃ S, Nmr.hs p (fun i => Nmr.num p (Ser.co xs) i * Ser.co xs (k - i) ^ (p ^ i)) i % m = S := ⟨_, rfl⟩
          obtain ⟨S2, hS2⟩ : ∃ S2, Nmr.hs p (fun i => Nmr.num p (Ser.co xs) i * Ser.co xs (k - i) ^ (p ^ i)) (i + 1) % m = S2 := ⟨_, rfl⟩
          obtain ⟨V, hV⟩ : ∃ V, Ser.co xs r = V := ⟨_, rfl⟩
          obtain ⟨K, hK9⟩ : ∃ K, p ^ i = K := ⟨_, rfl⟩
          rw [hS9] at hS hst v9
          rw [hS2] at hst
          rw [hV] at hxr hst p2'
          rw [hK9] at hst hpi
          rw [hNN] at hst hN1
          rw [hK9, hZ, hg12]
          have HS2 := Lib.hid hS2
          have HK9 := Lib.hid hK9
          have HPWZ := Lib.hid (fun W0 => HPW.out V K W0 hxr (by omega) hpi.1)
          have HSCZ := Lib.hid (fun W0 => HSC.out S W0 hS)
          have HTIZ := Lib.hid (fun W0 => HTI.out N (V ^ K % m) W0 hN1 (HMO.out _))
          have HPLZ := Lib.hid (fun W0 => HPL.out (S * p % m) (N * (V ^ K % m) % m) W0 (HMO.out _) (HMO.out _))
          have HSTZ := Lib.hid (show (S * p + N * (V ^ K % m)) % m = S2 by rw [← hst, Int.emod_add_emod, Int.add_emod_emod])
          have HWR := Lib.hid (show IntKind.i64.wrap (r : Int) = r by rw [IntKind.wrap_i64]; omega)
          have hkp : 0 ≤ (K : Int) * (p : Int) ∧ (K : Int) * (p : Int) ≤ 2401 := by
            refine ⟨Int.mul_nonneg (by omega) (by omega), ?_⟩
            have := Int.mul_le_mul (show (K : Int) ≤ 343 by omega) (show (p : Int) ≤ 7 by omega) (by omega) (by omega)
            omega
          have HOZ := Lib.hid ho2
          have HBZ := Lib.hid hb3
          have V9Z := Lib.hid v9
          have HK : Hid (∀ W0, Below Z.heap.size Z W0 → (W0.cell? ⟨g9, 0, none⟩ = some (.int .i64 m) ∧ W0.cell? ⟨g9, 1, none⟩ = some (.int .i64 S)) ∧ (W0.cell? ⟨g12, 0, none⟩ = some (.int .i64 m) ∧ W0.cell? ⟨g12, 1, none⟩ = some (.int .i64 N)) ∧ (W0.cell? ⟨gp, r * 2, none⟩ = some (.int .i64 m) ∧ W0.cell? ⟨gp, r * 2 + 1, none⟩ = some (.int .i64 V))) :=
            Lib.hid (fun W0 h => by
              obtain ⟨x1, x2, -⟩ := (v9.keep h).tells2
              obtain ⟨y1, y2, -⟩ := (v12.keep h).tells2
              exact ⟨⟨x1, x2⟩, ⟨y1, y2⟩, (h.cell (p := ⟨gp, r * 2, none⟩) hgp).trans p1', (h.cell (p := ⟨gp, r * 2 + 1, none⟩) hgp).trans p2'⟩)
          have HSK0 := Lib.hid (HK.out _ (below_drew0 Z))
          have i3 : (r : Int) < (n : Int) := by omega
          have i4 : (0 : Int) ≤ (r : Int) := by omega
          clear hb2 v9 v12 hb3 ho2 hZ hg12 hbz hpc p1' p2' hst hS9 hS2 hV hK9 hNN l1 l2
          refine region_tilN (fun w' => (w'.cell? ⟨g9, 0, none⟩ = some (.int .i64 m) ∧ w'.cell? ⟨g9, 1, none⟩ = some (.int .i64 S)) ∧ (w'.cell? ⟨g12, 0, none⟩ = some (.int .i64 m) ∧ w'.cell? ⟨g12, 1, none⟩ = some (.int .i64 N)) ∧ (w'.cell? ⟨gp, r * 2, none⟩ = some (.int .i64 m) ∧ w'.cell? ⟨gp, r * 2 + 1, none⟩ = some (.int .i64 V))) 17 (by kernel_rfl) ?_
          refine tilN_take (i := 0) (dst := some 30) (.agg #[.int .i64 m, .int .i64 S]) rfl rfl (by kernel_rfl) (by kernel_rfl) (by kernel_rfl) (by kernel_rfl) (fun _ _ _ h => h) (Or.inl ⟨by rfl, ?_⟩) HSK0.out ?_
          · rintro w' ⟨⟨z1, z2⟩, ⟨z3, z4⟩, z5, z6⟩
            go_simp
          simp only [Act.put, List.setIfInBounds_toArray, List.set_cons_zero, List.set_cons_succ]
          refine tilN_take (i := 1) (dst := some 31) (.iface 78 (.agg #[.int .i64 m, .int .i64 S])) rfl rfl (by kernel_rfl) (by kernel_rfl) (by kernel_rfl) (by kernel_rfl) (fun _ _ _ h => h) (Or.inl ⟨by rfl, ?_⟩) HSK0.out ?_
          · rintro w' ⟨⟨z1, z2⟩, ⟨z3, z4⟩, z5, z6⟩
            go_simp
          simp only [Act.put, List.setIfInBounds_toArray, List.set_cons_zero, List.set_cons_succ]
          refine tilN_take (i := 2) (dst := some 32) (.int .i64 p) rfl rfl (by kernel_rfl) (by kernel_rfl) (by kernel_rfl) (by kernel_rfl) (fun _ _ _ h => h) (Or.inl ⟨by rfl, ?_⟩) HSK0.out ?_
          · rintro w' ⟨⟨z1, z2⟩, ⟨z3, z4⟩, z5, z6⟩
            go_simp
          simp only [Act.put, List.setIfInBounds_toArray, List.set_cons_zero, List.set_cons_succ]
          refine tilN_take (i := 5) (dst := some 35) (.agg #[.int .i64 m, .int .i64 N]) rfl rfl (by kernel_rfl) (by kernel_rfl) (by kernel_rfl) (by kernel_rfl) (fun _ _ _ h => h) (Or.inl ⟨by rfl, ?_⟩) HSK0.out ?_
          · rintro w' ⟨⟨z1, z2⟩, ⟨z3, z4⟩, z5, z6⟩
            go_simp
          simp only [Act.put, List.setIfInBounds_toArray, List.set_cons_zero, List.set_cons_succ]
          refine tilN_take (i := 6) (dst := some 36) (.iface 78 (.agg #[.int .i64 m, .int .i64 N])) rfl rfl (by kernel_rfl) (by kernel_rfl) (by kernel_rfl) (by kernel_rfl) (fun _ _ _ h => h) (Or.inl ⟨by rfl, ?_⟩) HSK0.out ?_
          · rintro w' ⟨⟨z1, z2⟩, ⟨z3, z4⟩, z5, z6⟩
            go_simp
          simp only [Act.put, List.setIfInBounds_toArray, List.set_cons_zero, List.set_cons_succ]
          refine tilN_take (i := 7) (dst := some 37) (.slice (some ⟨gp, 0, none⟩) n c) rfl rfl (by kernel_rfl) (by kernel_rfl) (by kernel_rfl) (by kernel_rfl) (fun _ _ _ h => h) (Or.inl ⟨by rfl, ?_⟩) HSK0.out ?_
          · rintro w' ⟨⟨z1, z2⟩, ⟨z3, z4⟩, z5, z6⟩
            go_simp
          simp only [Act.put, List.setIfInBounds_toArray, List.set_cons_zero, List.set_cons_succ]
          refine tilN_take (i := 8) (dst := some 38) (.int .i64 k) rfl rfl (by kernel_rfl) (by kernel_rfl) (by kernel_rfl) (by kernel_rfl) (fun _ _ _ h => h) (Or.inl ⟨by rfl, ?_⟩) HSK0.out ?_
          · rintro w' ⟨⟨z1, z2⟩, ⟨z3, z4⟩, z5, z6⟩
            go_simp
          simp only [Act.put, List.setIfInBounds_toArray, List.set_cons_zero, List.set_cons_succ]
          refine tilN_take (i := 9) (dst := some 39) (.int .i64 i) rfl rfl (by kernel_rfl) (by kernel_rfl) (by kernel_rfl) (by kernel_rfl) (fun _ _ _ h => h) (Or.inl ⟨by rfl, ?_⟩) HSK0.out ?_
          · rintro w' ⟨⟨z1, z2⟩, ⟨z3, z4⟩, z5, z6⟩
            go_simp
          simp only [Act.put, List.setIfInBounds_toArray, List.set_cons_zero, List.set_cons_succ]
          refine tilN_take (i := 10) (dst := some 40) (.int .i64 r) rfl rfl (by kernel_rfl) (by kernel_rfl) (by kernel_rfl) (by kernel_rfl) (fun _ _ _ h => h) (Or.inl ⟨by rfl, ?_⟩) HSK0.out ?_
          · rintro w' ⟨⟨z1, z2⟩, ⟨z3, z4⟩, z5, z6⟩
            go_simp
            exact HWR.out
          simp only [Act.put, List.setIfInBounds_toArray, List.set_cons_zero, List.set_cons_succ]
          refine tilN_take (i := 11) (dst := some 41) (.pointer (some ⟨gp, r * 2, none⟩)) rfl rfl (by kernel_rfl) (by kernel_rfl) (by kernel_rfl) (by kernel_rfl) (fun _ _ _ h => h) (Or.inl ⟨by rfl, ?_⟩) HSK0.out ?_
          · rintro w' ⟨⟨z1, z2⟩, ⟨z3, z4⟩, z5, z6⟩
            go_simp
          simp only [Act.put, List.setIfInBounds_toArray, List.set_cons_zero, List.set_cons_succ]
          refine tilN_take (i := 12) (dst := some 42) (.agg #[.int .i64 m, .int .i64 V]) rfl rfl (by kernel_rfl) (by kernel_rfl) (by kernel_rfl) (by kernel_rfl) (fun _ _ _ h => h) (Or.inl ⟨by rfl, ?_⟩) HSK0.out ?_
          · rintro w' ⟨⟨z1, z2⟩, ⟨z3, z4⟩, z5, z6⟩
            go_simp
          simp only [Act.put, List.setIfInBounds_toArray, List.set_cons_zero, List.set_cons_succ]
          refine tilN_take (i := 13) (dst := some 43) (.int .i64 K) rfl rfl (by kernel_rfl) (by kernel_rfl) (by kernel_rfl) (by kernel_rfl) (fun _ _ _ h => h) (Or.inl ⟨by rfl, ?_⟩) HSK0.out ?_
          · rintro w' ⟨⟨z1, z2⟩, ⟨z3, z4⟩, z5, z6⟩
            go_simp
          simp only [Act.put, List.setIfInBounds_toArray, List.set_cons_zero, List.set_cons_succ]
          refine tilN_one (i := 3) (by kernel_rfl) rfl (fun K hK => ?_)
          go_simp
          (with_reducible refine Calls.mono (HSCZ.out _) ?_; rintro e w5 ⟨rfl, hb5⟩; have b5 := below_step (below_drew0 Z) hb5)
          dsimp only
          refine hK.out _ _ (fun _ => HK.out _ b5) ?_
          clear hK K
          try simp only [Act.put, List.setIfInBounds_toArray, List.set_cons_zero, List.set_cons_succ]
          refine tilN_take (i := 4) (dst := some 34) (.iface 78 (.agg #[.int .i64 m, .int .i64 (S * p % m)])) rfl rfl (by kernel_rfl) (by kernel_rfl) (by kernel_rfl) (by kernel_rfl) (fun _ _ _ h => h) (Or.inl ⟨by rfl, ?_⟩) (HK.out _ b5) ?_
          · rintro w' ⟨⟨z1, z2⟩, ⟨z3, z4⟩, z5, z6⟩
            go_simp
          simp only [Act.put, List.setIfInBounds_toArray, List.set_cons_zero, List.set_cons_succ]
          refine tilN_one (i := 14) (by kernel_rfl) rfl (fun K hK => ?_)
          go_simp
          (with_reducible refine Calls.mono (HPWZ.out _) ?_; rintro e w6 ⟨rfl, hb6⟩; have b6 := below_step b5 hb6)
          dsimp only
          refine hK.out _ _ (fun _ => HK.out _ b6) ?_
          clear hK K
          try simp only [Act.put, List.setIfInBounds_toArray, List.set_cons_zero, List.set_cons_succ]
          refine tilN_one (i := 15) (by kernel_rfl) rfl (fun K hK => ?_)
          go_simp
          (with_reducible refine Calls.mono (HTIZ.out _) ?_; rintro e w7 ⟨rfl, hb7⟩; have b7 := below_step b6 hb7)
          dsimp only
          refine hK.out _ _ (fun _ => HK.out _ b7) ?_
          clear hK K
          try simp only [Act.put, List.setIfInBounds_toArray, List.set_cons_zero, List.set_cons_succ]
          refine tilN_one (i := 16) (by kernel_rfl) rfl (fun K hK => ?_)
          go_simp
          (with_reducible refine Calls.mono (HPLZ.out _) ?_; rintro e w8 ⟨rfl, hb8⟩; have b8 := below_step b7 hb8; have hv9 := V9Z.out.keep b8; obtain ⟨y0, y1, y2, y3⟩ := hv9.tells2)
          dsimp only
          refine hK.out _ _ (fun _ => HK.out _ b8) ?_
          clear hK K
          try simp only [Act.put, List.setIfInBounds_toArray, List.set_cons_zero, List.set_cons_succ]
          refine tilN_one (i := 17) (by kernel_rfl) rfl (fun K hK => ?_)
          go_simp
          refine hK.out _ _ (fun hlt => absurd hlt (by decide)) ?_
          clear hK K
          refine tilN_done (by kernel_rfl) ?_
          obtain ⟨Y, hY⟩ : ∃ Y, set2 w8 g9 (.int .i64 m) (.int .i64 S2) = Y := ⟨_, rfl⟩
          have nb : Below wo.heap.size wo Y := by rw [← hY]; exact below_set2 (below_step HBZ.out b8) hg9 _ _
          have n9 : VarC 78 Y g9 #[.int .i64 m, .int .i64 S2] := by rw [← hY]; exact (hv9.set 0 (.int .i64 m)).set 1 (.int .i64 S2)
          have HY := Lib.hid hY
          have NB := Lib.hid nb
          have N9 := Lib.hid n9
          unfold set2 at HY
          clear hY nb n9 hv9 y0 y1 y2 y3 hb8 hb7 hb6 hb5 b5 b6 b7 b8
          rw [HSTZ.out, HY.out]
          have HKP := Lib.hid (show (K : Int) * (p : Int) = ((p ^ (i + 1) : Nat) : Int) by rw [Nat.pow_succ, HK9.out, Int.natCast_mul])
          clear HSCZ HTIZ HPLZ HPWZ HSTZ HK HSK0 HWR V9Z HOZ HBZ
          go_wp2
          go_roundw
          case rel => exact ⟨i + 1, by omega, by go_num, by rw [HKP.out], by rw [HS2.out]; exact N9.out, HO.out.keep NB.out, NB.out⟩
          case measure => simp only [intOf]; omega
        · obtain rfl : i = k + 1 := by omega
          have i2 : ¬ (((k + 1 : Nat) : Int) < (k : Int) + 1) := by omega
          obtain ⟨y0, y1, -, -⟩ := v9.tells2
          rw [← Nmr.num_succ] at y1
          have hst := (Nmr.numR_succ m p (Ser.co xs) (k + 1)).symm
          have hlen := Nmr.numR_length m p (Ser.co xs) (k + 1)
          have hlen2 := Nmr.numR_length m p (Ser.co xs) (k + 1 + 1)
          obtain ⟨L1, hL1⟩ : ∃ L1, Nmr.numR m p (Ser.co xs) (k + 1) = L1 := ⟨_, rfl⟩
          obtain ⟨L2, hL2⟩ : ∃ L2, Nmr.numR m p (Ser.co xs) (k + 1 + 1) = L2 := ⟨_, rfl⟩
          obtain ⟨E, hE⟩ : ∃ E, Nmr.num p (Ser.co xs) (k + 1) % m = E := ⟨_, rfl⟩
          rw [hL1, hL2, hE] at hst
          rw [hL1] at hlen ho
          rw [hL2] at hlen2
          rw [hE] at y1
          have HL2 := Lib.hid hL2
          have HST2 := Lib.hid hst
          have HLEN := Lib.hid hlen
          have HLEN2 := Lib.hid hlen2
          have HO2 := Lib.hid ho
          have HB2 := Lib.hid (below_step HB.out hb)
          have hsz : w1.heap.size ≤ wr.heap.size := HB2.out.size
          clear v9 hL1 hL2 hE hst hlen hlen2 ho hb HX HR HSC HS0 HPW HTI HPL HMO HP HST
          go_wp2_with (at_builtin; refine wp_pushD _ _ _ (by rfl) (by rfl) Try.underlying76 w1.heap.size _ m _ (by rfl) HO2.out E (by rfl) (by rw [HLEN.out]; omega) hsz ?_; intro v' wz hoz hbz)
          rw [HST2.out] at hoz
          obtain ⟨A5, c5, rfl⟩ := hoz.form
          rw [HLEN2.out] at hoz ⊢
          have hbz2 := HB2.out.trans hbz
          go_wp2
          go_roundw
          case rel => exact ⟨k + 1, A5, c5, by omega, by go_num, rfl, by rw [HL2.out]; exact hoz, hbz2⟩
          case measure => simp only [intOf]; omega
    · obtain rfl : k = n := by omega
      have i1 : ¬ ((k : Int) < (k : Int)) := by omega
      have HF := Lib.hid (below_step HB1.out hb)
      clear ho hb
      go_wp2
      go_ret
      exact ⟨_, rfl, OwnD.more HO.out hzz, HF.out⟩

end Go.Proofs.Ytakdmnecllcmnaa

/- Contract of numeratorsModulo. -/
namespace Go.Proofs.Ytakdmnecllcmnaa
open Go.RowKit Go.WideShapes Go.ChangeShapes Go.ChangeAt

theorem co_modL (m : Int) (l : List Int) (i : Nat) : Ser.co (l.map (· % m)) i = Ser.co l i % m := by
  unfold Ser.co
  rw [List.getElem?_map]
  cases l[i]? with
  | none => show (0 : Int) = 0 % m; rw [Int.zero_emod]
  | some x => rfl
theorem numR_modL (m : Int) (p : Nat) (l : List Int) (n : Nat) : Nmr.numR m p (Ser.co (l.map (· % m))) n = Nmr.numR m p (Ser.co l) n := by
  unfold Nmr.numR
  refine List.map_congr_left (fun i _ => ?_)
  exact Nmr.num_cong (fun j => by rw [co_modL, Int.emod_emod]) i i (Nat.le_refl _)
theorem take_modL (m : Int) (l : List Int) (k : Nat) (hk : k < l.length) : (l.take k).map (· % m) ++ [Ser.co l k % m] = (l.take (k + 1)).map (· % m) := by
  rw [List.take_succ_eq_append_getElem hk, List.map_append, List.map_cons, List.map_nil]
  unfold Ser.co
  rw [List.getElem?_eq_getElem hk]; rfl
theorem take_numR (m : Int) (p : Nat) (v : Nat → Int) (k : Nat) : Nmr.numR m p v k ++ [Nmr.num p v k % m] = Nmr.numR m p v (k + 1) := (Nmr.numR_succ m p v k).symm
set_option maxHeartbeats 4000000 in
set_option maxRecDepth 100000 in
theorem numeratorsModulo_any (p : Nat) (m : Int) (A : Option Addr) (c : Nat) (l : List Int) (w : World) (h1 : 2 ≤ m) (h2 : m ≤ 100000000) (p1 : 1 ≤ p) (p7 : p ≤ 7) (hn : l.length ≤ 3) (hx : ∀ i, -1000000000 ≤ Ser.co l i ∧ Ser.co l i ≤ 1000000000) (hr : RI w A l) :
    Calls Try.prog 28 #[.int .i64 p, .int .i64 m, .slice A l.length c] w fun e w' => ∃ v, e = .returned v ∧ OwnI w' w.heap.size v (Nmr.numR m p (Ser.co l) (l.length + 1)) ∧ Below w.heap.size w w' := by
  have HR := Lib.hid hr
  have HX := Lib.hid hx
  obtain ⟨n, hN⟩ : ∃ n, l.length = n := ⟨_, rfl⟩
  have HN := Lib.hid hN
  have HRS := Lib.hid (fun x W0 (h : -1000000000 ≤ x ∧ x ≤ 1000000000) => residueOf_any m x W0 (by omega) h2 (by omega) (by omega))
  have HR1 := Lib.hid (fun W0 => residueOf_any m 1 W0 (by omega) h2 (by omega) (by omega))
  have HNM := Lib.hid (fun A1 c1 W0 (h : RD W0 A1 m (l.map (· % m))) => by
    have := numeratorsD_any p m A1 c1 (l.map (· % m)) W0 h1 h2 p1 p7 (by rw [List.length_map]; exact hn) (fun i => by rw [co_modL]; exact ⟨Int.emod_nonneg _ (by omega), Int.emod_lt_of_pos _ (by omega)⟩) h
    rw [List.length_map, numR_modL, hN] at this
    exact this)
  have HT := Lib.hid (fun k (hk : k < n) => take_modL m l k (by rw [hN]; exact hk))
  rw [hN] at hn ⊢
  clear hr hx hN
  go_enter Try.func28, Try.ntmps28
  go_wp2
  go_loopw [7, 9, 15] (fun s7 _ s15 wr => ∃ k : Nat, k ≤ n ∧ s15 = .int .i64 k ∧ OwnD wr w.heap.size s7 m ((l.take k).map (· % m)) ∧ Below w.heap.size w wr) (fun _ _ s15 _ => n + 1 - (intOf s15).toNat)
  case atStart => exact ⟨0, Nat.zero_le _, rfl, OwnD.nil _ _ _, Below.refl _ _⟩
  case round =>
    obtain ⟨k, hk, rfl, ho, hb⟩ := hrel
    by_cases hlt : k < n
    · have i1 : (k : Int) < (n : Int) := by omega
      have i2 : (0 : Int) ≤ (k : Int) := by omega
      obtain ⟨b, off, rfl, hbl, hc⟩ := (HR.out.below hb).at k (by rw [HN.out]; exact hlt)
      have hxk := HX.out k
      have hst := HT.out k hlt
      have hll : ((l.take k).map (· % m)).length = k := by rw [List.length_map, List.length_take, HN.out]; omega
      obtain ⟨X, hX⟩ : ∃ X, Ser.co l k = X := ⟨_, rfl⟩
      rw [hX] at hc hxk hst
      obtain ⟨L, hL⟩ : ∃ L, (l.take k).map (· % m) = L := ⟨_, rfl⟩
      rw [hL] at ho hll hst
      have HRX := Lib.hid (fun W0 => HRS.out X W0 hxk)
      have HO := Lib.hid ho
      have HB := Lib.hid hb
      have HST := Lib.hid hst
      have HLL := Lib.hid hll
      clear ho hb hst hll hX hL HR HX HN HRS HR1 HNM HT hxk
      go_wp2_with fail
      refine (HRX.out _).mono ?_
      rintro e w2 ⟨rfl, hb2⟩
      have HO2 := Lib.hid (HO.out.keep hb2)
      have HB2 := Lib.hid (below_step HB.out hb2)
      have hsz : w.heap.size ≤ w2.heap.size := HB2.out.size
      clear hb2
      go_wp2_with (at_builtin; refine wp_pushD _ _ _ (by rfl) (by rfl) Try.underlying76 w.heap.size _ m _ (by rfl) HO2.out (X % m) (by rfl) (by rw [HLL.out]; omega) hsz ?_; intro v' w3 ho3 hb3)
      rw [HST.out] at ho3
      have hB3 := HB2.out.trans hb3
      go_wp2
      go_roundw
      case rel => exact ⟨k + 1, by omega, by go_num, ho3, hB3⟩
      case measure => simp only [intOf]; omega
    · obtain rfl : k = n := by omega
      rw [List.take_of_length_le (by rw [HN.out]; omega)] at ho
      obtain ⟨A1, c1, hA1⟩ := ho.form
      subst hA1
      rw [List.length_map, HN.out] at ho ⊢
      have HD := Lib.hid ho
      have HB := Lib.hid hb
      obtain ⟨wo, hwo⟩ : ∃ wo, wo = wr := ⟨_, rfl⟩
      subst hwo
      clear ho hb HR HX HRS HT
      go_wp2_with fail
      refine (HR1.out _).mono ?_
      rintro e w2 ⟨rfl, hb2⟩
      have HD2 := Lib.hid ((HD.out.keep hb2).rd)
      have HB2 := Lib.hid (below_step HB.out hb2)
      clear hb2 HD HB HR1
      go_wp2_with fail
      refine (HNM.out _ _ _ HD2.out).mono ?_
      rintro e w3 ⟨v, rfl, ho, hb3⟩
      obtain ⟨A3, c3, hA3⟩ := ho.form
      subst hA3
      rw [Nmr.numR_length] at ho ⊢
      have HB3 := Lib.hid (below_step HB2.out hb3)
      have HD3 := Lib.hid (ho.rd)
      have hws : w.heap.size ≤ w3.heap.size := HB3.out.size
      clear ho hb3 HNM HD2 HB2
      go_wp2
      go_loopw [10, 12, 32] (fun s10 _ s32 wr => ∃ j : Nat, j ≤ k + 1 ∧ s32 = .int .i64 j ∧ OwnI wr w3.heap.size s10 (Nmr.numR m p (Ser.co l) j) ∧ Below w3.heap.size w3 wr) (fun _ _ s32 _ => k + 2 - (intOf s32).toNat)
      case atStart => exact ⟨0, Nat.zero_le _, rfl, OwnI.nil _ _, Below.refl _ _⟩
      case round =>
        obtain ⟨j, hj, rfl, ho, hb⟩ := hrel
        by_cases hlt : j < k + 1
        · have i1 : (j : Int) < (k : Int) + 1 := by omega
          have i2 : (0 : Int) ≤ (j : Int) := by omega
          have hl1 := Nmr.numR_length m p (Ser.co l) (k + 1)
          obtain ⟨gl, e, hgl, hcl⟩ := (HD3.out.below hb) (by intro h; rw [h] at hl1; simp at hl1)
          subst e
          obtain ⟨l1, l2⟩ := hcl j (by rw [hl1]; exact hlt)
          rw [Nmr.numR_co hlt] at l2
          have hst := take_numR m p (Ser.co l) j
          have hll := Nmr.numR_length m p (Ser.co l) j
          obtain ⟨X, hX⟩ : ∃ X, Nmr.num p (Ser.co l) j % m = X := ⟨_, rfl⟩
          rw [hX] at l2 hst
          obtain ⟨L, hL⟩ : ∃ L, Nmr.numR m p (Ser.co l) j = L := ⟨_, rfl⟩
          rw [hL] at ho hll hst
          have v12 := VarC.new 78 wr #[.int .i64 m, .int .i64 X]
          obtain ⟨Z, hZ⟩ : ∃ Z, wr.alloc (.cells #[.int .i64 m, .int .i64 X] 78) = Z := ⟨_, rfl⟩
          have hoz := ho.keep (below_one wr (.cells #[.int .i64 m, .int .i64 X] 78))
          have hbz := below_alloc (.cells #[.int .i64 m, .int .i64 X] 78) hb
          rw [hZ] at v12 hoz hbz
          obtain ⟨z1, z2, -, -⟩ := v12.tells2
          have HO := Lib.hid hoz
          have HB := Lib.hid hbz
          have HST := Lib.hid hst
          have HLL := Lib.hid hll
          have HZ := Lib.hid hZ
          have hsz : w3.heap.size ≤ Z.heap.size := hbz.size
          clear ho hb hst hll hX hL hZ hoz hbz v12 hcl hl1 HN
          go_upto_region 11 with fail
          rw [HZ.out]
          clear l1 l2
          go_wp2_with (at_builtin; refine wp_push _ _ _ (by rfl) (by rfl) Try.underlying22 w3.heap.size _ _ (by rfl) HO.out X (by rfl) (by rw [HLL.out]; omega) hsz ?_; intro v' w4 ho4 hb4)
          rw [HST.out] at ho4
          have hB4 := HB.out.trans hb4
          go_wp2
          go_roundw
          case rel => exact ⟨j + 1, by omega, by go_num, ho4, hB4⟩
          case measure => simp only [intOf]; omega
        · obtain rfl : j = k + 1 := by omega
          have i1 : ¬ (((k + 1 : Nat) : Int) < (k : Int) + 1) := by omega
          have HO := Lib.hid ho
          have HB := Lib.hid hb
          clear ho hb
          go_wp2
          go_ret
          exact ⟨_, rfl, OwnI.more HO.out hws, below_step HB3.out HB.out⟩

end Go.Proofs.Ytakdmnecllcmnaa

/- Contract of the model's numerators. -/
namespace Go.Proofs.Ytakdmnecllcmnaa
open Go.RowKit Go.WideShapes Go.ChangeShapes Go.ChangeAt

theorem pow_bd7' {p : Nat} (h : p ≤ 7) {i : Nat} (hi : i ≤ 3) (h1 : 1 ≤ p) : 1 ≤ p ^ i ∧ p ^ i ≤ 343 := by
  refine ⟨Nat.pow_pos h1, ?_⟩
  refine Nat.le_trans (Nat.pow_le_pow_left h i) ?_
  exact Nat.le_trans (Nat.pow_le_pow_right (by omega) hi) (by decide)
/-- the model's sum so far -/
def nsum (p : Nat) (v : Nat → Int) (k i : Nat) : Int := Ser.psum (fun j => (p : Int) ^ (k - j) * (Nmr.num p v j * v (k - j) ^ (p ^ j))) i
theorem nsum_end (p : Nat) (v : Nat → Int) (k : Nat) : nsum p v k (k + 1) = Nmr.num p v (k + 1) := by
  rw [Nmr.num_succ, Nmr.hs_psum]; rfl
theorem nsum_step (m : Int) (p : Nat) (v : Nat → Int) (k i : Nat) :
    (nsum p v k i % m + ((p : Int) ^ (k - i) % m * (Nmr.num p v i % m) % m) * (v (k - i) ^ (p ^ i) % m)) % m = nsum p v k (i + 1) % m := by
  unfold nsum
  rw [Ser.psum]
  refine Ser.add_cong (Int.emod_emod _ _) ?_
  rw [← Int.mul_assoc]
  exact Ser.mul_cong ((Int.emod_emod _ _).trans (Ser.mul_cong (Int.emod_emod _ _) (Int.emod_emod _ _))) (Int.emod_emod _ _)
set_option maxHeartbeats 4000000 in
set_option maxRecDepth 100000 in
theorem l09Numerators_any (p : Nat) (m : Int) (A : Option Addr) (c : Nat) (l : List Int) (w : World) (h1 : 2 ≤ m) (h2 : m ≤ 100000000) (p1 : 1 ≤ p) (p7 : p ≤ 7) (hn : l.length ≤ 3) (hx : ∀ i, 0 ≤ Ser.co l i ∧ Ser.co l i ≤ 100000000) (hr : RI w A l) :
    Calls Try.prog 26 #[.int .i64 p, .int .i64 m, .slice A l.length c] w fun e w' => ∃ v, e = .returned v ∧ OwnI w' w.heap.size v (Nmr.numR m p (Ser.co l) (l.length + 1)) ∧ Below w.heap.size w w' := by
  have HR := Lib.hid hr
  have HX := Lib.hid hx
  obtain ⟨n, hN⟩ : ∃ n, l.length = n := ⟨_, rfl⟩
  have HN := Lib.hid hN
  have HPW := Lib.hid (fun x k W0 (h : 0 ≤ x ∧ x ≤ 100000000) (hk : k ≤ 1000000) => l01PowB_any m x k W0 h.1 h.2 h1 h2 (by omega))
  have HMO := Lib.hid (fun x : Int => (⟨Int.emod_nonneg x (by omega), Int.emod_lt_of_pos x (by omega)⟩ : 0 ≤ x % m ∧ x % m < m))
  have HMU := Lib.hid (fun x y (h : 0 ≤ x ∧ x < m) (h' : 0 ≤ y ∧ y < m) => mulGr h.1 h.2 h'.1 h'.2 h2)
  have HP := Lib.hid (fun i (hi : i ≤ 3) => pow_bd7' (p := p) p7 hi p1)
  have HST := Lib.hid (fun k i => nsum_step m p (Ser.co l) k i)
  rw [hN] at hn ⊢
  have u1 : OwnI (w.alloc (.cells #[.int .i64 (1 % m)] 2)) w.heap.size (.slice (some ⟨w.heap.size, 0, none⟩) 1 1) (Nmr.numR m p (Ser.co l) 1) := OwnI.one _ _
  obtain ⟨W, hW⟩ : ∃ W, w.alloc (.cells #[.int .i64 (1 % m)] 2) = W := ⟨_, rfl⟩
  rw [hW] at u1
  have U1 := Lib.hid u1
  have HWB := Lib.hid (show Below w.heap.size w W by rw [← hW]; exact below_one _ _)
  have HW := Lib.hid hW
  have HM0 : ¬ m = 0 := by omega
  clear hr hx hN hW u1
  go_enter Try.func26, Try.ntmps26
  go_upto_region 2 with fail
  rw [HW.out]
  go_wp2
  go_loopw [7, 8, 9, 10, 11, 12] (fun s7 s8 _ _ _ _ wr => ∃ (k : Nat) (A1 : Option Addr) (c1 : Nat), k ≤ n ∧ s8 = .int .i64 ((k : Int) + 1) ∧ s7 = .slice A1 (k + 1) c1 ∧ OwnI wr w.heap.size (.slice A1 (k + 1) c1) (Nmr.numR m p (Ser.co l) (k + 1)) ∧ Below w.heap.size w wr) (fun _ s8 _ _ _ _ _ => n + 2 - (intOf s8).toNat)
  case atStart => exact ⟨0, _, _, Nat.zero_le _, rfl, rfl, U1.out, HWB.out⟩
  case round =>
    clear U1 HWB HW
    obtain ⟨wo, hwo⟩ : ∃ wo, wo = wr := ⟨_, rfl⟩
    subst hwo
    obtain ⟨k, A1, c1, hk, rfl, rfl, ho, hb⟩ := hrel
    have HO := Lib.hid ho
    have HB := Lib.hid hb
    clear ho hb
    by_cases hlt : k < n
    · have i1 : (k : Int) + 1 ≤ (n : Int) := by omega
      go_wp2
      go_loopw [9, 10, 11, 12] (fun s9 s10 s11 _ wx => Below wo.heap.size wo wx ∧ ∃ i : Nat, i ≤ k + 1 ∧ s11 = .int .i64 i ∧ s10 = .int .i64 (p ^ i : Nat) ∧ s9 = .int .i64 (nsum p (Ser.co l) k i % m)) (fun _ _ s11 _ _ => k + 2 - (intOf s11).toNat)
      case atStart => exact ⟨Below.refl _ _, 0, Nat.zero_le _, rfl, rfl, rfl⟩
      case round =>
        obtain ⟨hbx, i, hi, rfl, rfl, rfl⟩ := hrel
        have HBX := Lib.hid hbx
        by_cases hil : i < k + 1
        · have i2 : (i : Int) < (k : Int) + 1 := by omega
          obtain ⟨r, hsub⟩ : ∃ r : Nat, (k : Int) - (i : Int) = (r : Int) := ⟨k - i, by omega⟩
          have hsn : k - i = r := by omega
          have hl1 := Nmr.numR_length m p (Ser.co l) (k + 1)
          obtain ⟨g1, o1, rfl, hg1, hc1⟩ := (HO.out.ri.below hbx).at i (by rw [hl1]; exact hil)
          rw [Nmr.numR_co hil] at hc1
          obtain ⟨g2, o2, rfl, hg2, hc2⟩ := ((HR.out.below HB.out).below hbx).at r (by rw [HN.out]; omega)
          have hst := HST.out k i
          rw [hsn] at hst
          have hxr := HX.out r
          have hpi := HP.out i (by omega)
          have hS := HMO.out (nsum p (Ser.co l) k i)
          have hN1 := HMO.out (Nmr.num p (Ser.co l) i)
          have hQ := HMO.out ((p : Int) ^ r)
          obtain ⟨S, hS9⟩ : ∃ S, nsum p (Ser.co l) k i % m = S := ⟨_, rfl⟩
          obtain ⟨S2, hS2⟩ : ∃ S2, nsum p (Ser.co l) k (i + 1) % m = S2 := ⟨_, rfl⟩
          obtain ⟨V, hV⟩ : ∃ V, Ser.co l r = V := ⟨_, rfl⟩
          obtain ⟨K, hK9⟩ : ∃ K, p ^ i = K := ⟨_, rfl⟩
          obtain ⟨N, hNN⟩ : ∃ N, Nmr.num p (Ser.co l) i % m = N := ⟨_, rfl⟩
          obtain ⟨Q, hQQ⟩ : ∃ Q, (p : Int) ^ r % m = Q := ⟨_, rfl⟩
          rw [hK9, hV] at hst
          obtain ⟨T, hTT⟩ : ∃ T, V ^ K % m = T := ⟨_, rfl⟩
          have hT := HMO.out (V ^ K)
          rw [hTT] at hT hst
          rw [hS9] at hS hst
          rw [hS2] at hst
          rw [hNN] at hN1 hst hc1
          rw [hQQ] at hQ hst
          rw [hV] at hc2 hxr
          rw [hK9] at hpi
          rw [hK9, hS9]
          have hO := HMO.out (Q * N)
          have b1 := HMU.out Q N hQ hN1
          have hQN : (Q * N) % m = Q * N % m := rfl
          obtain ⟨O, hOO⟩ : ∃ O, Q * N % m = O := ⟨_, rfl⟩
          rw [hOO] at hO hst
          have b2 := HMU.out O T hO hT
          have HP1 := Lib.hid (fun W0 (x : Int) (hx : x = (r : Int)) => by have := HPW.out (p : Int) r W0 (by omega) (by omega); rw [hQQ, ← hx] at this; exact this)
          have HP2 := Lib.hid (fun W0 => by have := HPW.out V K W0 hxr (by omega); rw [hTT] at this; exact this)
          have HS2 := Lib.hid hS2
          have HK9 := Lib.hid hK9
          have HST2 := Lib.hid hst
          have HOO := Lib.hid hOO
          have hkp : 0 ≤ (K : Int) * (p : Int) ∧ (K : Int) * (p : Int) ≤ 2401 := by
            refine ⟨Int.mul_nonneg (by omega) (by omega), ?_⟩
            have := Int.mul_le_mul (show (K : Int) ≤ 343 by omega) (show (p : Int) ≤ 7 by omega) (by omega) (by omega)
            omega
          have HKP := Lib.hid (show (K : Int) * (p : Int) = ((p ^ (i + 1) : Nat) : Int) by rw [Nat.pow_succ, HK9.out, Int.natCast_mul])
          have HTM := Lib.hid (show (IntKind.i64.wrap (Q * N)).tmod m = O by rw [show IntKind.i64.wrap (Q * N) = Q * N by rw [IntKind.wrap_i64]; omega, Int.tmod_eq_emod_of_nonneg b1.1]; exact HOO.out)
          have HWK := Lib.hid (show IntKind.i64.wrap (k : Int) = k by rw [IntKind.wrap_i64]; omega)
          have HWR := Lib.hid (show IntKind.i64.wrap ((k : Int) - (i : Int)) = r by rw [IntKind.wrap_i64]; omega)
          have i3 : (0 : Int) ≤ (r : Int) := by omega
          have i4 : (r : Int) < (n : Int) := by omega
          clear hst hS9 hS2 hV hK9 hNN hQQ hTT hOO hl1 HPW HMO HMU HP HST HX HR hxr hQN
          go_wp2_with fail
          go_quiet ((go_at_call 32; exact Calls.quiet_of_same ((HP1.out _ _ (by rw [HWK.out, HWR.out])).mono fun _ _ h => ⟨h.1, h.2.symm⟩)))
          obtain ⟨Z, hZ⟩ : ∃ Z, wr.drewN nq = Z := ⟨_, rfl⟩
          have hbz : Below wr.heap.size wr Z := by rw [← hZ]; exact below_drewN (Below.refl _ _) _
          have hc2' := (hbz.cell (p := ⟨g2, o2 + r, none⟩) hg2).trans hc2
          have hc3 : Z.cell? ⟨g2, o2 + (k + 1 - i - 1), none⟩ = some (.int .i64 V) := by rw [show k + 1 - i - 1 = r by omega]; exact hc2'
          have HBZ := Lib.hid (below_step HBX.out hbz)
          rw [HTM.out, hZ]
          clear hZ hc1 hc2 hc2' hbz hbx HTM HWK HWR
          go_wp2_with (go_at_call 32; with_reducible refine Calls.mono (HP2.out _) ?_; rintro e w' ⟨rfl, rfl⟩)
          rw [HST2.out]
          go_roundw
          case rel => exact ⟨HBZ.out, i + 1, by omega, by go_num, by rw [HKP.out], by rw [HS2.out]⟩
          case measure => simp only [intOf]; omega
        · obtain rfl : i = k + 1 := by omega
          have i2 : ¬ (((k + 1 : Nat) : Int) < (k : Int) + 1) := by omega
          have hst := (Nmr.numR_succ m p (Ser.co l) (k + 1)).symm
          have hlen := Nmr.numR_length m p (Ser.co l) (k + 1)
          have hlen2 := Nmr.numR_length m p (Ser.co l) (k + 1 + 1)
          rw [nsum_end]
          have ho := HO.out.keep hbx
          obtain ⟨L1, hL1⟩ : ∃ L1, Nmr.numR m p (Ser.co l) (k + 1) = L1 := ⟨_, rfl⟩
          obtain ⟨L2, hL2⟩ : ∃ L2, Nmr.numR m p (Ser.co l) (k + 1 + 1) = L2 := ⟨_, rfl⟩
          obtain ⟨E, hE⟩ : ∃ E, Nmr.num p (Ser.co l) (k + 1) % m = E := ⟨_, rfl⟩
          rw [hL1, hE] at hst
          rw [hL2] at hst hlen2
          rw [hL1] at hlen ho
          rw [hE]
          have HL2 := Lib.hid hL2
          have HST2 := Lib.hid hst
          have HLEN := Lib.hid hlen
          have HLEN2 := Lib.hid hlen2
          have HO2 := Lib.hid ho
          have HB2 := Lib.hid (below_step HB.out hbx)
          have hsz : w.heap.size ≤ wr.heap.size := HB2.out.size
          clear hL1 hL2 hE hst hlen hlen2 ho hbx HX HR HPW HMO HMU HP HST
          go_wp2_with (at_builtin; refine wp_push _ _ _ (by rfl) (by rfl) Try.underlying22 w.heap.size _ _ (by rfl) HO2.out E (by rfl) (by rw [HLEN.out]; omega) hsz ?_; intro v' wz hoz hbz)
          rw [HST2.out] at hoz
          obtain ⟨A5, c5, hv5, -⟩ := hoz.form
          subst hv5
          rw [HLEN2.out] at hoz ⊢
          have hbz2 := HB2.out.trans hbz
          go_wp2
          go_roundw
          case rel => exact ⟨k + 1, A5, c5, by omega, by go_num, rfl, by rw [HL2.out]; exact hoz, hbz2⟩
          case measure => simp only [intOf]; omega
    · obtain rfl : k = n := by omega
      have i1 : ¬ ((k : Int) + 1 ≤ (k : Int)) := by omega
      go_wp2
      go_ret
      exact ⟨_, rfl, HO.out, HB.out⟩

end Go.Proofs.Ytakdmnecllcmnaa

/- Plain number theory: what trial division tells. No program in sight. -/
namespace Go.Proofs.Ytakdmnecllcmnaa
namespace Num

/-- n is a prime number -/
def prB (n : Int) : Bool := decide (1 < n ∧ ∀ d : Nat, d < n.toNat → 2 ≤ d → ¬ (d : Int) ∣ n)
theorem prB_iff (n : Int) : prB n = true ↔ 1 < n ∧ ∀ d : Nat, d < n.toNat → 2 ≤ d → ¬ (d : Int) ∣ n := by unfold prB; exact decide_eq_true_iff
theorem prB_small {n : Int} (h : n < 4) : prB n = decide (1 < n) := by
  rw [Bool.eq_iff_iff, prB_iff, decide_eq_true_iff]
  constructor
  · exact fun h => h.1
  · refine fun h1 => ⟨h1, fun d h2 h3 h4 => ?_⟩
    obtain ⟨rfl, rfl⟩ : d = 2 ∧ n = 3 := by omega
    omega
theorem prB_no {n : Int} (d : Nat) (h1 : 2 ≤ d) (h2 : (d : Int) < n) (h3 : n % (d : Int) = 0) : prB n = false := by
  rw [← Bool.not_eq_true, prB_iff]
  exact fun h => h.2 d (by omega) h1 (Int.dvd_of_emod_eq_zero h3)

/-- no divisor of n from 2 on lies below d -/
def LowI (d : Nat) (n : Int) : Prop := ∀ e : Nat, 2 ≤ e → e < d → ¬ (e : Int) ∣ n
theorem LowI.two (n : Int) : LowI 2 n := fun e h1 h2 => by omega
theorem LowI.succ {d : Nat} {n : Int} (h : LowI d n) (hn : ¬ n % (d : Int) = 0) : LowI (d + 1) n := by
  intro e h1 h2
  rcases (show e < d ∨ e = d by omega) with c | rfl
  · exact h e h1 c
  · exact fun h3 => hn (Int.emod_eq_zero_of_dvd h3)
theorem LowI.prime {d : Nat} {n : Int} (h : LowI d n) (hn : 1 < n) (hd : n < (d : Int) * d) : prB n = true := by
  refine (prB_iff n).2 ⟨hn, fun e h1 h2 h3 => ?_⟩
  obtain ⟨N, rfl⟩ := Int.eq_ofNat_of_zero_le (show 0 ≤ n by omega)
  have h3' : e ∣ N := Int.natCast_dvd_natCast.1 h3
  obtain ⟨f, hf⟩ := h3'
  have hd' : N < d * d := by rw [← Int.natCast_mul] at hd; omega
  have hde : d ≤ e := by
    apply Nat.le_of_not_lt
    intro hlt
    exact h e h2 hlt h3
  have hf2 : 2 ≤ f := by
    apply Nat.le_of_not_lt
    intro hlt
    have : f = 0 ∨ f = 1 := by omega
    rcases this with rfl | rfl <;> simp at hf <;> omega
  have hdf : d ≤ f := by
    apply Nat.le_of_not_lt
    intro hlt
    exact h f hf2 hlt (Int.natCast_dvd_natCast.2 ⟨e, by rw [hf, Nat.mul_comm]⟩)
  have := Nat.mul_le_mul hde hdf
  omega
theorem LowI.start {n : Int} (h2 : ¬ n % 2 = 0) (h3 : ¬ n % 3 = 0) : LowI 5 n := by
  intro e h1 h4 h5
  have := Int.emod_eq_zero_of_dvd h5
  rcases (show e = 2 ∨ e = 3 ∨ e = 4 by omega) with rfl | rfl | rfl <;> omega
theorem LowI.six {m : Nat} {n : Int} (h : LowI (m - 1) n) (hm : 6 ≤ m) (h6 : m % 6 = 0) (ha : ¬ n % ((m : Int) - 1) = 0) (hb : ¬ n % ((m : Int) + 1) = 0) : LowI (m + 5) n := by
  intro e h1 h2 h3
  have hz := Int.emod_eq_zero_of_dvd h3
  rcases (show e < m - 1 ∨ e = m - 1 ∨ e = m + 1 ∨ e % 2 = 0 ∨ e % 3 = 0 by omega) with c | rfl | rfl | c | c
  · exact h e h1 c h3
  · apply ha
    rw [← hz]; congr 1; omega
  · apply hb
    rw [← hz]; congr 1
  · refine h 2 (by omega) (by omega) (Int.dvd_trans ?_ h3)
    exact Int.natCast_dvd_natCast.2 (Nat.dvd_of_mod_eq_zero c)
  · refine h 3 (by omega) (by omega) (Int.dvd_trans ?_ h3)
    exact Int.natCast_dvd_natCast.2 (Nat.dvd_of_mod_eq_zero c)
theorem sq_le {d c : Int} (h0 : 0 ≤ d) (h : d ≤ c) : 0 ≤ d * d ∧ d * d ≤ c * c :=
  ⟨Int.mul_nonneg h0 h0, Int.mul_le_mul h h h0 (by omega)⟩
theorem lin_sq {d k : Int} (h0 : 0 ≤ d) (h : k ≤ d) : k * d ≤ d * d := Int.mul_le_mul_of_nonneg_right h h0

end Num
end Go.Proofs.Ytakdmnecllcmnaa

/- Contracts of the two trial divisions. -/
namespace Go.Proofs.Ytakdmnecllcmnaa
open Go.RowKit Go.WideShapes Go.ChangeShapes Go.ChangeAt

theorem idx0 (x y : Value) (w : World) : (Instr.index 121 (.agg #[x, y]) (.int .i64 0)).run Try.prog w = .ok x w := by kernel_rfl
theorem idx1 (x y : Value) (w : World) : (Instr.index 121 (.agg #[x, y]) (.int .i64 1)).run Try.prog w = .ok y w := by kernel_rfl

set_option maxHeartbeats 1000000 in
theorem isPrime_any (n : Int) (w : World) (h2 : n ≤ 1000000000000) :
    Calls Try.prog 98 #[.int .i64 n] w fun e w' => e = .returned (.bool (Num.prB n)) ∧ w = w' := by
  by_cases h4 : n < 4
  · have HF := Lib.hid (Num.prB_small h4)
    go_enter Try.func98, Try.ntmps98
    go_wp2
    go_step3
    go_wp2
    rw [Exit.noGoto_ret]
    go_ret
    exact ⟨ret_bool (by rw [HF.out]), rfl⟩
  · have i0 := idx0
    have i1 := idx1
    by_cases hz2 : n % 2 = 0
    · have HF := Lib.hid (Num.prB_no (n := n) 2 (by omega) (by omega) hz2)
      go_enter Try.func98, Try.ntmps98
      go_wp2
      go_step3
      go_wp2
      go_step3
      go_wp2
      refine wp_loop_rounds 1 ?_
      rw [rounds_succ]
      go_wp2
      rw [Exit.noGoto_ret]
      go_ret
      exact ⟨ret_bool HF.out.symm, rfl⟩
    · by_cases hz3 : n % 3 = 0
      · have HF := Lib.hid (Num.prB_no (n := n) 3 (by omega) (by omega) hz3)
        go_enter Try.func98, Try.ntmps98
        go_wp2
        go_step3
        go_wp2
        go_step3
        go_wp2
        refine wp_loop_rounds 1 ?_
        rw [rounds_succ]
        go_wp2
        rw [Exit.noGoto_ret]
        go_ret
        exact ⟨ret_bool HF.out.symm, rfl⟩
      · have HS := Lib.hid (Num.LowI.start hz2 hz3)
        have HP := Lib.hid (show (n % 2 != 0 && n % 3 != 0) = true by simp [hz2, hz3])
        go_enter Try.func98, Try.ntmps98
        go_wp2
        go_step3
        go_wp2
        go_step3
        go_wp2
        clear hz2 hz3
        go_loopg [3, 4] 1000100 (fun g p m wr => w = wr ∧ ∃ M : Nat, p = .bool true ∧ m = .int .i64 M ∧ 6 ≤ M ∧ M ≤ 1000008 ∧ M % 6 = 0 ∧ g + M = 1000106 ∧ Num.LowI (M - 1) n)
        case atStart => exact ⟨rfl, 6, by rw [HP.out], rfl, by omega, by omega, by omega, by omega, HS.out⟩
        case round =>
          obtain ⟨rfl, M, rfl, rfl, m1, m2, m6, hg, hlow⟩ := hrel
          have HL := Lib.hid hlow
          have HG := Lib.hid hg
          have H6 := Lib.hid m6
          clear hlow hg m6
          obtain ⟨p1, p2⟩ := Num.sq_le (d := (M : Int) - 1) (c := 1000007) (by omega) (by omega)
          have p3 : ((M : Int) - 1) * (M - 1) ≤ 1000014000049 := by omega
          clear p2
          by_cases hsq : ((M : Int) - 1) * (M - 1) ≤ n
          · have hlin := Num.lin_sq (d := (M : Int) - 1) (k := 5) (by omega) (by omega)
            by_cases ha : n % ((M : Int) - 1) = 0
            · have HF := Lib.hid (Num.prB_no (n := n) (M - 1) (by omega) (by omega) (by rw [← ha]; congr 1; omega))
              have ha' : (n % ((M : Int) - 1) == 0) = true := by simpa using ha
              clear ha
              go_wp2
              refine wp_loop_rounds 3 ?_
              rw [rounds_succ]
              go_wp2
              rw [Exit.noGoto_ret]
              go_ret
              exact ⟨ret_bool HF.out.symm, rfl⟩
            · have ha' : (n % ((M : Int) - 1) == 0) = false := by simpa using ha
              by_cases hb : n % ((M : Int) + 1) = 0
              · have HF := Lib.hid (Num.prB_no (n := n) (M + 1) (by omega) (by omega) (by rw [← hb]; congr 1))
                have hb' : (n % ((M : Int) + 1) == 0) = true := by simpa using hb
                clear ha hb
                go_wp2
                refine wp_loop_rounds 3 ?_
                rw [rounds_succ]
                go_wp2
                rw [rounds_succ]
                go_wp2
                rw [Exit.noGoto_ret]
                go_ret
                exact ⟨ret_bool HF.out.symm, rfl⟩
              · have HN := Lib.hid (Num.LowI.six HL.out m1 H6.out ha hb)
                have hb' : (n % ((M : Int) + 1) == 0) = false := by simpa using hb
                have hM : M ≤ 1000002 := by
                  apply Nat.le_of_not_lt; intro hlt
                  have := Num.sq_le (d := 1000002) (c := (M : Int) - 1) (by omega) (by omega)
                  omega
                clear ha hb
                go_wp2
                refine wp_loop_rounds 3 ?_
                rw [rounds_succ]
                go_wp2
                rw [rounds_succ]
                go_wp2
                rw [rounds_succ]
                go_wp2
                have hG := HG.out
                go_roundg (gk - 6)
                case measure => omega
                case rel => exact ⟨rfl, M + 6, by first | rfl | rw [HP.out], by go_num, by omega, by omega, by have := H6.out; omega, by omega, HN.out⟩
          · have HF := Lib.hid (Num.LowI.prime (d := M - 1) HL.out (by omega) (by rw [show ((M - 1 : Nat) : Int) = (M : Int) - 1 from by omega]; omega))
            go_wp2
            go_ret
            exact ⟨ret_bool HF.out.symm, rfl⟩

end Go.Proofs.Ytakdmnecllcmnaa

/- Contracts of the codes of chapter 9: a prime number, a modulus, parameters. -/
namespace Go.Proofs.Ytakdmnecllcmnaa
open Go.RowKit Go.WideShapes Go.ChangeShapes Go.ChangeAt

/-- one of the four primes -/
def isP4 (p : Int) : Bool := decide (p = 2 ∨ p = 3 ∨ p = 5 ∨ p = 7)
theorem isP4_iff (p : Int) : isP4 p = true ↔ p = 2 ∨ p = 3 ∨ p = 5 ∨ p = 7 := by simp [isP4]
theorem isP4_prB {p : Int} (h : p ≤ 7) : Num.prB p = isP4 p := by
  by_cases h0 : p < 4
  · rw [Num.prB_small h0, Bool.eq_iff_iff, decide_eq_true_iff, isP4_iff]; omega
  · rcases (show p = 4 ∨ p = 5 ∨ p = 6 ∨ p = 7 by omega) with rfl | rfl | rfl | rfl <;> decide
theorem isTypicalPrime_any (p : Int) (w : World) :
    Calls Try.prog 61 #[.int .i64 p] w fun e w' => e = .returned (.bool (isP4 p)) ∧ w = w' := by
  by_cases h : p ≤ 7
  · have HP := Lib.hid (isP4_prB h)
    have h2 : p ≤ 1000000000000 := by omega
    go_enter Try.func61, Try.ntmps61
    go_wp2_with (go_at_call 98; refine (isPrime_any _ _ h2).mono ?_; rintro e w' ⟨rfl, rfl⟩)
    go_ret
    exact ⟨ret_bool HP.out, rfl⟩
  · have HP := Lib.hid (show isP4 p = false by rw [← Bool.not_eq_true, isP4_iff]; omega)
    go_enter Try.func61, Try.ntmps61
    go_wp2
    go_ret
    exact ⟨ret_bool HP.out.symm, rfl⟩
theorem l09Prime_any (p : Int) (w : World) :
    Calls Try.prog 59 #[.int .i64 p] w fun e w' => e = .returned (.bool (isP4 p)) ∧ w = w' := by
  have HP := Lib.hid (show (p == 2 || p == 3 || p == 5 || p == 7) = isP4 p by
    rw [Bool.eq_iff_iff, isP4_iff]
    simp only [Bool.or_eq_true, beq_iff_eq]
    omega)
  go_enter Try.func59, Try.ntmps59
  go_wp2
  all_goals
    go_ret
    exact ⟨ret_bool (by first | exact HP.out | (rw [← HP.out]; simp [*])), rfl⟩

/-- the code of a prime number, a modulus and parameters, of which there are at least so many -/
def codeT (p m : Int) (l : List Int) (k : Nat) : Int :=
  if codeN m l = 0 then (if isP4 p = true ∧ k ≤ l.length ∧ l.length ≤ 3 then 0 else 2) else codeN m l
theorem codeT_ok {p m : Int} {l : List Int} {k : Nat} (h : codeT p m l k = 0) : (2 ≤ m ∧ m ≤ 10000) ∧ allIn 0 (m - 1) l = true ∧ (p = 2 ∨ p = 3 ∨ p = 5 ∨ p = 7) ∧ k ≤ l.length ∧ l.length ≤ 3 := by
  unfold codeT at h
  by_cases h0 : codeN m l = 0
  · rw [if_pos h0] at h
    unfold codeN at h0
    by_cases hm : isM m = true
    · rw [if_pos hm] at h0
      by_cases ha : allIn 0 (m - 1) l = true
      · by_cases hp : isP4 p = true ∧ k ≤ l.length ∧ l.length ≤ 3
        · exact ⟨(isM_iff m).1 hm, ha, (isP4_iff p).1 hp.1, hp.2⟩
        · rw [if_neg hp] at h; omega
      · rw [if_neg ha] at h0; omega
    · rw [if_neg hm] at h0; omega
  · rw [if_neg h0] at h; exact absurd h h0
theorem codeN_cases (m : Int) (l : List Int) : codeN m l = 0 ∨ codeN m l = 1 ∨ codeN m l = 2 := by
  unfold codeN; split <;> (try split) <;> simp
theorem codeT_cases (p m : Int) (l : List Int) (k : Nat) : codeT p m l k = 0 ∨ codeT p m l k = 1 ∨ codeT p m l k = 2 := by
  unfold codeT
  split
  · split <;> simp
  · exact codeN_cases m l

set_option maxHeartbeats 1000000 in
theorem codeOfTypical_any (p m : Int) (A : Option Addr) (c : Nat) (l : List Int) (k : Nat) (w : World) (hl : l.length ≤ 9223372036854775807) (hr : RI w A l) :
    Calls Try.prog 27 #[.int .i64 p, .int .i64 m, .slice A l.length c, .int .i64 k] w fun e w' => e = .returned (.int .i64 (codeT p m l k)) ∧ w = w' := by
  have HC := Lib.hid (codeOfNumbers_any m A c l w hl hr)
  have HQ := Lib.hid (isTypicalPrime_any p w)
  clear hr
  by_cases h0 : codeN m l = 0
  · have HF := Lib.hid (show codeT p m l k = if isP4 p = true ∧ k ≤ l.length ∧ l.length ≤ 3 then 0 else 2 by unfold codeT; rw [if_pos h0])
    rw [h0] at HC
    clear h0
    by_cases hp : isP4 p = true
    · rw [hp] at HQ
      by_cases hc : k ≤ l.length ∧ l.length ≤ 3
      · have hw := inB_yes (n := (l.length : Int)) (lo := (k : Int)) (hi := 3) (by omega) (by omega)
        have HF2 := Lib.hid (show codeT p m l k = 0 by rw [HF.out, if_pos ⟨hp, hc⟩])
        clear hc hp HF
        go_enter Try.func27, Try.ntmps27
        go_wp2_with (first | (go_at_call 54; refine HC.out.mono ?_; rintro e w' ⟨rfl, rfl⟩) | (go_at_call 61; refine HQ.out.mono ?_; rintro e w' ⟨rfl, rfl⟩) | (go_at_call 55; refine (isWithin_any _ _ _ _).mono ?_; rintro e w' ⟨rfl, rfl⟩))
        go_ret
        exact ⟨ret_int HF2.out.symm, rfl⟩
      · have hw := inB_no (n := (l.length : Int)) (lo := (k : Int)) (hi := 3) (by omega)
        have HF2 := Lib.hid (show codeT p m l k = 2 by rw [HF.out, if_neg (fun h => hc h.2)])
        clear hc hp HF
        go_enter Try.func27, Try.ntmps27
        go_wp2_with (first | (go_at_call 54; refine HC.out.mono ?_; rintro e w' ⟨rfl, rfl⟩) | (go_at_call 61; refine HQ.out.mono ?_; rintro e w' ⟨rfl, rfl⟩) | (go_at_call 55; refine (isWithin_any _ _ _ _).mono ?_; rintro e w' ⟨rfl, rfl⟩))
        go_ret
        exact ⟨ret_int HF2.out.symm, rfl⟩
    · have HF2 := Lib.hid (show codeT p m l k = 2 by rw [HF.out, if_neg (fun h => hp h.1)])
      rw [show isP4 p = false by simpa using hp] at HQ
      clear hp HF
      go_enter Try.func27, Try.ntmps27
      go_wp2_with (first | (go_at_call 54; refine HC.out.mono ?_; rintro e w' ⟨rfl, rfl⟩) | (go_at_call 61; refine HQ.out.mono ?_; rintro e w' ⟨rfl, rfl⟩))
      go_ret
      exact ⟨ret_int HF2.out.symm, rfl⟩
  · have HF := Lib.hid (show codeT p m l k = codeN m l by unfold codeT; rw [if_neg h0])
    obtain ⟨n1, n2⟩ := ne_facts h0
    clear h0
    go_enter Try.func27, Try.ntmps27
    go_wp2_with (go_at_call 54; refine HC.out.mono ?_; rintro e w' ⟨rfl, rfl⟩)
    go_ret
    exact ⟨ret_int HF.out.symm, rfl⟩

set_option maxHeartbeats 1000000 in
theorem l09Code_any (p m : Int) (A : Option Addr) (c : Nat) (l : List Int) (k : Nat) (w : World) (hl : l.length ≤ 9223372036854775807) (hr : RI w A l) :
    Calls Try.prog 25 #[.int .i64 p, .int .i64 m, .slice A l.length c, .int .i64 k] w fun e w' => e = .returned (.int .i64 (codeT p m l k)) ∧ w = w' := by
  by_cases hm : isM m = true
  · obtain ⟨hm2, hm3⟩ := (isM_iff m).1 hm
    have HN := Lib.hid (l01Numbers_any m A c l w hm2 hm3 hl hr)
    have HQ := Lib.hid (l09Prime_any p w)
    have HF := Lib.hid (show codeT p m l k = if allIn 0 (m - 1) l = true ∧ isP4 p = true ∧ k ≤ l.length ∧ l.length ≤ 3 then 0 else 2 by
      unfold codeT codeN
      rw [if_pos hm]
      by_cases ha : allIn 0 (m - 1) l = true
      · rw [if_pos ha, if_pos rfl]; simp only [ha, true_and]
      · rw [if_neg ha, if_neg (by omega), if_neg (fun h => ha h.1)])
    have HM := Lib.hid (l01Modulus_any m w)
    rw [hm] at HM
    clear hr hm hm2 hm3
    by_cases hp : isP4 p = true
    · rw [hp] at HQ
      by_cases ha : allIn 0 (m - 1) l = true
      · rw [ha] at HN
        by_cases h1 : k ≤ l.length
        · by_cases h2 : l.length ≤ 3
          · have HF2 := Lib.hid (show codeT p m l k = 0 by rw [HF.out, if_pos ⟨ha, hp, h1, h2⟩])
            have q1 : ¬ (l.length : Int) < (k : Int) := by omega
            have q2 : ¬ (l.length : Int) > (3 : Int) := by omega
            clear ha hp HF
            go_enter Try.func25, Try.ntmps25
            go_wp2_with (first | (go_at_call 58; refine HM.out.mono ?_; rintro e w' ⟨rfl, rfl⟩) | (go_at_call 59; refine HQ.out.mono ?_; rintro e w' ⟨rfl, rfl⟩) | (go_at_call 60; refine HN.out.mono ?_; rintro e w' ⟨rfl, rfl⟩))
            go_ret
            exact ⟨ret_int HF2.out.symm, rfl⟩
          · have HF2 := Lib.hid (show codeT p m l k = 2 by rw [HF.out, if_neg (fun h => h2 h.2.2.2)])
            have q1 : ¬ (l.length : Int) < (k : Int) := by omega
            have q2 : (l.length : Int) > (3 : Int) := by omega
            clear ha hp HF h2
            go_enter Try.func25, Try.ntmps25
            go_wp2_with (first | (go_at_call 58; refine HM.out.mono ?_; rintro e w' ⟨rfl, rfl⟩) | (go_at_call 59; refine HQ.out.mono ?_; rintro e w' ⟨rfl, rfl⟩) | (go_at_call 60; refine HN.out.mono ?_; rintro e w' ⟨rfl, rfl⟩))
            go_ret
            exact ⟨ret_int HF2.out.symm, rfl⟩
        · have HF2 := Lib.hid (show codeT p m l k = 2 by rw [HF.out, if_neg (fun h => h1 h.2.2.1)])
          have q1 : (l.length : Int) < (k : Int) := by omega
          clear ha hp HF h1
          go_enter Try.func25, Try.ntmps25
          go_wp2_with (first | (go_at_call 58; refine HM.out.mono ?_; rintro e w' ⟨rfl, rfl⟩) | (go_at_call 59; refine HQ.out.mono ?_; rintro e w' ⟨rfl, rfl⟩) | (go_at_call 60; refine HN.out.mono ?_; rintro e w' ⟨rfl, rfl⟩))
          go_ret
          exact ⟨ret_int HF2.out.symm, rfl⟩
      · have HF2 := Lib.hid (show codeT p m l k = 2 by rw [HF.out, if_neg (fun h => ha h.1)])
        rw [show allIn 0 (m - 1) l = false by simpa using ha] at HN
        clear ha hp HF
        go_enter Try.func25, Try.ntmps25
        go_wp2_with (first | (go_at_call 58; refine HM.out.mono ?_; rintro e w' ⟨rfl, rfl⟩) | (go_at_call 59; refine HQ.out.mono ?_; rintro e w' ⟨rfl, rfl⟩) | (go_at_call 60; refine HN.out.mono ?_; rintro e w' ⟨rfl, rfl⟩))
        go_ret
        exact ⟨ret_int HF2.out.symm, rfl⟩
    · have HF2 := Lib.hid (show codeT p m l k = 2 by rw [HF.out, if_neg (fun h => hp h.2.1)])
      rw [show isP4 p = false by simpa using hp] at HQ
      clear hp HF
      go_enter Try.func25, Try.ntmps25
      go_wp2_with (first | (go_at_call 58; refine HM.out.mono ?_; rintro e w' ⟨rfl, rfl⟩) | (go_at_call 59; refine HQ.out.mono ?_; rintro e w' ⟨rfl, rfl⟩))
      go_ret
      exact ⟨ret_int HF2.out.symm, rfl⟩
  · have HF := Lib.hid (show codeT p m l k = 1 by unfold codeT codeN; rw [if_neg hm, if_neg (by omega)])
    have HM := Lib.hid (l01Modulus_any m w)
    rw [show isM m = false by simpa using hm] at HM
    clear hm hr
    go_enter Try.func25, Try.ntmps25
    go_wp2_with (go_at_call 58; refine HM.out.mono ?_; rintro e w' ⟨rfl, rfl⟩)
    go_ret
    exact ⟨ret_int HF.out.symm, rfl⟩

end Go.Proofs.Ytakdmnecllcmnaa

/- Contracts of TypicalNumerators, of the program and of the model. -/
namespace Go.Proofs.Ytakdmnecllcmnaa
open Go.RowKit Go.WideShapes Go.ChangeShapes Go.ChangeAt

theorem all_co {lo hi : Int} {l : List Int} (h : allIn lo hi l = true) (i : Nat) (hi' : i < l.length) : lo ≤ Ser.co l i ∧ Ser.co l i ≤ hi := by
  unfold allIn at h
  rw [List.all_eq_true] at h
  have := h l[i] (List.getElem_mem hi')
  unfold Ser.co
  rw [List.getElem?_eq_getElem hi']
  exact (inB_iff _ _ _).1 this
theorem all_co0 {hi : Int} {l : List Int} (h0 : 0 ≤ hi) (h : allIn 0 hi l = true) (i : Nat) : 0 ≤ Ser.co l i ∧ Ser.co l i ≤ hi := by
  by_cases hi' : i < l.length
  · exact all_co h i hi'
  · rw [Ser.co_over (by omega)]; omega
def tynM (p m : Int) (l : List Int) : List Int × Int := if codeT p m l 1 = 0 then (Nmr.numR m p.toNat (Ser.co l) (l.length + 1), 0) else ([], codeT p m l 1)
theorem tynM_len (p m : Int) (l : List Int) : (tynM p m l).1.length ≤ 1048576 := by
  unfold tynM
  split
  · rename_i h
    have := (codeT_ok h).2.2.2.2
    dsimp only
    rw [Nmr.numR_length]; omega
  · exact Nat.zero_le _
set_option maxHeartbeats 2000000 in
theorem TypicalNumerators_any (p m : Int) (A : Option Addr) (c : Nat) (l : List Int) (w : World) (hl : l.length ≤ 1048576) (hr : RI w A l) :
    Calls Try.prog 9 #[.int .i64 p, .int .i64 m, .slice A l.length c] w fun e w' => ∃ v, e = .returned (.tuple #[v, .int .i64 (tynM p m l).2]) ∧ OwnI w' w.heap.size v (tynM p m l).1 ∧ Below w.heap.size w w' := by
  have HC := Lib.hid (codeOfTypical_any p m A c l 1 w (by omega) hr)
  by_cases h0 : codeT p m l 1 = 0
  · have HF := Lib.hid (show tynM p m l = (Nmr.numR m p.toNat (Ser.co l) (l.length + 1), 0) by unfold tynM; rw [if_pos h0])
    obtain ⟨⟨hm1, hm2⟩, ha, hp, k1, k3⟩ := codeT_ok h0
    obtain ⟨P, rfl⟩ := Int.eq_ofNat_of_zero_le (show 0 ≤ p by omega)
    have HN := Lib.hid (numeratorsModulo_any P m A c l w hm1 (by omega) (by omega) (by omega) k3 (fun i => by have := all_co0 (by omega) ha i; omega) hr)
    rw [HF.out]
    rw [h0] at HC
    rw [Int.toNat_natCast]
    clear h0 ha hr hp
    go_enter Try.func9, Try.ntmps9
    go_wp2_with fail
    refine HC.out.mono ?_
    rintro e w' ⟨rfl, rfl⟩
    go_wp2_with fail
    refine HN.out.mono ?_
    rintro e w1 ⟨v, rfl, ho, hb⟩
    go_wp2
    go_ret2
    exact ⟨v, rfl, ho, hb⟩
  · have HF := Lib.hid (show tynM p m l = ([], codeT p m l 1) by unfold tynM; rw [if_neg h0])
    rw [HF.out]
    obtain ⟨n1, n2⟩ := ne_facts h0
    clear h0 hr
    go_enter Try.func9, Try.ntmps9
    go_wp2_with fail
    refine HC.out.mono ?_
    rintro e w' ⟨rfl, rfl⟩
    go_wp2
    go_ret2
    exact ⟨_, rfl, OwnI.nil _ _, Below.refl _ _⟩
set_option maxHeartbeats 2000000 in
theorem sTypicalNumerators_any (p m : Int) (A : Option Addr) (c : Nat) (l : List Int) (w : World) (hl : l.length ≤ 1048576) (hr : RI w A l) :
    Calls Try.prog 7 #[.int .i64 p, .int .i64 m, .slice A l.length c] w fun e w' => ∃ v, e = .returned (.tuple #[v, .int .i64 (tynM p m l).2]) ∧ OwnI w' w.heap.size v (tynM p m l).1 ∧ Below w.heap.size w w' := by
  have HC := Lib.hid (l09Code_any p m A c l 1 w (by omega) hr)
  by_cases h0 : codeT p m l 1 = 0
  · have HF := Lib.hid (show tynM p m l = (Nmr.numR m p.toNat (Ser.co l) (l.length + 1), 0) by unfold tynM; rw [if_pos h0])
    obtain ⟨⟨hm1, hm2⟩, ha, hp, k1, k3⟩ := codeT_ok h0
    obtain ⟨P, rfl⟩ := Int.eq_ofNat_of_zero_le (show 0 ≤ p by omega)
    have HN := Lib.hid (l09Numerators_any P m A c l w hm1 (by omega) (by omega) (by omega) k3 (fun i => by have := all_co0 (by omega) ha i; omega) hr)
    rw [HF.out]
    rw [h0] at HC
    rw [Int.toNat_natCast]
    clear h0 ha hr hp
    go_enter Try.func7, Try.ntmps7
    go_wp2_with fail
    refine HC.out.mono ?_
    rintro e w' ⟨rfl, rfl⟩
    go_wp2_with fail
    refine HN.out.mono ?_
    rintro e w1 ⟨v, rfl, ho, hb⟩
    go_wp2
    go_ret2
    exact ⟨v, rfl, ho, hb⟩
  · have HF := Lib.hid (show tynM p m l = ([], codeT p m l 1) by unfold tynM; rw [if_neg h0])
    rw [HF.out]
    obtain ⟨n1, n2⟩ := ne_facts h0
    clear h0 hr
    go_enter Try.func7, Try.ntmps7
    go_wp2_with fail
    refine HC.out.mono ?_
    rintro e w' ⟨rfl, rfl⟩
    go_wp2
    go_ret2
    exact ⟨_, rfl, OwnI.nil _ _, Below.refl _ _⟩

end Go.Proofs.Ytakdmnecllcmnaa

/- Helpers of the exact laws whose result is a list of integers. -/
namespace Go.Proofs.Ytakdmnecllcmnaa
open Go.RowKit Go.WideShapes Go.ChangeShapes Go.ChangeAt

theorem heldInt64S_b (A : Option Addr) (c n : Nat) (k : Int) (w : World) (hl : n ≤ 10485760) (hk : 0 ≤ k) (hk2 : k ≤ 1000000000000) (hr : RI w A (marks k n)) :
    Calls Try.prog 12 #[.slice A n c, .int .i64 k] w fun e w' => e = .returned (.int .i64 (k + n)) ∧ Below w.heap.size w w' :=
  (heldInt64S_any A c n k w hl hk hk2 hr).mono fun e w' ⟨h1, h2⟩ => ⟨h1, by subst h2; exact Below.refl _ _⟩
end Go.Proofs.Ytakdmnecllcmnaa

/- A series among a law's arguments: what its reading tells. -/
namespace Go.Proofs.Ytakdmnecllcmnaa
open Go.RowKit Go.WideShapes Go.ChangeShapes Go.ChangeAt

theorem use_it {p q : Prop} (h : p) (k : p → q) : q := k h
theorem Var2.drew {w : World} {g : Nat} {x y : Value} (h : Var2 w g x y) : Var2 w.drew g x y := h
theorem cells_i64 : Try.prog.cellsOf 2 = 1 := by kernel_rfl
theorem cells_i64s : Try.prog.cellsOf 22 = 1 := by kernel_rfl
end Go.Proofs.Ytakdmnecllcmnaa

/- A plane among a law's arguments: what its reading tells. -/
namespace Go.Proofs.Ytakdmnecllcmnaa
open Go.RowKit Go.WideShapes Go.ChangeShapes Go.ChangeAt

theorem cells_i64ss : Try.prog.cellsOf 36 = 1 := by kernel_rfl
end Go.Proofs.Ytakdmnecllcmnaa

/- A list among a law's arguments: what its reading tells. -/
namespace Go.Proofs.Ytakdmnecllcmnaa
open Go.RowKit Go.WideShapes Go.ChangeShapes Go.ChangeAt

set_option maxRecDepth 100000 in
theorem open_lst {H : Type} {enc : TypeId × Value → H} {W : World} {base : Nat} {v : Value} {d : DataW H} {p : List MemPlace}
    (hv : Value.okWide Try.prog W .any base 22 v) (h : DataW.Trod enc Try.prog W 0 (fun _ => true) true 22 v d p) :
    ∃ (A : Option Addr) (c : Nat) (l : List Int), v = .slice A l.length c ∧ l.length ≤ maxLen ∧ RA W A l := by
  obtain ⟨a0, n0, c0, rfl⟩ := okWide_slice Try.underlying22 hv
  obtain ⟨fuel, hf⟩ := h
  rcases open_ints Try.underlying22 Try.underlying2 (by kernel_rfl) hf with ⟨hcs, -⟩ | ⟨x, n, c, zs, hcs, -, hl, hm, hz, -, hcell, hwz⟩
  · simp [Value.cells] at hcs
    obtain ⟨rfl, rfl, rfl⟩ := hcs
    exact ⟨none, 0, [], rfl, Nat.zero_le _, fun h => absurd rfl h⟩
  · simp [Value.cells] at hcs
    obtain ⟨rfl, rfl, rfl⟩ := hcs
    obtain ⟨l, rfl, h1, h2⟩ := ra_of_row (w := W) (a := some x) (len := n0) (cap := c0) (zs := zs) (.inr ⟨x, rfl, hl, hm, by simpa using hz, hcell, hwz⟩)
    exact ⟨some x, c0, l, rfl, h1, h2⟩
end Go.Proofs.Ytakdmnecllcmnaa

