/- Texts of contracts, joined. -/
import Derived.Test.YtlpfifdocgljnaaMgaj
import Derived.Test.YtlpfifdocgljnaaMgan
import Derived.Test.YtlpfifdocgljnaaMgai
import Derived.Test.YtlpfifdocgljnaaMgah
import Derived.OrdersHeld
import Derived.Deep.RegionHeld3
import Derived.Deep.DrawnRows
/- Contracts of LawInCoordinate, of the program and of the model. -/
namespace Go.Proofs.Ytlpfifdocgljnaa
open Go.RowKit Go.WideShapes Go.ChangeShapes Go.ChangeAt

namespace Pl
theorem bot00 {m : Int} {d : Nat} {F : Nat → Nat → Int} (hF : Norm d F) {a b : List Int} (ha : Ser.co a 0 = 0) (hb : Ser.co b 0 = 0) : pc (botT m d F a b) 0 0 = 0 := by
  unfold botT
  rw [pc_tab (Nat.zero_le _)]
  have h := diag_put F (Ser.co a) (Ser.co b) (d + 1) 0
  rw [put_zero hF ha hb] at h
  have e : Ser.psum (fun p => subB F (Ser.co a) (Ser.co b) (d + 1) p (0 - p)) (0 + 1) = subB F (Ser.co a) (Ser.co b) (d + 1) 0 0 := by simp [Ser.psum]
  rw [e] at h
  rw [h, Int.zero_emod]
end Pl
/-- the reversion of a curve whose first coefficient is a unit -/
def revL (m : Int) (l : List Int) : List Int := Ser.revC m (egI m (Ser.co l 1)).2 (Ser.co l) (l.length - 2)
theorem revL_ok {m : Int} {d : Nat} {l : List Int} (hs : SerOk m d l) : SerOk m d (revL m l) := by
  obtain ⟨r1, r2⟩ := hs.red 1
  obtain ⟨-, -, u1, u2⟩ := eg_fact m _ r1 r2
  have := hs.m1
  have := hs.len
  have := hs.d1
  exact ⟨hs.m1, hs.m2, hs.d1, hs.d2, by unfold revL; rw [Ser.revC_length]; omega, Ser.revC_red (by omega) u1 u2 _ _⟩
theorem revL_zero (m : Int) (l : List Int) : Ser.co (revL m l) 0 = 0 := Ser.revC_curve _ _ _ _
theorem rvs_rev {m : Int} {d : Nat} {l : List Int} (hs : SerOk m d l) (hz : Ser.co l 0 = 0) : rvsM m l = if gcdI (Ser.co l 1) m = 1 then (m, revL m l, 0) else (0, [], 5) := by
  unfold rvsM
  rw [if_pos hs.isS]
  by_cases h : gcdI (Ser.co l 1) m = 1
  · rw [if_pos ⟨hz, h⟩, if_pos h]; rfl
  · rw [if_neg (fun e => h e.2), if_neg h]
/-- the table of a law in a coordinate -/
def licT (m : Int) (d : Nat) (t : List (List Int)) (l r : List Int) : List (List Int) := Pl.hor m d l (Pl.pc (Pl.botT m d (Pl.pc t) r r)) (d + 1)
theorem licT_ok {m : Int} {d : Nat} {t : List (List Int)} (hs : Pl.Ok m d t) (l r : List Int) : Pl.Ok m d (licT m d t l r) := Pl.hor_ok hs.m1 hs.m2 hs.d1 hs.d2 _ _ _
/-- the model of LawInCoordinate -/
def licM (m : Int) (t : List (List Int)) (m1 : Int) (l : List Int) : Int × List (List Int) × Int :=
  if codeS1 m t m1 l = 0 then (if gcdI (Ser.co l 1) m = 1 then (m, licT m (t.length - 1) t l (revL m l), 0) else (0, [], 5)) else (0, [], codeS1 m t m1 l)
theorem licM_len (m : Int) (t : List (List Int)) (m1 : Int) (l : List Int) : szT (licM m t m1 l).2.1 ≤ 1048576 := by
  unfold licM
  by_cases h : codeS1 m t m1 l = 0
  · rw [if_pos h]
    obtain ⟨-, -, d, e, -, ok, -⟩ := codeS1_ok h
    by_cases h2 : gcdI (Ser.co l 1) m = 1
    · rw [if_pos h2, e]; exact szT_ok (licT_ok ok _ _)
    · rw [if_neg h2]; decide
  · rw [if_neg h]; exact (by decide : szT [] ≤ 1048576)
/-- a plane's box, a series' box, the result's variable, the list of the one series -/
theorem pro_psQ (R : TypeId) (w : World) (m : Int) (A : Option Addr) (n c : Nat) (m1 : Int) (A1 : Option Addr) (n1 c1 : Nat) :
    ∃ W, (((w.alloc (.cells #[.int .i64 m, .slice A n c] 32)).alloc (.cells #[.int .i64 m1, .slice A1 n1 c1] 34)).alloc (.cells #[.int .i64 0, .slice none 0 0] R)).alloc (.cells #[.int .i64 m1, .slice A1 n1 c1] 34) = W ∧
    Box W w.heap.size m A n c ∧ Box W (w.heap.size + 1) m1 A1 n1 c1 ∧ VarC R W (w.heap.size + 1 + 1) #[.int .i64 0, .slice none 0 0] ∧ Box W (w.heap.size + 1 + 1 + 1) m1 A1 n1 c1 ∧ Below w.heap.size w W := by
  obtain ⟨W0, h0, h1, h2, h4⟩ := startB2 32 34 w m A n c m1 A1 n1 c1
  have hs : W0.heap.size = w.heap.size + 1 + 1 := by rw [← h0]; simp
  rw [h0]
  refine ⟨_, rfl, (h1.keep (below_one _ _)).keep (below_one _ _), (h2.keep (below_one _ _)).keep (below_one _ _), ?_, ?_, below_alloc _ (below_alloc _ h4)⟩
  · have := (VarC.new R W0 #[.int .i64 0, .slice none 0 0]).keep (below_one _ (.cells #[.int .i64 m1, .slice A1 n1 c1] 34))
    rwa [hs] at this
  · have hv := Box.newT 34 (W0.alloc (.cells #[.int .i64 0, .slice none 0 0] R)) m1 A1 n1 c1
    have e : (W0.alloc (.cells #[.int .i64 0, .slice none 0 0] R)).heap.size = w.heap.size + 1 + 1 + 1 := by simp [hs]
    rwa [e] at hv
end Go.Proofs.Ytlpfifdocgljnaa

/- A region that draws its order, and whose last operation stores into what the others load: a condition on the world that holds till then. -/
namespace Go.Proofs.Ytlpfifdocgljnaa
open Go

section
variable {P : Program} {ops : Array Oper} {Q : Exit → Act → World → Prop} {md : Region.Mode} {S : World → Prop} {n : Nat}

/-- in whatever order; S holds behind every operation but number n -/
def wpTill (P : Program) (md : Region.Mode) (ops : Array Oper) (Q : Exit → Act → World → Prop) (S : World → Prop) (n : Nat) : Nat → Array Bool → Act → World → Prop
  | 0, listed, a, w => Region.ready md ops listed = [] ∧ Q .normal a w
  | fuel + 1, listed, a, w => (Region.ready md ops listed = [] → Q .normal a w) ∧
    ∀ i ∈ Region.ready md ops listed, wpOp P ops Q i (fun a' w' => (i ≠ n → S w') ∧ wpTill P md ops Q S n fuel (listed.setIfInBounds i true) a' w') a w
theorem any_of_till : ∀ (fuel : Nat) (listed : Array Bool) (a : Act) (w : World), wpTill P md ops Q S n fuel listed a w → wpAny P md ops Q fuel listed a w
  | 0, _, _, _, h => h
  | fuel + 1, _, _, _, h => ⟨h.1, fun i hi => wpOp_mono (fun a' w' k => any_of_till fuel _ a' w' k.2) (h.2 i hi)⟩
/-- what is listed cannot be waited for by what may come up -/
theorem no_wait {i : Nat} {listed : Array Bool} {oj : Oper} (hr : i ∈ Region.ready md ops listed) (hall : ∀ e ∈ oj.after, Region.binds md e = true → listed.getD e.on false = true) :
    ∀ e ∈ oj.after, Region.binds md e = true → e.on ≠ i := by
  intro e he hb heq
  have h1 := hall e he hb
  have h0 := (mem_ready.1 hr).1
  rw [heq] at h1
  by_cases h : i < listed.size
  · simp [h] at h0 h1
    rw [h0] at h1
    exact absurd h1 (by decide)
  · simp [Array.getElem?_eq_none (Nat.le_of_not_lt h)] at h1
/-- an operation that yields v in every world of S may be taken first, if number n waits for it -/
theorem till_first {i : Nat} {oi : Oper} {v : Value} (hi : ops[i]? = some oi) (hsel : ∀ (j : Nat) (o : Oper) cs b, ops[j]? = some o → o.op ≠ .select cs b)
    (hQ : ∀ c a w, Q (.panic c) (a.put oi.dst v) w → Q (.panic c) a w) (hn : ∀ on, ops[n]? = some on → ∃ e ∈ on.after, Region.binds md e = true ∧ e.on = i) :
    ∀ (fuel : Nat) (listed : Array Bool) (a : Act) (w : World),
      (∀ j oj, ops[j]? = some oj → j ≠ i → listed.getD j true = false → (∀ e ∈ oj.after, Region.binds md e = true → e.on ≠ i) → oi.apart ops oj = true) →
      i ∈ Region.ready md ops listed → YieldsIf P ops S oi v a → S w →
      wpTill P md ops Q S n fuel (listed.setIfInBounds i true) (a.put oi.dst v) w → wpTill P md ops Q S n (fuel + 1) listed a w := by
  intro fuel
  induction fuel with
  | zero =>
    intro listed a w _ hr hy hS H
    refine ⟨fun e => (by rw [e] at hr; cases hr), fun j hj => ?_⟩
    by_cases hji : j = i
    · subst hji
      exact hy.wpOp hi hS ⟨fun _ => hS, H⟩
    · have hk := ready_mono hj hji
      rw [H.1] at hk
      cases hk
  | succ fuel ih =>
    intro listed a w hfree hr hy hS H
    refine ⟨fun e => (by rw [e] at hr; cases hr), fun j hj => ?_⟩
    by_cases hji : j = i
    · subst hji
      exact hy.wpOp hi hS ⟨fun _ => hS, H⟩
    · obtain ⟨hun, oj, hoj, hall⟩ := mem_ready.1 hj
      have hnot := no_wait hr hall
      have hjn : j ≠ n := by
        rintro rfl
        obtain ⟨e, he, hb, heq⟩ := hn oj hoj
        exact hnot e he hb heq
      have k2 := wpOp_putIf hoj (hfree j oj hoj hji hun hnot) (fun cs b => hsel i oi cs b hi) (fun cs b => hsel j oj cs b hoj) hQ hy (H.2 j (ready_mono hj hji))
      have hfree' : ∀ k ok, ops[k]? = some ok → k ≠ i → (listed.setIfInBounds j true).getD k true = false →
          (∀ e ∈ ok.after, Region.binds md e = true → e.on ≠ i) → oi.apart ops ok = true := by
        intro k ok hk hki hu hno
        refine hfree k ok hk hki ?_ hno
        by_cases hjk : j = k
        · subst hjk; exact hun
        · rw [getD_set_ne true hjk] at hu; exact hu
      refine wpOp_mono (fun a' w' k3 => ⟨fun _ => k3.2.1 hjn, ih (listed.setIfInBounds j true) a' w' hfree' (ready_mono hr (Ne.symm hji)) k3.1 (k3.2.1 hjn) ?_⟩) k2
      rw [Array.setIfInBounds_comm _ _ hji]
      exact k3.2.2
/-- number n waits for number i -/
def waitB (md : Region.Mode) (ops : Array Oper) (n i : Nat) : Bool := ((ops[n]?).map fun o => o.after.any fun e => Region.binds md e && e.on == i).getD true
theorem till_take {i : Nat} {oi : Oper} {dst : Option Tmp} (v : Value) {fuel : Nat} {listed : Array Bool} {a : Act} {w : World} (hi : ops[i]? = some oi) (hd : oi.dst = dst) (hs : Region.noSelect ops = true) (hf : Region.free md ops listed i = true)
    (hr : (Region.ready md ops listed).contains i = true) (hw : waitB md ops n i = true) (hQ : ∀ c a w, Q (.panic c) (a.put dst v) w → Q (.panic c) a w) (hy : YieldsIf P ops S oi v a) (hS : S w)
    (h : wpTill P md ops Q S n fuel (listed.setIfInBounds i true) (a.put dst v) w) : wpTill P md ops Q S n (fuel + 1) listed a w := by
  subst hd
  refine till_first hi (Region.noSelect_spec hs) hQ (fun on ho => ?_) fuel listed a w (Region.free_spec hi hf) (by simpa using hr) hy hS h
  unfold waitB at hw
  rw [ho] at hw
  obtain ⟨e, he, k⟩ := Array.any_eq_true'.1 (show (on.after.any fun e => Region.binds md e && e.on == i) = true from hw)
  rw [Bool.and_eq_true] at k
  exact ⟨e, he, k.1, by simpa using k.2⟩
/-- one operation alone may come up -/
theorem till_one {i : Nat} {o : Oper} {fuel : Nat} {listed : Array Bool} {a : Act} {w : World} (hr : Region.ready md ops listed = [i]) (ho : ops[i]? = some o)
    (h : ∀ K : Act → World → Prop, Shut (∀ a w, (i ≠ n → S w) → wpTill P md ops Q S n fuel (listed.setIfInBounds i true) a w → K a w) → if Region.wanted o (yielded ops a.tmps) = true then Oper.wp P o a w K Q else K (a.put o.dst undef) w) :
    wpTill P md ops Q S n (fuel + 1) listed a w := by
  refine ⟨fun e => (by rw [e] at hr; cases hr), fun j hj => ?_⟩
  rw [hr] at hj
  obtain rfl : j = i := by simpa using hj
  exact wpOp_step ho (fun K hK => h K (fun a w hS hW => hK a w ⟨hS, hW⟩))
theorem till_done {fuel : Nat} {listed : Array Bool} {a : Act} {w : World} (hr : Region.ready md ops listed = []) (h : Q .normal a w) : wpTill P md ops Q S n fuel listed a w := by
  cases fuel with
  | zero => exact ⟨hr, h⟩
  | succ f => exact ⟨fun _ => h, by rw [hr]; simp⟩
theorem region_till {id : Nat} {a : Act} {w : World} (S : World → Prop) (n : Nat) (hm : P.follows .mixedOrders = true) (h : wpTill P .any ops Q S n ops.size (Array.replicate ops.size false) a w.drew) : (Code.region id ops true).wp P Q a w :=
  wp_region_any hm (any_of_till _ _ _ _ h)
end
end Go.Proofs.Ytlpfifdocgljnaa

