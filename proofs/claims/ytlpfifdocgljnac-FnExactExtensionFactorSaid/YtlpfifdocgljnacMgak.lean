/- Texts of contracts, joined. -/
import Derived.Test.YtlpfifdocgljnacMgaj
import Derived.Test.YtlpfifdocgljnacMgaa
import Derived.Test.YtlpfifdocgljnacMgad
import Derived.Test.YtlpfifdocgljnacMgae
import Derived.Test.YtlpfifdocgljnacMgac
import Derived.Test.YtlpfifdocgljnacMgaf
import Derived.Deep.Matrix
/- Plain facts: what fulfils the equations of cocycles in one degree is a multiple of Lazard's cocycle (degrees 2 to 10, by integer certificates that the kernel checks). -/
namespace Go.Proofs.Ytlpfifdocgljnac
open Go.RowKit

namespace Coc
/-- a linear form in p(1), p(2), .. -/
def lin : List Int → Nat → (Nat → Int) → Int
  | [], _, _ => 0
  | c :: r, i, p => c * p i + lin r (i + 1) p
def unit (n i : Nat) (c : Int) : List Int := (List.range n).map fun j => if j = i then c else 0
def add (a b : List Int) : List Int := List.zipWith (· + ·) a b
def smul (c : Int) (a : List Int) : List Int := a.map (c * ·)
theorem lin_add (p : Nat → Int) : ∀ (a b : List Int) (i : Nat), a.length = b.length → lin (add a b) i p = lin a i p + lin b i p
  | [], [], _, _ => rfl
  | x :: a, y :: b, i, h => by
    show (x + y) * p i + lin (add a b) (i + 1) p = x * p i + lin a (i + 1) p + (y * p i + lin b (i + 1) p)
    rw [lin_add p a b (i + 1) (by simpa using h), Int.add_mul]
    omega
  | [], _ :: _, _, h => by simp at h
  | _ :: _, [], _, h => by simp at h
theorem lin_smul (p : Nat → Int) (c : Int) : ∀ (a : List Int) (i : Nat), lin (smul c a) i p = c * lin a i p
  | [], _ => by show (0 : Int) = c * 0; omega
  | x :: a, i => by
    show (c * x) * p i + lin (smul c a) (i + 1) p = c * (x * p i + lin a (i + 1) p)
    rw [lin_smul p c a (i + 1), Int.mul_add, Int.mul_assoc]
/-- the equations: symmetry, and cocycles' -/
def symF (n i : Nat) : List Int := add (unit (n - 1) (i - 1) 1) (unit (n - 1) (n - i - 1) (-1))
def cocF (n a b : Nat) : List Int := add (unit (n - 1) (a + b - 1) (Num.bin (a + b) a : Nat)) (unit (n - 1) (a - 1) (-(Num.bin (n - a) b : Nat)))
def pairs (n : Nat) : List (Nat × Nat) := (List.range n).flatMap fun a => (List.range n).filterMap fun b => if 0 < a ∧ 0 < b ∧ a + b < n then some (a, b) else none
def syms (n : Nat) : List Nat := (List.range n).filter fun i => decide (0 < i ∧ 2 * i < n)
def forms (n : Nat) : List (List Int) := (syms n).map (symF n) ++ (pairs n).map (fun ab => cocF n ab.1 ab.2)
def comb (n : Nat) : List Int → List (List Int) → List Int
  | c :: K, f :: F => add (smul c f) (comb n K F)
  | _, _ => List.replicate n 0
theorem lin_unit (p : Nat → Int) (n i : Nat) (c : Int) (h : i < n) : lin (unit n i c) 1 p = c * p (i + 1) := by
  have key : ∀ (k s : Nat), lin ((List.range' s k).map fun j => if j = i then c else 0) (s + 1) p = if s ≤ i ∧ i < s + k then c * p (i + 1) else 0 := by
    intro k
    induction k with
    | zero => intro s; rw [if_neg (by omega)]; rfl
    | succ k ih =>
      intro s
      rw [List.range'_succ]
      show (if s = i then c else 0) * p (s + 1) + lin ((List.range' (s + 1) k).map fun j => if j = i then c else 0) (s + 1 + 1) p = _
      rw [ih (s + 1)]
      by_cases hs : s = i
      · rw [if_pos hs, if_neg (by omega), if_pos (by omega), hs]; omega
      · rw [if_neg hs]
        by_cases hi : s + 1 ≤ i ∧ i < s + 1 + k
        · rw [if_pos hi, if_pos (by omega)]; omega
        · rw [if_neg hi, if_neg (by omega)]; omega
  have := key n 0
  unfold unit
  rw [List.range_eq_range', this, if_pos (by omega)]
theorem unit_length (n i : Nat) (c : Int) : (unit n i c).length = n := by simp [unit]
theorem add_length {a b : List Int} {n : Nat} (ha : a.length = n) (hb : b.length = n) : (add a b).length = n := by simp [add, ha, hb]
theorem comb_length (n : Nat) : ∀ (K : List Int) (F : List (List Int)), (∀ f ∈ F, f.length = n) → (comb n K F).length = n
  | [], _, _ => by simp [comb]
  | _ :: _, [], _ => by simp [comb]
  | c :: K, f :: F, h => by
    unfold comb
    exact add_length (by simp [smul]; exact h f (List.mem_cons_self)) (comb_length n K F (fun g hg => h g (List.mem_cons_of_mem _ hg)))
theorem lin_zeros (p : Nat → Int) : ∀ (n i : Nat), lin (List.replicate n 0) i p = 0
  | 0, _ => rfl
  | n + 1, i => by
    rw [List.replicate_succ]
    show 0 * p i + lin (List.replicate n 0) (i + 1) p = 0
    rw [lin_zeros p n (i + 1)]; omega
theorem comb_zero (m : Int) (p : Nat → Int) (n : Nat) : ∀ (K : List Int) (F : List (List Int)), (∀ f ∈ F, f.length = n ∧ lin f 1 p % m = 0) → lin (comb n K F) 1 p % m = 0
  | [], _, _ => by unfold comb; rw [lin_zeros]; exact Int.zero_emod m
  | _ :: _, [], _ => by unfold comb; rw [lin_zeros]; exact Int.zero_emod m
  | c :: K, f :: F, h => by
    have ih := comb_zero m p n K F (fun g hg => h g (List.mem_cons_of_mem _ hg))
    obtain ⟨h1, h2⟩ := h f (List.mem_cons_self)
    unfold comb
    rw [lin_add p _ _ 1 (by rw [comb_length n K F (fun g hg => (h g (List.mem_cons_of_mem _ hg)).1)]; simp [smul, h1]), lin_smul, Int.add_emod, ih, Int.mul_emod, h2]
    simp
def uOf : Nat → List Int
  | 2 => [1]
  | 3 => [1, 0]
  | 4 => [-1, 1, 0]
  | 5 => [1, 0, 0, 0]
  | 6 => [-14, 7, -1, 0, 0]
  | 7 => [1, 0, 0, 0, 0, 0]
  | 8 => [51, -17, 0, 1, 0, 0, 0]
  | 9 => [-9, 0, 1, 0, 0, 0, 0, 0]
  | 10 => [-404, 101, 0, 0, -2, 0, 0, 0, 0]
  | _ => []
def certOf : Nat → List (List Int)
  | 2 => [[]]
  | 3 => [[0, 0], [-1, 0]]
  | 4 => [[3, 0, 0, 1], [3, 0, 0, 1], [2, 0, 0, 1]]
  | 5 => [[0, 0, 0, 0, 0, 0, 0, 0], [-2, -2, 0, 0, 0, 0, -1, 1], [-2, -3, 0, 0, 0, 0, -1, 1], [-1, 0, 0, 0, 0, 0, 0, 0]]
  | 6 => [[85, -42, 0, 0, 0, 0, 0, 0, 0, -2, 0, 17], [210, -104, 0, 0, 0, 0, 0, 0, 0, -5, 0, 42], [280, -140, 0, 0, 0, 0, 0, 0, 0, -7, 0, 56], [210, -105, 0, 0, 0, 0, 0, 0, 0, -5, 0, 42], [84, -42, 0, 0, 0, 0, 0, 0, 0, -2, 0, 17]]
  | 7 => [[0, 0, 0, 0, 0, 0, 0, 0, 0, 0, 0, 0, 0, 0, 0, 0, 0, 0], [-3, 1, 0, 0, 0, 0, 0, 0, 0, 0, 0, 0, 0, 0, 0, 1, -1, 2], [-5, 0, -3, 0, 0, 0, 0, 0, 0, 0, 0, 0, 0, 0, -1, -4, 5, -10], [-5, 0, -4, 0, 0, 0, 0, 0, 0, 0, 0, 0, 0, 0, -1, -4, 5, -10], [-3, 0, 0, 0, 0, 0, 0, 0, 0, 0, 0, 0, 0, 0, 0, 1, -1, 2], [-1, 0, 0, 0, 0, 0, 0, 0, 0, 0, 0, 0, 0, 0, 0, 0, 0, 0]]
  | 8 => [[-203, 68, -100, 0, 0, 0, 0, 0, 0, 0, 0, 0, 0, 0, 0, 0, -10, 0, -2, 2, 0, 30, 0, -29], [-714, 239, -350, 0, 0, 0, 0, 0, 0, 0, 0, 0, 0, 0, 0, 0, -35, 0, -7, 7, 0, 105, 0, -102], [-1428, 476, -709, 0, 0, 0, 0, 0, 0, 0, 0, 0, 0, 0, 0, 0, -71, 0, -14, 14, 0, 213, 0, -204], [-1785, 595, -850, 0, 0, 0, 0, 0, 0, 0, 0, 0, 0, 0, 0, 0, -85, 0, -17, 17, 0, 255, 0, -255], [-1428, 476, -710, 0, 0, 0, 0, 0, 0, 0, 0, 0, 0, 0, 0, 0, -71, 0, -14, 14, 0, 213, 0, -204], [-714, 238, -350, 0, 0, 0, 0, 0, 0, 0, 0, 0, 0, 0, 0, 0, -35, 0, -7, 7, 0, 105, 0, -102], [-204, 68, -100, 0, 0, 0, 0, 0, 0, 0, 0, 0, 0, 0, 0, 0, -10, 0, -2, 2, 0, 30, 0, -29]]
  | 9 => [[28, 0, -3, 0, 0, 0, 0, 0, 0, 0, 0, 0, 0, 0, 0, 0, 0, 0, 0, 0, 0, 0, 0, 0, 0, 0, 0, 0, 0, -6, 7, -21], [108, 1, -12, 0, 0, 0, 0, 0, 0, 0, 0, 0, 0, 0, 0, 0, 0, 0, 0, 0, 0, 0, 0, 0, 0, 0, 0, 0, 0, -23, 27, -81], [252, 0, -27, 0, 0, 0, 0, 0, 0, 0, 0, 0, 0, 0, 0, 0, 0, 0, 0, 0, 0, 0, 0, 0, 0, 0, 0, 0, 0, -54, 63, -189], [378, 0, -42, -4, 0, 0, 0, 0, 0, 0, 0, 0, 0, 0, 0, 0, 0, 0, 0, 0, 0, 0, 0, 0, 0, -1, 1, 0, 0, -96, 112, -336], [378, 0, -42, -5, 0, 0, 0, 0, 0, 0, 0, 0, 0, 0, 0, 0, 0, 0, 0, 0, 0, 0, 0, 0, 0, -1, 1, 0, 0, -96, 112, -336], [252, 0, -28, 0, 0, 0, 0, 0, 0, 0, 0, 0, 0, 0, 0, 0, 0, 0, 0, 0, 0, 0, 0, 0, 0, 0, 0, 0, 0, -54, 63, -189], [108, 0, -12, 0, 0, 0, 0, 0, 0, 0, 0, 0, 0, 0, 0, 0, 0, 0, 0, 0, 0, 0, 0, 0, 0, 0, 0, 0, 0, -23, 27, -81], [27, 0, -3, 0, 0, 0, 0, 0, 0, 0, 0, 0, 0, 0, 0, 0, 0, 0, 0, 0, 0, 0, 0, 0, 0, 0, 0, 0, 0, -6, 7, -21]]
  | 10 => [[4041, -2690, 0, 0, 0, 0, 0, 0, 0, 0, 0, 0, 0, 0, 0, -24, 0, 0, 0, 0, 0, 0, 0, 0, 0, 0, 0, 0, 0, 0, -4, 0, 0, 0, 576, 0, -672, 1344, 0, 6721], [18180, -12104, 0, 0, 0, 0, 0, 0, 0, 0, 0, 0, 0, 0, 0, -108, 0, 0, 0, 0, 0, 0, 0, 0, 0, 0, 0, 0, 0, 0, -18, 0, 0, 0, 2592, 0, -3024, 6048, 0, 30244], [48480, -32280, 1, 0, 0, 0, 0, 0, 0, 0, 0, 0, 0, 0, 0, -288, 0, 0, 0, 0, 0, 0, 0, 0, 0, 0, 0, 0, 0, 0, -48, 0, 0, 0, 6913, 0, -8065, 16130, 0, 80660], [84840, -56560, 0, 1, 0, 0, 0, 0, 0, 0, 0, 0, 0, 0, 0, -505, 0, 0, 0, 0, 0, 0, 0, 0, 0, 0, 0, 0, 0, 0, -84, 0, 0, 0, 12120, 0, -14140, 28280, 0, 141400], [101808, -67872, 0, 0, 0, 0, 0, 0, 0, 0, 0, 0, 0, 0, 0, -606, 0, 0, 0, 0, 0, 0, 0, 0, 0, 0, 0, 0, 0, 0, -101, 0, 0, 0, 14544, 0, -16968, 33936, 0, 169680], [84840, -56560, 0, 0, 0, 0, 0, 0, 0, 0, 0, 0, 0, 0, 0, -505, 0, 0, 0, 0, 0, 0, 0, 0, 0, 0, 0, 0, 0, 0, -84, 0, 0, 0, 12120, 0, -14140, 28280, 0, 141400], [48480, -32280, 0, 0, 0, 0, 0, 0, 0, 0, 0, 0, 0, 0, 0, -288, 0, 0, 0, 0, 0, 0, 0, 0, 0, 0, 0, 0, 0, 0, -48, 0, 0, 0, 6913, 0, -8065, 16130, 0, 80660], [18180, -12105, 0, 0, 0, 0, 0, 0, 0, 0, 0, 0, 0, 0, 0, -108, 0, 0, 0, 0, 0, 0, 0, 0, 0, 0, 0, 0, 0, 0, -18, 0, 0, 0, 2592, 0, -3024, 6048, 0, 30244], [4040, -2690, 0, 0, 0, 0, 0, 0, 0, 0, 0, 0, 0, 0, 0, -24, 0, 0, 0, 0, 0, 0, 0, 0, 0, 0, 0, 0, 0, 0, -4, 0, 0, 0, 576, 0, -672, 1344, 0, 6721]]
  | _ => []
/-- the number that the certificate of i makes: p(i + 1) less C(n) times the sum of u -/
def goal (n i : Nat) : List Int := add (unit (n - 1) i 1) (smul (-(layF n (i + 1))) (uOf n))
def checked (n : Nat) : Bool := (List.range (n - 1)).all fun i => decide (comb (n - 1) ((certOf n)[i]?.getD []) (forms n) = goal n i)
theorem checked_all : ∀ n : Fin 9, checked (n.val + 2) = true := by decide +kernel
theorem uOf_length : ∀ n : Fin 9, (uOf (n.val + 2)).length = n.val + 1 := by decide
/-- Lazard's lemma in the degrees 2 to 10 -/
theorem comparison {m : Int} {n : Nat} {p : Nat → Int} (n1 : 2 ≤ n) (n2 : n ≤ 10) (hs : ∀ i, 0 < i → i < n → (p i - p (n - i)) % m = 0)
    (hc : ∀ a b, 0 < a → 0 < b → a + b < n → (((Num.bin (a + b) a : Nat) : Int) * p (a + b) - ((Num.bin (n - a) b : Nat) : Int) * p a) % m = 0) :
    ∃ c, ∀ i, 0 < i → i < n → (p i - c * layF n i) % m = 0 := by
  refine ⟨lin (uOf n) 1 p, fun i h0 hi => ?_⟩
  obtain ⟨k, rfl⟩ : ∃ k, i = k + 1 := ⟨i - 1, by omega⟩
  have hck := checked_all ⟨n - 2, by omega⟩
  have hul := uOf_length ⟨n - 2, by omega⟩
  simp only [show n - 2 + 2 = n by omega] at hck hul
  have hck2 := List.all_eq_true.1 hck k (List.mem_range.2 (by omega))
  have hk := of_decide_eq_true hck2
  have hz := comb_zero m p (n - 1) ((certOf n)[k]?.getD []) (forms n) (fun f hf => by
    unfold forms at hf
    rcases List.mem_append.1 hf with h | h
    · obtain ⟨q, hq, rfl⟩ := List.mem_map.1 h
      unfold syms at hq
      rw [List.mem_filter, List.mem_range, decide_eq_true_eq] at hq
      refine ⟨add_length (unit_length _ _ _) (unit_length _ _ _), ?_⟩
      unfold symF
      rw [lin_add p _ _ 1 (by rw [unit_length, unit_length]), lin_unit p _ _ _ (by omega), lin_unit p _ _ _ (by omega)]
      rw [show q - 1 + 1 = q by omega, show n - q - 1 + 1 = n - q by omega]
      have := hs q hq.2.1 hq.1
      rw [show 1 * p q + -1 * p (n - q) = p q - p (n - q) by omega]
      exact this
    · obtain ⟨⟨a, b⟩, hq, rfl⟩ := List.mem_map.1 h
      unfold pairs at hq
      obtain ⟨a', ha, hq⟩ := List.mem_flatMap.1 hq
      obtain ⟨b', hb, hq⟩ := List.mem_filterMap.1 hq
      by_cases hab : 0 < a' ∧ 0 < b' ∧ a' + b' < n
      · rw [if_pos hab] at hq
        obtain ⟨rfl, rfl⟩ : a' = a ∧ b' = b := by simpa using hq
        refine ⟨add_length (unit_length _ _ _) (unit_length _ _ _), ?_⟩
        dsimp only
        unfold cocF
        rw [lin_add p _ _ 1 (by rw [unit_length, unit_length]), lin_unit p _ _ _ (by omega), lin_unit p _ _ _ (by omega)]
        rw [show a' + b' - 1 + 1 = a' + b' by omega, show a' - 1 + 1 = a' by omega]
        have := hc a' b' hab.1 hab.2.1 hab.2.2
        rw [Int.neg_mul, ← Int.sub_eq_add_neg]
        exact this
      · rw [if_neg hab] at hq; simp at hq)
  rw [hk] at hz
  unfold goal at hz
  rw [lin_add p _ _ 1 (by simp [unit, smul, hul]; omega), lin_unit p _ _ _ (by omega), lin_smul] at hz
  rw [show lin (uOf n) 1 p * layF n (k + 1) = layF n (k + 1) * lin (uOf n) 1 p from Int.mul_comm _ _]
  rw [Int.one_mul, Int.neg_mul, ← Int.sub_eq_add_neg] at hz
  exact hz
end Coc
end Go.Proofs.Ytlpfifdocgljnac

/- Plain facts: the factor of a layer, and which layers are cocycles. -/
namespace Go.Proofs.Ytlpfifdocgljnac
open Go.RowKit

namespace Cyc
/-- the equation of the coefficient i, for the factor as number 1 -/
def eqF (m : Int) (l : List Int) (n i : Nat) : List Int := Sys.timesE m 1 (-(Ser.co l i) :: layF n i :: List.replicate 9 0)
def eqsF (m : Int) (l : List Int) (n : Nat) : List (List Int) := (List.range (n + 1)).map (eqF m l n)
def facO (m : Int) (l : List Int) (n : Nat) : Option (Nat → Int) := Sys.leastS m (eqsF m l n)
/-- c times C(n) is the layer -/
def Fits (m : Int) (l : List Int) (n : Nat) (c : Int) : Prop := ∀ i, i ≤ n → (c * layF n i - Ser.co l i) % m = 0
theorem val_F (a b : Int) (y : Nat → Int) (hy : y 0 = 1) : Sys.val (a :: b :: List.replicate 9 0) y = a + y 1 * b := by
  unfold Sys.val
  simp [Ser.psum, Ser.co, List.replicate, hy, Int.mul_comm]
theorem sat_F {m : Int} {l : List Int} {n : Nat} (y : Nat → Int) (hy : y 0 = 1) : (∀ e ∈ eqsF m l n, Sys.Sat m y e) ↔ Fits m l n (y 1) := by
  have key : ∀ i, Sys.Sat m y (eqF m l n i) ↔ (y 1 * layF n i - Ser.co l i) % m = 0 := fun i => by
    unfold Sys.Sat eqF
    rw [Sys.val_times, val_F _ _ y hy, Int.one_mul, show -(Ser.co l i) + y 1 * layF n i = y 1 * layF n i - Ser.co l i by omega]
  unfold eqsF Fits
  constructor
  · intro h i hi
    exact (key i).1 (h _ (List.mem_map.2 ⟨i, List.mem_range.2 (by omega), rfl⟩))
  · intro h e he
    obtain ⟨i, hi, rfl⟩ := List.mem_map.1 he
    rw [List.mem_range] at hi
    exact (key i).2 (h i (by omega))
theorem eqsF_ok {m : Int} (hm : 0 < m) (l : List Int) (n : Nat) : ∀ e ∈ eqsF m l n, Sys.Ok m e := fun e he => by
  unfold eqsF at he
  obtain ⟨i, hi, rfl⟩ := List.mem_map.1 he
  unfold eqF Sys.timesE
  exact Sys.Ok.cut hm _
theorem facO_some {m : Int} (m1 : 2 ≤ m) (m2 : m ≤ 10000) {l : List Int} {n : Nat} {X : Nat → Int} (h : facO m l n = some X) :
    0 ≤ X 1 ∧ X 1 < m ∧ Fits m l n (X 1) ∧ ∀ c, 0 ≤ c → Fits m l n c → X 1 ≤ c := by
  have hL := Sys.leastS_some m1 m2 (eqsF_ok (by omega) l n) h
  obtain ⟨b1, b2⟩ := hL.bd 1 (by omega) (by omega)
  refine ⟨b1, b2, (sat_F X hL.one).1 hL.sat, fun c hc hf => ?_⟩
  have hy : (fun j => if j = 0 then (1 : Int) else if j = 1 then c else 0) 0 = 1 := rfl
  have := hL.least (fun j => if j = 0 then 1 else if j = 1 then c else 0) hy ((sat_F _ hy).2 hf) 1 (by omega) (by omega) (fun j hj => by
    obtain rfl : j = 0 := by omega
    rw [hL.one]; rfl) hc
  exact this
theorem facO_none {m : Int} (m1 : 2 ≤ m) (m2 : m ≤ 10000) {l : List Int} {n : Nat} (h : facO m l n = none) (c : Int) : ¬ Fits m l n c := fun hf => by
  have hy : (fun j => if j = 0 then (1 : Int) else if j = 1 then c else 0) 0 = 1 := rfl
  exact Sys.leastS_none m1 m2 (eqsF_ok (by omega) l n) h (fun j => if j = 0 then (1 : Int) else if j = 1 then c else 0) hy ((sat_F (fun j => if j = 0 then (1 : Int) else if j = 1 then c else 0) hy).2 hf)
/-- the factor, 0 if there is none -/
def facM (m : Int) (l : List Int) (n : Nat) : Int := match facO m l n with
  | some X => X 1
  | none => 0
theorem facM_first {m : Int} (m1 : 2 ≤ m) (m2 : m ≤ 10000) {l : List Int} {n : Nat} {c : Int} (hc : 0 ≤ c) (hf : Fits m l n c) (hn : ∀ c', 0 ≤ c' → c' < c → ¬ Fits m l n c') : facM m l n = c := by
  unfold facM
  cases h : facO m l n with
  | none => exact absurd hf (facO_none m1 m2 h c)
  | some X =>
    obtain ⟨b1, b2, b3, b4⟩ := facO_some m1 m2 h
    have h1 := b4 c hc hf
    have h2 : ¬ X 1 < c := fun hlt => hn _ b1 hlt b3
    show X 1 = c
    omega
theorem facM_never {m : Int} (m1 : 2 ≤ m) (m2 : m ≤ 10000) {l : List Int} {n : Nat} (hn : ∀ c', 0 ≤ c' → c' < m → ¬ Fits m l n c') : facM m l n = 0 := by
  unfold facM
  cases h : facO m l n with
  | none => rfl
  | some X =>
    obtain ⟨b1, b2, b3, b4⟩ := facO_some m1 m2 h
    exact absurd b3 (hn _ b1 b2)
/-- the equations of cocycles in the degree d -/
def lowZ (t : List (List Int)) (d : Nat) : Bool := (List.range d).all fun n => (List.range (n + 1)).all fun i => decide (Pl.pc t i (n - i) = 0)
def symZ (t : List (List Int)) (d : Nat) : Bool := (List.range (d + 1)).all fun i => decide (Pl.pc t i (d - i) = Pl.pc t (d - i) i) && (!(decide (i = 0) || decide (i = d)) || decide (Pl.pc t i (d - i) = 0))
def cocN (m : Int) (t : List (List Int)) (d a b : Nat) : Int := binI ((a : Int) + b) a % m * Pl.pc t (a + b) (d - (a + b)) - binI ((d : Int) - a) b % m * Pl.pc t a (d - a)
def cocZ (m : Int) (t : List (List Int)) (d : Nat) : Bool := (List.range d).all fun a => (List.range d).all fun b => !(decide (0 < a ∧ 0 < b ∧ a + b < d)) || decide (cocN m t d a b % m = 0)
def isC (m : Int) (t : List (List Int)) (d : Nat) : Bool := decide (2 ≤ d) && lowZ t d && symZ t d && cocZ m t d
theorem lowZ_iff {t : List (List Int)} {d : Nat} : lowZ t d = true ↔ ∀ n i, n < d → i ≤ n → Pl.pc t i (n - i) = 0 := by
  unfold lowZ
  simp only [List.all_eq_true, List.mem_range, decide_eq_true_eq]
  exact ⟨fun h n i hn hi => h n hn i (by omega), fun h n hn i hi => h n i hn (by omega)⟩
theorem symZ_iff {t : List (List Int)} {d : Nat} : symZ t d = true ↔ ∀ i, i ≤ d → Pl.pc t i (d - i) = Pl.pc t (d - i) i ∧ ((i = 0 ∨ i = d) → Pl.pc t i (d - i) = 0) := by
  unfold symZ
  simp only [List.all_eq_true, List.mem_range, Bool.and_eq_true, Bool.or_eq_true, Bool.not_eq_true', Bool.or_eq_false_iff, decide_eq_true_eq, decide_eq_false_iff_not]
  exact ⟨fun h i hi => ⟨(h i (by omega)).1, fun hx => (h i (by omega)).2.elim (fun h2 => absurd hx (by omega)) id⟩,
    fun h i hi => ⟨(h i (by omega)).1, (Decidable.em (i = 0 ∨ i = d)).elim (fun hx => .inr ((h i (by omega)).2 hx)) (fun hx => .inl (by omega))⟩⟩
theorem cocZ_iff {m : Int} {t : List (List Int)} {d : Nat} : cocZ m t d = true ↔ ∀ a b, 0 < a → 0 < b → a + b < d → cocN m t d a b % m = 0 := by
  unfold cocZ
  simp only [List.all_eq_true, List.mem_range, Bool.or_eq_true, Bool.not_eq_true', decide_eq_true_eq, decide_eq_false_iff_not]
  exact ⟨fun h a b ha hb hab => (h a (by omega) b (by omega)).elim (fun h2 => absurd ⟨ha, hb, hab⟩ h2) id,
    fun h a ha b hb => (Decidable.em (0 < a ∧ 0 < b ∧ a + b < d)).elim (fun hx => .inr (h a b hx.1 hx.2.1 hx.2.2)) (fun hx => .inl hx)⟩
theorem layF_coc : ∀ n : Fin 11, ∀ a : Fin 11, ∀ b : Fin 11, 2 ≤ n.val → 0 < a.val → 0 < b.val → a.val + b.val < n.val → ((Num.bin (a.val + b.val) a.val : Nat) : Int) * layF n.val (a.val + b.val) - ((Num.bin (n.val - a.val) b.val : Nat) : Int) * layF n.val a.val = 0 := by decide +kernel
theorem layF_sym : ∀ n : Fin 11, ∀ a : Fin 11, a.val ≤ n.val → layF n.val a.val = layF n.val (n.val - a.val) := by decide +kernel
theorem cocN_emod (m : Int) (t : List (List Int)) (d a b : Nat) (h : a + b < d) : cocN m t d a b % m = (((Num.bin (a + b) a : Nat) : Int) * Pl.pc t (a + b) (d - (a + b)) - ((Num.bin (d - a) b : Nat) : Int) * Pl.pc t a (d - a)) % m := by
  unfold cocN binI
  rw [show ((a : Int) + b).toNat = a + b by omega, show ((d : Int) - a).toNat = d - a by omega, show (a : Int).toNat = a by omega, show (b : Int).toNat = b by omega]
  rw [Int.sub_emod, Int.mul_emod, Int.emod_emod, ← Int.mul_emod, Int.mul_emod (((Num.bin (d - a) b : Nat) : Int) % m), Int.emod_emod, ← Int.mul_emod, ← Int.sub_emod]
/-- Lazard: a plane of one degree is a cocycle exactly if it is a multiple of C(d) -/
theorem isC_iff {m : Int} (m1 : 2 ≤ m) (m2 : m ≤ 10000) {t : List (List Int)} {d : Nat} (ok : Pl.Ok m d t) (d1 : 2 ≤ d) (d2 : d ≤ 10) {l : List Int} (hl : ∀ i, i ≤ d → Ser.co l i = Pl.pc t i (d - i)) :
    (symZ t d = true ∧ cocZ m t d = true) ↔ (facO m l d).isSome = true := by
  constructor
  · rintro ⟨hs, hc⟩
    rw [symZ_iff] at hs
    rw [cocZ_iff] at hc
    obtain ⟨c, h⟩ := Coc.comparison (m := m) (n := d) (p := fun i => Pl.pc t i (d - i)) d1 d2 (fun i h0 h1 => by
      have := (hs i (by omega)).1
      show (Pl.pc t i (d - i) - Pl.pc t (d - i) (d - (d - i))) % m = 0
      rw [show d - (d - i) = i by omega, this, Int.sub_self]; rfl) (fun a b ha hb hab => by
      rw [← cocN_emod m t d a b hab]; exact hc a b ha hb hab)
    have hf : Fits m l d c := fun i hi => by
      rw [hl i hi]
      by_cases hx : 0 < i ∧ i < d
      · have := h i hx.1 hx.2
        have e : c * layF d i - Pl.pc t i (d - i) = -(Pl.pc t i (d - i) - c * layF d i) := by omega
        rw [e]
        exact Int.emod_eq_zero_of_dvd (Int.dvd_neg.2 (Int.dvd_of_emod_eq_zero this))
      · rw [(hs i hi).2 (by omega)]
        unfold layF
        rw [if_neg hx, Int.mul_zero]; rfl
    cases hx : facO m l d with
    | none => exact absurd hf (facO_none m1 m2 hx c)
    | some X => rfl
  · intro h
    obtain ⟨X, hX⟩ := Option.isSome_iff_exists.1 h
    obtain ⟨b1, b2, hf, -⟩ := facO_some m1 m2 hX
    have hp : ∀ i, i ≤ d → Pl.pc t i (d - i) = X 1 * layF d i % m := fun i hi => by
      have h1 := hf i hi
      rw [hl i hi] at h1
      have r := ok.pc i (d - i)
      have h2 : X 1 * layF d i % m = Pl.pc t i (d - i) % m := Int.emod_eq_emod_iff_emod_sub_eq_zero.2 h1
      rw [h2, Int.emod_eq_of_lt r.1 r.2]
    constructor
    · rw [symZ_iff]
      intro i hi
      have e := layF_sym ⟨d, by omega⟩ ⟨i, by omega⟩ hi
      have h2 := hp (d - i) (by omega)
      rw [show d - (d - i) = i by omega] at h2
      refine ⟨by rw [hp i hi, h2, e], fun hx => ?_⟩
      rw [hp i hi]
      unfold layF
      rw [if_neg (by omega), Int.mul_zero]; rfl
    · rw [cocZ_iff]
      intro a b ha hb hab
      rw [cocN_emod m t d a b hab, hp (a + b) (by omega), hp a (by omega)]
      have e := layF_coc ⟨d, by omega⟩ ⟨a, by omega⟩ ⟨b, by omega⟩ d1 ha hb hab
      rw [Int.sub_emod, Int.mul_emod, Int.emod_emod, ← Int.mul_emod, Int.mul_emod _ (X 1 * layF d a % m), Int.emod_emod, ← Int.mul_emod, ← Int.sub_emod]
      have e2 : ((Num.bin (a + b) a : Nat) : Int) * (X 1 * layF d (a + b)) - ((Num.bin (d - a) b : Nat) : Int) * (X 1 * layF d a) = X 1 * (((Num.bin (a + b) a : Nat) : Int) * layF d (a + b) - ((Num.bin (d - a) b : Nat) : Int) * layF d a) := by
        rw [Int.mul_sub]; simp only [Int.mul_left_comm (X 1)]
      rw [e2, e, Int.mul_zero]; rfl
end Cyc
end Go.Proofs.Ytlpfifdocgljnac

/- Contract of slices.Max at whole numbers, and of isOfOneDegree. -/
namespace Go.Proofs.Ytlpfifdocgljnac
open Go.RowKit Go.WideShapes Go.ChangeShapes Go.ChangeAt

/-- the greatest of the first k + 1 numbers -/
def maxF (l : List Int) : Nat → Int
  | 0 => Ser.co l 0
  | k + 1 => max (maxF l k) (Ser.co l (k + 1))
theorem maxF_pos {l : List Int} (h : ∀ i, 0 ≤ Ser.co l i) : ∀ k, 0 < maxF l k ↔ ∃ i, i ≤ k ∧ Ser.co l i ≠ 0
  | 0 => ⟨fun h1 => ⟨0, Nat.le_refl _, by unfold maxF at h1; omega⟩, fun ⟨i, hi, h2⟩ => by
    obtain rfl : i = 0 := Nat.le_zero.1 hi
    show 0 < Ser.co l 0
    have := h 0
    omega⟩
  | k + 1 => by
    have ih := maxF_pos h k
    have hk := h (k + 1)
    unfold maxF
    constructor
    · intro h1
      by_cases hc : Ser.co l (k + 1) ≠ 0
      · exact ⟨k + 1, Nat.le_refl _, hc⟩
      · obtain ⟨i, hi, h2⟩ := ih.1 (by omega)
        exact ⟨i, by omega, h2⟩
    · rintro ⟨i, hi, h2⟩
      by_cases hc : i = k + 1
      · subst hc; omega
      · have := ih.2 ⟨i, by omega, h2⟩; omega
set_option maxHeartbeats 4000000 in
set_option maxRecDepth 100000 in
theorem Max_any (A : Option Addr) (c n : Nat) (l : List Int) (w : World) (hl : l.length = n + 1) (hn : n ≤ 1000) (hr : RI w A l) :
    Calls Try.prog 80 #[.slice A l.length c] w fun e w' => e = .returned (.int .i64 (maxF l n)) ∧ Below w.heap.size w w' := by
  obtain ⟨b, off, rfl, hbb, hcl⟩ := hr.at 0 (by omega)
  have HR := Lib.hid hr
  rw [hl]
  have j0 : (0 : Int) < (n : Int) + 1 := by omega
  have j1 : ¬ (n : Int) + 1 < 1 := by omega
  simp only [Nat.add_zero] at hcl
  have hM0 : Ser.co l 0 = maxF l 0 := rfl
  rw [hM0] at hcl
  obtain ⟨X, hX⟩ : ∃ X, maxF l 0 = X := ⟨_, rfl⟩
  rw [hX] at hcl
  go_enter Try.func80, Try.ntmps80
  go_wp2
  rw [← hX]
  clear hcl hM0 hX
  go_loopw [3, 4] (fun s3 s4 wr => ∃ q : Nat, q ≤ n ∧ s3 = .int .i64 (maxF l q) ∧ s4 = .int .i64 ((q : Int) + 1) ∧ wr = w) (fun _ s4 _ => n + 2 - (intOf s4).toNat)
  case atStart => exact ⟨0, Nat.zero_le _, rfl, by first | rfl | go_num, rfl⟩
  case round =>
    obtain ⟨q, hq, rfl, rfl, rfl⟩ := hrel
    by_cases hlt : q < n
    · obtain ⟨b', off', he, hbb', hcl'⟩ := HR.out.at (q + 1) (by omega)
      injection he with he
      injection he with he1 he2
      subst he1
      subst he2
      have hst : max (maxF l q) (Ser.co l (q + 1)) = maxF l (q + 1) := rfl
      obtain ⟨Y, hY⟩ : ∃ Y, Ser.co l (q + 1) = Y := ⟨_, rfl⟩
      obtain ⟨Z, hZ⟩ : ∃ Z, maxF l q = Z := ⟨_, rfl⟩
      rw [hY] at hcl' hst
      rw [hZ] at hst ⊢
      have i1 : (q : Int) + 1 < (n : Int) + 1 := by omega
      have i2 : (0 : Int) ≤ (q : Int) + 1 := by omega
      have i3 : ((q : Int) + 1).toNat = q + 1 := by omega
      go_wp2
      refine ⟨⟨q + 1, hlt, ?_, by go_num, trivial⟩, by simp only [intOf]; omega⟩
      rw [← hst]
      congr 1
      split <;> omega
    · obtain rfl : q = n := by omega
      have i1 : ¬ (q : Int) + 1 < (q : Int) + 1 := by omega
      go_wp2
      go_ret
      exact ⟨rfl, Below.refl _ _⟩
theorem lowZ_step {m : Int} {t : List (List Int)} {d k : Nat} (ok : Pl.Ok m d t) : maxF (layC m t k) k > 0 ↔ ∃ i, i ≤ k ∧ Pl.pc t i (k - i) ≠ 0 := by
  have h0 : ∀ i, 0 ≤ Ser.co (layC m t k) i := fun i => by
    by_cases hi : i ≤ k
    · rw [layC_co ok k i hi]; exact (ok.pc i (k - i)).1
    · rw [Ser.co_over (by rw [layC_length]; omega)]; exact Int.le_refl _
  rw [gt_iff_lt, maxF_pos h0 k]
  exact ⟨fun ⟨i, hi, h⟩ => ⟨i, hi, by rwa [layC_co ok k i hi] at h⟩, fun ⟨i, hi, h⟩ => ⟨i, hi, by rwa [layC_co ok k i hi]⟩⟩
set_option maxHeartbeats 4000000 in
set_option maxRecDepth 100000 in
theorem isOne_any (m : Int) (d : Nat) (A : Option Addr) (c : Nat) (t : List (List Int)) (w : World) (hs : Pl.Ok m d t) (hr : RP w A t) :
    Calls Try.prog 53 #[.agg #[.int .i64 m, .int .i64 d, .slice A t.length c]] w fun e w' => e = .returned (.bool (Cyc.lowZ t d)) ∧ Below w.heap.size w w' := by
  have HG1 := Lib.hid (GBox.new 57 w m d A t.length c)
  have HWB := Lib.hid (below_one w (.cells #[.int .i64 m, .int .i64 d, .slice A t.length c] 57))
  obtain ⟨W, hW⟩ : ∃ W, w.alloc (.cells #[.int .i64 m, .int .i64 d, .slice A t.length c] 57) = W := ⟨_, rfl⟩
  rw [hW] at HG1 HWB
  have HW := Lib.hid hW
  have hd2 := hs.d2
  have HL := Lib.hid (fun k (hk : k ≤ d) W0 (h : Below W.heap.size W W0) => layer_any m d A c t k W0 hs ((hr.below HWB.out).below h) hk)
  have HM := Lib.hid (fun k (hk : k ≤ d) A1 c1 W0 (h : RI W0 A1 (layC m t k)) => Max_any A1 c1 k (layC m t k) W0 (layC_length m t k) (by omega) h)
  have HS := Lib.hid (fun k => lowZ_step (k := k) hs)
  have HZ := Lib.hid (Cyc.lowZ_iff (t := t) (d := d))
  obtain ⟨L, hL⟩ : ∃ L, t.length = L := ⟨_, rfl⟩
  rw [hL] at HL HW HG1 ⊢
  clear hW hr hs hL
  obtain ⟨x1, x2, x3, x4⟩ := HG1.out
  go_enter Try.func53, Try.ntmps53
  go_wp2
  rw [HW.out]
  go_wp2
  clear x1 x2 x3 x4
  go_loopw [3, 7] (fun _ s7 wr => ∃ k : Nat, k ≤ d ∧ s7 = .int .i64 k ∧ (∀ n i, n < k → i ≤ n → Pl.pc t i (n - i) = 0) ∧ Below W.heap.size W wr) (fun _ s7 _ => d + 1 - (intOf s7).toNat)
  case atStart => exact ⟨0, Nat.zero_le _, rfl, fun n i hn => absurd hn (by omega), Below.refl _ _⟩
  case round =>
    obtain ⟨k, hk, rfl, hz, hbel⟩ := hrel
    have HB := Lib.hid hbel
    have HZK := Lib.hid hz
    obtain ⟨x1, x2, x3, x4⟩ := HG1.out.keep hbel
    by_cases hlt : k < d
    · have hll := layC_length m t k
      have hiff := HS.out k
      have hM := fun A1 c1 W0 h => HM.out k hk A1 c1 W0 h
      rw [show (layC m t k).length = k + 1 from hll] at hM
      have HMK := Lib.hid hM
      have HLK := Lib.hid (HL.out k hk wr hbel)
      obtain ⟨T, hT⟩ : ∃ T, layC m t k = T := ⟨_, rfl⟩
      rw [hT] at hiff HMK HLK hll
      obtain ⟨X, hX⟩ : ∃ X, maxF T k = X := ⟨_, rfl⟩
      rw [hX] at hiff HMK
      have HI := Lib.hid hiff
      have HLL := Lib.hid hll
      have i1 : (k : Int) < (d : Int) := by omega
      clear hiff hM hT hX hll hbel hz HM HL HS
      go_wp2_with fail
      refine HLK.out.mono ?_
      rintro e w1 ⟨v, rfl, ho, hb1⟩
      obtain ⟨A1, c1, rfl, -⟩ := ho.form
      rw [HLL.out]
      go_wp2_with fail
      refine (HMK.out _ _ _ ho.ri).mono ?_
      rintro e w2 ⟨rfl, hb2⟩
      have HB2 := Lib.hid (below_step HB.out (below_step hb1 hb2))
      clear ho hb1 hb2 x1 x2 x3 x4
      by_cases hx : 0 < X
      · have HF : Hid (Cyc.lowZ t d = false) := Lib.hid (by
          rw [← Bool.not_eq_true, HZ.out]
          intro h
          obtain ⟨i, hi, h2⟩ := HI.out.1 hx
          exact h2 (h k i (by omega) hi))
        go_wp2
        go_ret
        exact ⟨by rw [HF.out]; rfl, below_step HWB.out HB2.out⟩
      · have HN : Hid (∀ n i, n < k + 1 → i ≤ n → Pl.pc t i (n - i) = 0) := Lib.hid (fun n i hn hi => by
          by_cases hnk : n = k
          · subst hnk
            exact Classical.byContradiction (fun h => hx (HI.out.2 ⟨i, hi, h⟩))
          · exact HZK.out n i (by omega) hi)
        go_wp2
        go_roundw
        case rel => exact ⟨k + 1, by omega, by go_num, HN.out, HB2.out⟩
        case measure => simp only [intOf]; omega
    · obtain rfl : k = d := by omega
      have HF : Hid (Cyc.lowZ t k = true) := Lib.hid (HZ.out.2 HZK.out)
      have i1 : ¬ (k : Int) < (k : Int) := by omega
      clear hz hbel
      go_wp2
      go_ret
      exact ⟨by rw [HF.out]; rfl, below_step HWB.out HB.out⟩
end Go.Proofs.Ytlpfifdocgljnac

/- Contracts of layers: those of Lazard's cocycles, and grids with a layer. -/
namespace Go.Proofs.Ytlpfifdocgljnac
open Go.RowKit Go.WideShapes Go.ChangeShapes Go.ChangeAt

set_option maxHeartbeats 2000000 in
theorem lazardLayer_any (n : Nat) (w : World) (h1 : 2 ≤ n) (h2 : n ≤ 10) :
    Calls Try.prog 77 #[.int .i64 n] w fun e w' => ∃ v, e = .returned v ∧ OwnI w' w.heap.size v (layL n) ∧ Below w.heap.size w w' := by
  have hmk : ∀ W : World, (Instr.makeSlice 35 (.int .i64 ((n : Int) + 1)) (.int .i64 ((n : Int) + 1))).run Try.prog W = .ok (.slice (some ⟨W.heap.size, 0, none⟩) (n + 1) (n + 1)) (W.alloc (.cells (madeCells #[.int .i64 0] (n + 1)) 2)) := by
    intro W
    have := run_make_row' (P := Try.prog) 35 2 (.int .i64 0) 8 Try.underlying35 info64 rfl .i64 .i64 (n + 1) (by omega) (by omega) W
    rwa [show ((n + 1 : Nat) : Int) = (n : Int) + 1 by omega] at this
  have HO := Lib.hid (OwnI.made w (n + 1) (by unfold maxLen; omega))
  have hin : inB (n : Int) 2 60 = true := inB_yes (by omega) (by omega)
  have hbd := BinomialDivisor_any (n : Int) (w.alloc (.cells (madeCells #[.int .i64 0] (n + 1)) 2))
  rw [if_pos hin, if_pos hin, show ((n : Int).toNat - 1) = n - 1 by omega] at hbd
  obtain ⟨D, hD⟩ : ∃ D, lz (n : Int) (n - 1) = D := ⟨_, rfl⟩
  have hDp : 0 < D := by rw [← hD]; exact lz_pos _ (by omega) (by omega)
  have hDb := (lz_bd (n := (n : Int)) (by omega) (n - 1) (by omega)).2
  rw [hD] at hbd hDb
  have HBD := Lib.hid hbd
  have HF := Lib.hid (fun k (h0 : 0 < k) (h : k < n) => by have := layF_mid h0 h; rw [hD] at this; exact this)
  have hD0 : ¬ D = 0 := by omega
  have hD1 : ¬ D = -1 := by omega
  clear hin hbd hD
  go_enter Try.func77, Try.ntmps77
  go_wp2_with fail
  refine HBD.out.mono ?_
  rintro e w1 ⟨rfl, hb1⟩
  have ho1 := HO.out.keep hb1
  rw [← layP_one] at ho1
  have HO1 := Lib.hid ho1
  have HB1 := Lib.hid (below_step (below_one w (.cells (madeCells #[.int .i64 0] (n + 1)) 2)) hb1)
  clear ho1 hb1 HO HBD hmk
  go_wp2
  go_loopw [6] (fun i wr => ∃ k : Nat, 1 ≤ k ∧ k ≤ n ∧ i = .int .i64 k ∧ OwnI wr w.heap.size (.slice (some ⟨w.heap.size, 0, none⟩) (n + 1) (n + 1)) (layP n k) ∧ Below w.heap.size w wr) (fun i _ => n + 2 - (intOf i).toNat)
  case atStart => exact ⟨1, Nat.le_refl _, by omega, rfl, HO1.out, HB1.out⟩
  case round =>
    clear HO1 HB1
    obtain ⟨k, k1, k2, rfl, own, hbl⟩ := hrel
    have OW := Lib.hid own
    have HB := Lib.hid hbl
    have hsz : w.heap.size < wr.heap.size := (own.lt w.heap.size rfl).2
    clear own hbl
    by_cases hlt : k < n
    · have hlt2 : (k : Int) < (n : Int) := by omega
      have hf := HF.out k (by omega) hlt
      have hst := layP_step (n := n) (k := k) (by omega)
      rw [hf] at hst
      obtain ⟨q1, q2⟩ := binI_bd (n := (n : Int)) (k := (k : Int)) (by omega)
      have HC := Lib.hid (fun W0 => choices_any (n : Int) (k : Int) W0 (by omega) (by omega) (by omega) (by omega))
      obtain ⟨X, hX⟩ : ∃ X, binI (n : Int) (k : Int) = X := ⟨_, rfl⟩
      rw [hX] at HC q1 q2 hst
      have hq : 0 ≤ X.tdiv D ∧ X.tdiv D ≤ X := by
        rw [Int.tdiv_eq_ediv_of_nonneg q1]
        exact ⟨Int.ediv_nonneg q1 (by omega), Int.ediv_le_self _ q1⟩
      obtain ⟨Y, hY⟩ : ∃ Y, X.tdiv D = Y := ⟨_, rfl⟩
      rw [hY] at hq hst
      obtain ⟨-, -, o3, o4⟩ := OW.out.cells
      have d1 := o3 k (by rw [layP_length]; omega)
      have f1 := o4 k
      have hset := OW.out.set k Y
      rw [hst] at hset
      have HSE := Lib.hid hset
      have HB3 := Lib.hid (HB.out.setCell (p := ⟨w.heap.size, k, none⟩) (Nat.le_refl _) (.int .i64 Y))
      have j0 : (0 : Int) ≤ (k : Int) := by omega
      have j2 : (k : Int) < (n : Int) + 1 := by omega
      have HY := Lib.hid hY
      clear hf hst hX o3 o4 hset
      go_wp2_with fail
      refine (HC.out _).mono ?_
      rintro e w3 ⟨rfl, rfl⟩
      go_wp2
      go_roundw
      case rel => exact ⟨k + 1, by omega, hlt, by go_num, HSE.out, HB3.out⟩
      case measure => simp only [intOf]; omega
    · have hlt2 : ¬ (k : Int) < (n : Int) := by omega
      obtain rfl : k = n := by omega
      have HE := Lib.hid (layP_end k)
      go_wp2
      go_ret
      exact ⟨_, rfl, by rw [← HE.out]; exact OW.out, HB.out⟩
theorem withLayerC_any (i j g g' : Nat) (m : Int) (d : Nat) (A : Option Addr) (c : Nat) (l : List Int) (W : World) (hv : VarC 55 W g #[.int .i64 m, .int .i64 d]) (hc : W.cell? ⟨g', 0, none⟩ = some (.slice A l.length c)) (hl : l.length = d + 1) (hr : RI W A l) (hij : i + j ≤ d) (hd : d ≤ 100) :
    Calls Try.prog 113 #[.int .i64 i, .int .i64 j, .pointer (some ⟨g, 0, none⟩), .pointer (some ⟨g', 0, none⟩)] W fun e w' => e = .returned (.int .i64 (ofLay d (Ser.co l) i j)) ∧ Below W.heap.size W w' := by
  obtain ⟨-, x2, -⟩ := hv.tells2
  unfold ofLay
  by_cases h : i + j < d
  · rw [if_pos h]
    have h2 : (i : Int) + (j : Int) < (d : Int) := by omega
    clear hr
    go_enter Try.func113, Try.ntmps113
    go_wp2
    go_ret
    exact ⟨rfl, Below.refl _ _⟩
  · rw [if_neg h]
    have h2 : ¬ (i : Int) + (j : Int) < (d : Int) := by omega
    obtain ⟨b, off, rfl, hb, hcl⟩ := hr.at i (by omega)
    obtain ⟨X, hX⟩ : ∃ X, Ser.co l i = X := ⟨_, rfl⟩
    rw [hX] at hcl ⊢
    have j0 : (0 : Int) ≤ (i : Int) := by omega
    have j1 : (i : Int) < (l.length : Int) := by omega
    obtain ⟨L, hL⟩ : ∃ L, l.length = L := ⟨_, rfl⟩
    rw [hL] at hc j1
    clear hX hr hl hL
    go_enter Try.func113, Try.ntmps113
    go_wp2
    go_ret
    exact ⟨rfl, Below.refl _ _⟩
set_option maxHeartbeats 2000000 in
set_option maxRecDepth 100000 in
theorem withLayer_any (m : Int) (d : Nat) (A : Option Addr) (c : Nat) (l : List Int) (w : World) (m1 : 2 ≤ m) (m2 : m ≤ 10000) (hd : d ≤ 100) (hl : l.length = d + 1) (hr : RI w A l) (hb : ∀ i, -1000000000000 ≤ Ser.co l i ∧ Ser.co l i ≤ 1000000000000) :
    Calls Try.prog 76 #[.agg #[.int .i64 m, .int .i64 d], .slice A l.length c] w fun e w' => ∃ v, e = .returned (.agg #[.int .i64 m, .int .i64 d, v]) ∧ OwnR w' w.heap.size w'.heap.size v (Pl.tab m d (ofLay d (Ser.co l))) ∧ Below w.heap.size w w' := by
  obtain ⟨W, hW⟩ : ∃ W, ((w.alloc (.cells #[.int .i64 m, .int .i64 d] 55)).alloc (.cells #[.slice A l.length c] 35)).alloc (.cells #[.int .i64 0, .int .i64 0, .slice none 0 0] 57) = W := ⟨_, rfl⟩
  have hwb : Below w.heap.size w W := by rw [← hW]; exact below_alloc _ (below_alloc _ (below_one _ _))
  have b1 : VarC 55 W w.heap.size #[.int .i64 m, .int .i64 d] := by rw [← hW]; exact ((VarC.new _ _ _).keep (below_one _ _)).keep (below_one _ _)
  have b2 : VarC 35 W (w.heap.size + 1) #[.slice A l.length c] := by
    rw [← hW]
    have := (VarC.new 35 (w.alloc (.cells #[.int .i64 m, .int .i64 d] 55)) #[.slice A l.length c]).keep (below_one _ (.cells #[.int .i64 0, .int .i64 0, .slice none 0 0] 57))
    simpa using this
  have v3 : VarC 57 W (w.heap.size + 1 + 1) #[.int .i64 0, .int .i64 0, .slice none 0 0] := by
    rw [← hW]
    have := VarC.new 57 ((w.alloc (.cells #[.int .i64 m, .int .i64 d] 55)).alloc (.cells #[.slice A l.length c] 35)) #[.int .i64 0, .int .i64 0, .slice none 0 0]
    simpa using this
  have HS := Lib.hid (filled_any m d 113 #[.pointer (some ⟨w.heap.size, 0, none⟩), .pointer (some ⟨w.heap.size + 1, 0, none⟩)] (ofLay d (Ser.co l)) W (by omega) m2 (by omega)
    (fun i j hij => by unfold ofLay; have := hb i; split <;> omega) (enters_fn Try.func113 (of_decide_eq_true (by kernel_rfl)) rfl)
    (fun i j W1 hij hb1 => withLayerC_any i j _ _ m d A c l W1 (b1.keep hb1) ((b2.keep hb1).cell 0 _ rfl) hl ((hr.below hwb).below hb1) hij hd))
  have HB := Lib.hid hwb
  have HW := Lib.hid hW
  have V3 := Lib.hid v3
  obtain ⟨x1, x2, -⟩ := b1.tells2
  obtain ⟨T, hT⟩ : ∃ T, Pl.tab m d (ofLay d (Ser.co l)) = T := ⟨_, rfl⟩
  rw [hT] at HS ⊢
  obtain ⟨L, hL⟩ : ∃ L, l.length = L := ⟨_, rfl⟩
  rw [hL] at HW ⊢
  clear b1 b2 v3 hwb hW hr hT hL hb hl
  go_enter Try.func76, Try.ntmps76
  go_wp2_with fail
  rw [HW.out]
  refine HS.out.mono ?_
  rintro e w2 ⟨v, rfl, ho, hb⟩
  obtain ⟨A2, c2, rfl, -⟩ := ho.len
  have hv := V3.out.keep hb
  obtain ⟨q0, q1, q2, q3, q4, q5⟩ := hv.tells3
  obtain ⟨f0, f1, f2, f3, f4⟩ := fin_grid (w := w) hv ho (by have := V3.out.lt; omega) (by omega) (Nat.le_refl _) (below_step HB.out hb) (.int .i64 m) (.int .i64 d) (.slice A2 T.length c2)
  have F3 := Lib.hid (f3.low (show w.heap.size ≤ W.heap.size from HB.out.size))
  have F4 := Lib.hid f4
  unfold set3 at f0 f1 f2
  clear f3 f4 ho hv hb
  go_wp2
  exact bodyPost_ret (v := .agg #[.int .i64 m, .int .i64 d, .slice A2 T.length c2]) (by simp [results, Try.results76, go_sem, f0, f1, f2]) rfl ⟨_, rfl, F3.out, F4.out⟩
end Go.Proofs.Ytlpfifdocgljnac

/- Contract of factorOfLayer: a list of equations is appended to, then solved. -/
namespace Go.Proofs.Ytlpfifdocgljnac
open Go.RowKit Go.WideShapes Go.ChangeShapes Go.ChangeAt

theorem infoE : (Try.prog.info? 96).map (fun i => (i.zero, i.size, i.bytes)) = some (some (.agg #[.int .i64 0, .int .i64 0, .int .i64 0, .int .i64 0, .int .i64 0, .int .i64 0, .int .i64 0, .int .i64 0, .int .i64 0, .int .i64 0, .int .i64 0]), 11, 88) := by kernel_rfl
def rowQ (es : List (List Int)) : List Value := es.flatMap fun e => e.map (Value.int .i64)
theorem rowQ_len : ∀ es : List (List Int), (∀ e ∈ es, e.length = 11) → (rowQ es).length = es.length * 11
  | [], _ => rfl
  | e :: es, h => by
    have ih := rowQ_len es (fun f hf => h f (List.mem_cons_of_mem _ hf))
    have he := h e List.mem_cons_self
    unfold rowQ at ih ⊢
    rw [List.flatMap_cons, List.length_append, ih, List.length_map, he, List.length_cons]; omega
theorem rowQ_at : ∀ (es : List (List Int)) (i : Nat) (e : List Int) (j : Nat) (v : Value), (∀ e ∈ es, e.length = 11) → es[i]? = some e → (e.map (Value.int .i64))[j]? = some v → (rowQ es)[i * 11 + j]? = some v
  | [], i, e, j, v, _, he, _ => by simp at he
  | f :: es, 0, e, j, v, h, he, hv => by
    obtain rfl : f = e := by simpa using he
    unfold rowQ
    rw [List.flatMap_cons, Nat.zero_mul, Nat.zero_add, List.getElem?_append_left (by
      apply Classical.byContradiction
      intro hn
      rw [List.getElem?_eq_none (by omega)] at hv
      cases hv)]
    exact hv
  | f :: es, i + 1, e, j, v, h, he, hv => by
    have ih := rowQ_at es i e j v (fun f hf => h f (List.mem_cons_of_mem _ hf)) (by simpa using he) hv
    have hf := h f List.mem_cons_self
    unfold rowQ at ih ⊢
    rw [List.flatMap_cons, List.getElem?_append_right (by rw [List.length_map, hf]; omega), List.length_map, hf, show (i + 1) * 11 + j - 11 = i * 11 + j by omega]
    exact ih
theorem add_at (g j : Nat) : (⟨g, 0, none⟩ : Addr).add j = ⟨g, j, none⟩ := by unfold Addr.add; split <;> simp_all
/-- a slice of equations, made by the call -/
def OwnQ (w : World) (base : Nat) (v : Value) (es : List (List Int)) : Prop := w.ownsRow base 96 11 v es.length (rowQ es)
theorem OwnQ.eqs {w : World} {base n c : Nat} {A : Option Addr} {es : List (List Int)} (h : OwnQ w base (.slice A n c) es) (hl : ∀ e ∈ es, e.length = 11) : EqsAt w A es := by
  intro hne
  have h2 := h.2
  rcases h2 with ⟨_, h0⟩ | ⟨g, cap, cur, hv, hb, hg, _⟩
  · exact absurd (List.eq_nil_of_length_eq_zero h0) hne
  · injection hv with e1 e2 e3
    subst e1
    subst e2
    subst e3
    have hlt : g < w.heap.size := (World.ownsRow.lt h g rfl).2
    refine ⟨g, 0, rfl, hlt, fun i e he j v hv => ?_⟩
    have := World.ownsRow.cells h (g := g) rfl (i * 11 + j) v (rowQ_at es i e j v hl he hv)
    rw [add_at] at this
    rw [Nat.zero_add]
    exact this
theorem OwnQ.form {w : World} {base : Nat} {v : Value} {es : List (List Int)} (h : OwnQ w base v es) : ∃ A c, v = .slice A es.length c := by
  rcases h.2 with ⟨rfl, h0⟩ | ⟨g, cap, cur, rfl, _⟩
  · exact ⟨none, 0, by rw [h0]⟩
  · exact ⟨_, _, rfl⟩
theorem OwnQ.keep {w w' : World} {base : Nat} {v : Value} {es : List (List Int)} (h : OwnQ w base v es) (hb : Below w.heap.size w w') : OwnQ w' base v es := by
  rcases h.2 with h2 | ⟨g, cap, cur, e1, e2, e3, e4⟩
  · exact ⟨h.1, .inl h2⟩
  · exact ⟨h.1, .inr ⟨g, cap, cur, e1, e2, by rw [hb.block g (Array.getElem?_eq_some_iff.1 e3).1]; exact e3, e4⟩⟩
theorem arr11 (cs : Array Value) (h : cs.size = 11) : ∃ a b c d e f g i j k l, cs = #[a, b, c, d, e, f, g, i, j, k, l] := by
  obtain ⟨l⟩ := cs
  match l, h with
  | [a, b, c, d, e, f, g, i, j, k, l], _ => exact ⟨a, b, c, d, e, f, g, i, j, k, l, rfl⟩
theorem run_buildE (cs : Array Value) (w : World) (h : cs.size = 11) : (Instr.buildSlice 99 1 #[(0, .agg cs)]).run Try.prog w = .ok (.slice (some ⟨w.heap.size, 0, none⟩) 1 1) (w.alloc (.cells cs 96)) := by
  obtain ⟨a, b, c, d, e, f, g, i, j, k, l, rfl⟩ := arr11 cs h
  kernel_rfl
/-- a slice with one equation is made -/
theorem wpL_buildE {ops : Array Oper} {rest : List Oper} {op : Oper} {a : Act} {w : World} {Q : Exit → Act → World → Prop} (hgd : op.guard = none) (x : Operand) (ho : op.op = .buildSlice 99 1 #[(0, x)])
    (cs : Array Value) (hx : a.eval x = .agg cs) (hs : cs.size = 11)
    (h : wpList Try.prog ops Q rest (a.put op.dst (.slice (some ⟨w.heap.size, 0, none⟩) 1 1)) (w.alloc (.cells cs 96))) : wpList Try.prog ops Q (op :: rest) a w :=
  wpList_plain hgd fun _ hK => by
    have hb : (#[((0 : Nat), x)] : Array (Nat × Operand)).map (fun p => (p.1, a.eval p.2)) = #[(0, .agg cs)] := by simp [hx]
    unfold Oper.wp execOp
    simp only [ho, hb, Sem.run_bind, run_buildE cs w hs, Result.andThen_ok, Sem.run_pure]
    exact hK _ _ h
theorem wp_pushE {ops : Array Oper} {rest : List Oper} {o : Oper} {a : Act} {Q : Exit → Act → World → Prop} {w : World} (s x : Operand) (t : TypeId)
    (hgd : o.guard = none) (ho : o.op = .call { callee := .builtin .append, args := #[s, x], argTypes := #[t, t] })
    (ht : Try.prog.underlying t = some (.slice 96)) (base : Nat) (v : Value) (es : List (List Int)) (hs : a.eval s = v) (hown : OwnQ w base v es)
    (e : List Int) (he : e.length = 11) (hx : a.eval x = .slice (some ⟨w.heap.size, 0, none⟩) 1 1) (hlen : es.length ≤ 1000000) (hbase : base ≤ w.heap.size)
    (h : ∀ v' w', OwnQ w' base v' (es ++ [e]) → Below base w w' → wpList Try.prog ops Q rest (a.put o.dst v') w') :
    wpList Try.prog ops Q (o :: rest) a (w.alloc (.cells (arrE e) 96)) := by
  obtain ⟨i0, hi, hz0, hz1, hz2⟩ := info_parts infoE
  refine wpList_append_own _ hgd s x t ho base 96 i0 (.agg #[.int .i64 0, .int .i64 0, .int .i64 0, .int .i64 0, .int .i64 0, .int .i64 0, .int .i64 0, .int .i64 0, .int .i64 0, .int .i64 0, .int .i64 0]) 11 88 ht hi hz0 hz1 hz2 rfl (by decide) v es.length (rowQ es) hs (World.ownsRow.alloc hown _)
    ⟨w.heap.size, 0, none⟩ 1 1 (e.map (Value.int .i64)) hx (by rw [List.length_map, he]) ?_ ?_ ?_ ?_ ?_ ?_
  · intro j u hj
    rw [add_at]
    exact (VarC.new 96 w (arrE e)).cell j u (by unfold arrE; rw [List.getElem?_toArray]; exact hj)
  · intro u hu
    obtain ⟨y, _, rfl⟩ := List.mem_map.1 hu
    rfl
  · unfold maxLen; omega
  · omega
  · simp; omega
  · intro v' w' h1 h2 _
    refine h v' w' ?_ ?_
    · unfold OwnQ
      have : rowQ (es ++ [e]) = rowQ es ++ e.map (Value.int .i64) := by unfold rowQ; rw [List.flatMap_append, List.flatMap_cons, List.flatMap_nil, List.append_nil]
      rw [this, List.length_append]; exact h1
    · exact ((Below.refl base w).alloc hbase _).grown h2 (by simp; omega) (fun k hk => (World.ownsRow.lt hown k hk).1)
theorem least_out {m : Int} {l : List Int} {n : Nat} {wr w' : World} {e : Ending} (h : LeastPost (Cyc.facO m l n) wr e w') :
    ∃ cs : List Int, e = .returned (.tuple #[.agg (arrE cs), .bool (Cyc.facO m l n).isSome]) ∧ cs.length = 11 ∧ Ser.co cs 1 = Cyc.facM m l n ∧ Below wr.heap.size wr w' := by
  unfold LeastPost at h
  unfold Cyc.facM
  cases hx : Cyc.facO m l n with
  | none => rw [hx] at h; exact ⟨_, h.1, by simp, rfl, h.2⟩
  | some X => rw [hx] at h; exact ⟨_, h.1, solP_len X 11, by unfold solL; rw [solP_co (by omega), if_pos (by omega)], h.2⟩
set_option maxHeartbeats 8000000 in
set_option maxRecDepth 100000 in
theorem factorOfLayer_any (m : Int) (n : Nat) (A : Option Addr) (c : Nat) (l : List Int) (w : World) (m1 : 2 ≤ m) (m2 : m ≤ 10000) (n1 : 2 ≤ n) (n2 : n ≤ 10) (hl : l.length = n + 1) (hb : ∀ i, 0 ≤ Ser.co l i ∧ Ser.co l i < m) (hr : RI w A l) :
    Calls Try.prog 54 #[.int .i64 m, .slice A l.length c] w fun e w' => e = .returned (.tuple #[.int .i64 (Cyc.facM m l n), .bool (Cyc.facO m l n).isSome]) ∧ Below w.heap.size w w' := by
  have HLZ := Lib.hid (fun W0 => lazardLayer_any n W0 n1 n2)
  have HT := Lib.hid (fun (i : Nat) (W0 : World) => eqTimes_any m 1 (-(Ser.co l i) :: layF n i :: List.replicate 9 0) W0 m1 m2 (by omega) (by omega) (by simp) (fun j => by
    have := layF_bd (n := n) (i := i) (by omega)
    have := hb i
    match j with
    | 0 => show -10000 ≤ -(Ser.co l i) ∧ -(Ser.co l i) ≤ 10000; omega
    | 1 => show -10000 ≤ layF n i ∧ layF n i ≤ 10000; omega
    | j + 2 => have e : Ser.co (-(Ser.co l i) :: layF n i :: List.replicate 9 0) (j + 2) = Ser.co (List.replicate 9 0) j := rfl
               rw [e, Ser.co_zeros]; omega))
  have HS := Lib.hid (fun A1 c1 es W0 (hO : ∀ e ∈ es, Sys.Ok m e) (hA : EqsAt W0 A1 es) (hn : es.length ≤ 1000) => leastSolution_any m m1 m2 A1 c1 es W0 hO hA hn)
  have HR := Lib.hid (fun i (hi : i ≤ n) W0 (h : Below w.heap.size w W0) => ((hr.below h).at i (by omega)))
  have HBB := Lib.hid hb
  obtain ⟨b, off, rfl, -, -⟩ := hr.at 0 (by omega)
  rw [hl]
  clear hb hr
  go_enter Try.func54, Try.ntmps54
  go_wp2_with fail
  refine (HLZ.out _).mono ?_
  rintro e w1 ⟨v, rfl, ho1, hb1⟩
  obtain ⟨A1, c1, rfl, -⟩ := ho1.form
  rw [layL_length]
  have HL1 := Lib.hid (fun i (hi : i ≤ n) W0 (h : Below w1.heap.size w1 W0) => (((ho1.ri).below h).at i (by rw [layL_length]; omega)))
  have HB1 := Lib.hid hb1
  clear ho1 hb1
  go_wp2
  go_loopw [6, 7, 8, 16] (fun s6 _ _ s16 wr => ∃ k : Nat, k ≤ n + 1 ∧ s16 = .int .i64 k ∧ OwnQ wr w1.heap.size s6 ((Cyc.eqsF m l n).take k) ∧ Below w1.heap.size w1 wr) (fun _ _ _ s16 _ => n + 2 - (intOf s16).toNat)
  case atStart => exact ⟨0, Nat.zero_le _, rfl, World.ownsRow_nil _ _ _ _, Below.refl _ _⟩
  case round =>
    obtain ⟨k, hk, rfl, ho, hbel⟩ := hrel
    have HO := Lib.hid ho
    have HB := Lib.hid hbel
    clear ho hbel
    by_cases hlt : k < n + 1
    · have h1 := HL1.out k (by omega) wr HB.out
      obtain ⟨b1, off1, rfl, -, hcl⟩ := h1
      have h2 := HR.out k (by omega) wr (below_step HB1.out HB.out)
      obtain ⟨b2, off2, he, -, hcl2⟩ := h2
      injection he with he
      injection he with he1 he2
      subst he1
      subst he2
      rw [layL_co (by omega)] at hcl
      have ht := HT.out k
      have hok : (Sys.timesE m 1 (-(Ser.co l k) :: layF n k :: List.replicate 9 0)).length = 11 := by unfold Sys.timesE; rw [Ser.cut_length]
      have hst : (Cyc.eqsF m l n).take k ++ [Sys.timesE m 1 (-(Ser.co l k) :: layF n k :: List.replicate 9 0)] = (Cyc.eqsF m l n).take (k + 1) := by
        unfold Cyc.eqsF
        rw [List.take_add_one, List.getElem?_map, List.getElem?_range hlt]; rfl
      have hll : ((Cyc.eqsF m l n).take k).length = k := by unfold Cyc.eqsF; rw [List.length_take, List.length_map, List.length_range]; omega
      have hp := HBB.out k
      obtain ⟨E, hE⟩ : ∃ E, Sys.timesE m 1 (-(Ser.co l k) :: layF n k :: List.replicate 9 0) = E := ⟨_, rfl⟩
      rw [hE] at ht hok hst
      have hag : arrE (-(Ser.co l k) :: layF n k :: List.replicate 9 0) = #[.int .i64 (-(Ser.co l k)), .int .i64 (layF n k), .int .i64 0, .int .i64 0, .int .i64 0, .int .i64 0, .int .i64 0, .int .i64 0, .int .i64 0, .int .i64 0, .int .i64 0] := rfl
      rw [hag] at ht
      obtain ⟨P, hP⟩ : ∃ P, Ser.co l k = P := ⟨_, rfl⟩
      obtain ⟨F, hF⟩ : ∃ F, layF n k = F := ⟨_, rfl⟩
      rw [hP, hF] at ht
      rw [hP] at hcl2 hp
      rw [hF] at hcl
      have HTK := Lib.hid ht
      have HOK := Lib.hid hok
      have HST := Lib.hid hst
      have HLL := Lib.hid hll
      have hw1 : IntKind.i64.wrap (-P) = -P := by rw [IntKind.wrap_i64]; omega
      have i1 : (k : Int) < (n : Int) + 1 := by omega
      have i2 : (0 : Int) ≤ (k : Int) := by omega
      have HE9 := Lib.hid (show (arrE E).size = 11 by rw [arrE_size, hok])
      clear ht hok hst hll hE hag hP hF HL1 HT HS HR HBB HLZ
      go_upto_region 5 with fail
      go_wp2_with fail
      refine (HTK.out _).mono ?_
      rintro e w2 ⟨rfl, hb2⟩
      have HO2 := Lib.hid (HO.out.keep hb2)
      have HB2 := Lib.hid (below_step HB.out hb2)
      have HSZ : Hid (w1.heap.size ≤ w2.heap.size) := Lib.hid (Nat.le_trans HB.out.size hb2.size)
      clear hb2
      go_wp2_with (first
        | (refine wpL_buildE rfl _ rfl (arrE E) rfl HE9.out ?_)
        | (refine wp_pushE _ _ _ rfl rfl Try.underlying99 w1.heap.size _ _ rfl HO2.out E HOK.out rfl (by rw [HLL.out]; omega) HSZ.out ?_; rintro v' w3 ho3 hb3))
      rw [HST.out] at ho3
      have hB3 : Below w1.heap.size w1 w3 := HB2.out.trans hb3
      exact ⟨⟨k + 1, by omega, by go_num, ho3, hB3⟩, by simp only [intOf]; omega⟩
    · obtain rfl : k = n + 1 := by omega
      have hall : (Cyc.eqsF m l n).take (n + 1) = Cyc.eqsF m l n := List.take_of_length_le (by unfold Cyc.eqsF; rw [List.length_map, List.length_range]; exact Nat.le_refl _)
      have ho := HO.out
      rw [hall] at ho
      obtain ⟨A6, c6, rfl⟩ := ho.form
      have hle : (Cyc.eqsF m l n).length = n + 1 := by unfold Cyc.eqsF; rw [List.length_map, List.length_range]
      have hOK := Cyc.eqsF_ok (show 0 < m by omega) l n
      have HSS := Lib.hid (HS.out A6 c6 (Cyc.eqsF m l n) wr hOK (ho.eqs (fun e he => (hOK e he).len)) (by omega))
      have hi1 : ¬ ((n : Int) + 1 < (n : Int) + 1) := by omega
      have HBB1 := Lib.hid (below_step HB1.out HB.out)
      have HF : Hid (LeastPost (Cyc.facO m l n) wr = LeastPost (Sys.leastS m (Cyc.eqsF m l n)) wr) := Lib.hid rfl
      rw [hle] at HSS ho ⊢
      clear HO ho hall hOK HL1 HT HS HR HLZ hle
      go_upto_region 7 with fail
      go_wp2_with fail
      refine HSS.out.mono ?_
      rw [← HF.out]
      intro e w4 hp
      obtain ⟨cs, rfl, hcl, hc1, hb4⟩ := least_out hp
      have hsz : (arrE cs).size = 11 := by rw [arrE_size, hcl]
      have ho1 := arrE_one cs
      have hat := arrE_at (l := cs) (k := 1) (by omega)
      rw [hc1] at hat
      obtain ⟨Y, hY⟩ : ∃ Y, Cyc.facM m l n = Y := ⟨_, rfl⟩
      obtain ⟨B, hB⟩ : ∃ B, (Cyc.facO m l n).isSome = B := ⟨_, rfl⟩
      rw [hY] at hat
      rw [hB]
      have HY := Lib.hid hY
      have HBo := Lib.hid hB
      dsimp only
      obtain ⟨ca, hca⟩ : ∃ ca, arrE cs = ca := ⟨_, rfl⟩
      rw [hca] at hat hsz ho1 ⊢
      obtain ⟨w5, hw5⟩ : ∃ w5, (w4.alloc (.cells #[.int .i64 0, .int .i64 0, .int .i64 0, .int .i64 0, .int .i64 0, .int .i64 0, .int .i64 0, .int .i64 0, .int .i64 0, .int .i64 0, .int .i64 0] 96)).setRow w4.heap.size ca = w5 := ⟨_, rfl⟩
      have hw6 := hw5
      rw [World.setRow_alloc_new] at hw6
      have e8 : VarC 96 w5 w4.heap.size ca := by rw [← hw6]; exact VarC.new _ _ _
      have y1 := e8.cell 1 _ hat
      have HB5 := Lib.hid (below_step HBB1.out (below_step hb4 (show Below w4.heap.size w4 w5 by rw [← hw6]; exact below_one _ _)))
      have HW5 := Lib.hid hw5
      have Z1 := Lib.hid hsz
      have O1 := Lib.hid ho1
      rw [← hw5] at y1
      clear hp hcl hc1 hb4 hsz ho1 hat hY hB hca hw5 hw6 e8 HSS HF
      go_wp2_with (refine wpL_storeE rfl _ _ rfl _ #[.int .i64 0, .int .i64 0, .int .i64 0, .int .i64 0, .int .i64 0, .int .i64 0, .int .i64 0, .int .i64 0, .int .i64 0, .int .i64 0, .int .i64 0] ca _ rfl rfl (VarC.new 96 w4 #[.int .i64 0, .int .i64 0, .int .i64 0, .int .i64 0, .int .i64 0, .int .i64 0, .int .i64 0, .int .i64 0, .int .i64 0, .int .i64 0, .int .i64 0]) rfl Z1.out O1.out ?_)
      rw [HW5.out]
      clear y1
      go_wp2
      go_ret2
      exact ⟨by rw [HY.out, HBo.out]; rfl, HB5.out⟩
end Go.Proofs.Ytlpfifdocgljnac

/- What the walks of regions that draw their order keep: cells below a block. -/
namespace Go.Proofs.Ytlpfifdocgljnac
open Go.RowKit Go.WideShapes Go.ChangeShapes Go.ChangeAt

/-- F holds of every world in which what lies below block B is as in W -/
theorem keepS {B : Nat} {W w w' : World} {F : World → Prop} (HF : ∀ w', Below B W w' → F w') (hB : B ≤ W.heap.size) (h : F w ∧ Below B W w) (hb : Below w.heap.size w w') : F w' ∧ Below B W w' := by
  have h2 : Below B W w' := h.2.trans (hb.mono (Nat.le_trans hB h.2.size))
  exact ⟨HF _ h2, h2⟩
theorem keepW {B : Nat} {W w' : World} {F : World → Prop} (HF : ∀ w', Below B W w' → F w') (hb : Below B W w') : F w' ∧ Below B W w' := ⟨HF _ hb, hb⟩
theorem keepA {B : Nat} {W w : World} {F : World → Prop} (HF : ∀ w', Below B W w' → F w') (hB : B ≤ W.heap.size) (o : Obj) (h : F w ∧ Below B W w) : F (w.alloc o) ∧ Below B W (w.alloc o) :=
  keepS HF hB h (below_one w o)
theorem keep2 {B : Nat} {W w : World} {F : World → Prop} (HF : ∀ w', Below B W w' → F w') {g : Nat} (hg : B ≤ g) (x y : Value) (h : F w ∧ Below B W w) : F ((w.setCell ⟨g, 0, none⟩ x).setCell ⟨g, 1, none⟩ y) ∧ Below B W ((w.setCell ⟨g, 0, none⟩ x).setCell ⟨g, 1, none⟩ y) := by
  have h2 : Below B W ((w.setCell ⟨g, 0, none⟩ x).setCell ⟨g, 1, none⟩ y) := (h.2.setCell hg x).setCell hg y
  exact ⟨HF _ h2, h2⟩
theorem keep3 {B : Nat} {W w : World} {F : World → Prop} (HF : ∀ w', Below B W w' → F w') {g : Nat} (hg : B ≤ g) (x y z : Value) (h : F w ∧ Below B W w) : F (((w.setCell ⟨g, 0, none⟩ x).setCell ⟨g, 1, none⟩ y).setCell ⟨g, 2, none⟩ z) ∧ Below B W (((w.setCell ⟨g, 0, none⟩ x).setCell ⟨g, 1, none⟩ y).setCell ⟨g, 2, none⟩ z) := by
  have h2 : Below B W (((w.setCell ⟨g, 0, none⟩ x).setCell ⟨g, 1, none⟩ y).setCell ⟨g, 2, none⟩ z) := ((h.2.setCell hg x).setCell hg y).setCell hg z
  exact ⟨HF _ h2, h2⟩
theorem below_less {B : Nat} {W w' : World} (hB : B ≤ W.heap.size) (h : Below W.heap.size W w') : Below B W w' := h.mono hB
end Go.Proofs.Ytlpfifdocgljnac

/- Contracts of cocycleFactor, IsCocycle and CocycleFactor of the program. -/
namespace Go.Proofs.Ytlpfifdocgljnac
open Go.RowKit Go.WideShapes Go.ChangeShapes Go.ChangeAt

theorem cyc_fdeg (a b : Value) (W : World) : (Instr.field 55 (.agg #[a, b]) 1).run Try.prog W = .ok b W := by kernel_rfl
/-- the models of IsCocycle and CocycleFactor -/
def cycB (m : Int) (t : List (List Int)) : Bool := isP m t && Cyc.isC m t (t.length - 1)
def cycF (m : Int) (t : List (List Int)) : Int := if cycB m t then Cyc.facM m (layC m t (t.length - 1)) (t.length - 1) else 0
theorem cyc_no {m : Int} {t : List (List Int)} (h : isP m t = false) : cycB m t = false ∧ cycF m t = 0 := by
  have : cycB m t = false := by unfold cycB; rw [h]; rfl
  exact ⟨this, by unfold cycF; rw [this]; rfl⟩
theorem cyc_isC {m : Int} {t : List (List Int)} {d : Nat} (h : isP m t = true) (e : t.length = d + 1) : cycB m t = Cyc.isC m t d := by
  unfold cycB; rw [h, e]; rfl
theorem cyc_low {m : Int} {t : List (List Int)} {d : Nat} (h : isP m t = true) (e : t.length = d + 1) (hl : d = 1 ∨ Cyc.lowZ t d = false) : cycB m t = false ∧ cycF m t = 0 := by
  have : cycB m t = false := by
    rw [cyc_isC h e]
    unfold Cyc.isC
    rcases hl with rfl | hl
    · rfl
    · rw [hl]; simp
  exact ⟨this, by unfold cycF; rw [this]; rfl⟩
theorem cyc_yes {m : Int} {t : List (List Int)} {d : Nat} (h : isP m t = true) (e : t.length = d + 1) (ok : Pl.Ok m d t) (h1 : ¬ d = 1) (hl : Cyc.lowZ t d = true) :
    cycB m t = (Cyc.facO m (layC m t d) d).isSome ∧ cycF m t = Cyc.facM m (layC m t d) d := by
  have hd1 := ok.d1
  have hd2 := ok.d2
  have hiff := Cyc.isC_iff ok.m1 ok.m2 ok (by omega) hd2 (l := layC m t d) (fun i hi => layC_co ok d i hi)
  have hB : cycB m t = (Cyc.facO m (layC m t d) d).isSome := by
    rw [cyc_isC h e]
    unfold Cyc.isC
    rw [hl, show decide (2 ≤ d) = true from decide_eq_true (by omega)]
    simp only [Bool.true_and]
    rw [Bool.eq_iff_iff, Bool.and_eq_true]
    exact hiff
  refine ⟨hB, ?_⟩
  unfold cycF
  rw [hB, e, show d + 1 - 1 = d from rfl]
  cases hx : Cyc.facO m (layC m t d) d with
  | none => unfold Cyc.facM; rw [hx]; rfl
  | some X => rfl
set_option maxHeartbeats 8000000 in
set_option maxRecDepth 100000 in
theorem cocycleFactor_any (m : Int) (A : Option Addr) (c : Nat) (t : List (List Int)) (w : World) (hz : szT t ≤ 1048576) (hr : RP w A t) :
    Calls Try.prog 26 #[.agg #[.int .i64 m, .slice A t.length c]] w fun e w' => e = .returned (.tuple #[.int .i64 (cycF m t), .bool (cycB m t)]) ∧ Below w.heap.size w w' := by
  obtain ⟨W, hW, b1, hwb⟩ := start1 27 w m A t.length c
  have B1 := Lib.hid b1
  have HB := Lib.hid hwb
  have HW := Lib.hid hW
  have HI := Lib.hid (fun W0 (h : Below W.heap.size W W0) => IsPlane_any m A c t W0 hz ((hr.below hwb).below h))
  by_cases h0 : isP m t = true
  · obtain ⟨d, e1, ok⟩ := plOk_of h0
    have hd1 := ok.d1
    have hd2 := ok.d2
    have HG := Lib.hid (fun W0 => gridOf_nat m A t.length c d W0 e1 (by omega))
    have HO := Lib.hid (fun W0 (h : Below W.heap.size W W0) => isOne_any m d A c t W0 ok ((hr.below hwb).below h))
    rw [h0] at HI
    have hfd := field_frame
    have hfd2 := cyc_fdeg
    by_cases h1 : d = 1
    · obtain ⟨r1, r2⟩ := cyc_low h0 e1 (.inl h1)
      rw [r1, r2]
      subst h1
      obtain ⟨L, hL⟩ : ∃ L, t.length = L := ⟨_, rfl⟩
      rw [hL] at HG HI HW B1 ⊢
      clear b1 hwb hW hr h0 ok e1 hz hL HO r1 r2
      go_enter Try.func26, Try.ntmps26
      go_wp2_with fail
      rw [HW.out]
      refine (HI.out _ (Below.refl _ _)).mono ?_
      rintro e w1 ⟨rfl, hb1⟩
      obtain ⟨x1, x2, x3⟩ := B1.out.keep hb1
      go_wp2_with fail
      refine (HG.out _).mono ?_
      rintro e w2 ⟨rfl, hb2⟩
      have HB3 := Lib.hid (below_step HB.out (below_step hb1 hb2))
      clear hb1 hb2 x1 x2 x3
      go_wp2
      go_ret2
      exact ⟨rfl, HB3.out⟩
    · obtain ⟨T, hT⟩ : ∃ T, Cyc.lowZ t d = T := ⟨_, rfl⟩
      rw [hT] at HO
      cases T with
      | false =>
        obtain ⟨r1, r2⟩ := cyc_low h0 e1 (.inr hT)
        rw [r1, r2]
        have j1 : ¬ (d : Int) = 1 := by omega
        obtain ⟨k1, k2⟩ : ((d : Int) == 1) = false ∧ ((d : Int) != 1) = true := ⟨by simpa using j1, by simpa using j1⟩
        obtain ⟨L, hL⟩ : ∃ L, t.length = L := ⟨_, rfl⟩
        rw [hL] at HG HI HW B1 HO ⊢
        clear b1 hwb hW hr h0 ok e1 hz hL r1 r2 hT
        go_enter Try.func26, Try.ntmps26
        go_wp2_with fail
        rw [HW.out]
        refine (HI.out _ (Below.refl _ _)).mono ?_
        rintro e w1 ⟨rfl, hb1⟩
        obtain ⟨x1, x2, x3⟩ := B1.out.keep hb1
        go_wp2_with fail
        refine (HG.out _).mono ?_
        rintro e w2 ⟨rfl, hb2⟩
        obtain ⟨y1, y2, y3⟩ := B1.out.keep (below_step hb1 hb2)
        clear x1 x2 x3
        go_wp2_with fail
        refine (HG.out _).mono ?_
        rintro e w3 ⟨rfl, hb3⟩
        clear y1 y2 y3
        go_wp2_with fail
        refine (HO.out _ (below_step (below_step hb1 hb2) hb3)).mono ?_
        rintro e w4 ⟨rfl, hb4⟩
        have HB3 := Lib.hid (below_step HB.out (below_step (below_step (below_step hb1 hb2) hb3) hb4))
        clear hb1 hb2 hb3 hb4
        go_wp2
        go_ret2
        exact ⟨rfl, HB3.out⟩
      | true =>
        obtain ⟨r1, r2⟩ := cyc_yes h0 e1 ok h1 hT
        rw [r1, r2]
        have j1 : ¬ (d : Int) = 1 := by omega
        obtain ⟨k1, k2⟩ : ((d : Int) == 1) = false ∧ ((d : Int) != 1) = true := ⟨by simpa using j1, by simpa using j1⟩
        have hll := layC_length m t d
        have hlb : ∀ i, 0 ≤ Ser.co (layC m t d) i ∧ Ser.co (layC m t d) i < m := fun i => by
          by_cases hi : i ≤ d
          · rw [layC_co ok d i hi]; exact ok.pc i (d - i)
          · rw [Ser.co_over (by rw [hll]; omega)]; have := ok.m1; omega
        have HL := Lib.hid (fun W0 (h : Below W.heap.size W W0) => layer_any m d A c t d W0 ok ((hr.below hwb).below h) (Nat.le_refl _))
        have hfo := fun A1 c1 W0 (h : RI W0 A1 (layC m t d)) => factorOfLayer_any m d A1 c1 (layC m t d) W0 ok.m1 ok.m2 (by omega) hd2 hll hlb h
        obtain ⟨L, hL⟩ : ∃ L, t.length = L := ⟨_, rfl⟩
        rw [hL] at HG HI HW B1 HO HL ⊢
        rw [hll] at hfo
        obtain ⟨C, hC⟩ : ∃ C, layC m t d = C := ⟨_, rfl⟩
        rw [hC] at HL hfo hll ⊢
        obtain ⟨X, hX⟩ : ∃ X, Cyc.facM m C d = X := ⟨_, rfl⟩
        obtain ⟨Y, hY⟩ : ∃ Y, (Cyc.facO m C d).isSome = Y := ⟨_, rfl⟩
        rw [hX, hY] at hfo ⊢
        have HFO := Lib.hid hfo
        have HLL := Lib.hid hll
        clear b1 hwb hW hr h0 ok e1 hz hL r1 r2 hT hfo hll hlb hC hX hY
        go_enter Try.func26, Try.ntmps26
        go_wp2_with fail
        rw [HW.out]
        refine (HI.out _ (Below.refl _ _)).mono ?_
        rintro e w1 ⟨rfl, hb1⟩
        obtain ⟨x1, x2, x3⟩ := B1.out.keep hb1
        go_wp2_with fail
        refine (HG.out _).mono ?_
        rintro e w2 ⟨rfl, hb2⟩
        obtain ⟨y1, y2, y3⟩ := B1.out.keep (below_step hb1 hb2)
        clear x1 x2 x3
        go_wp2_with fail
        refine (HG.out _).mono ?_
        rintro e w3 ⟨rfl, hb3⟩
        clear y1 y2 y3
        go_wp2_with fail
        refine (HO.out _ (below_step (below_step hb1 hb2) hb3)).mono ?_
        rintro e w4 ⟨rfl, hb4⟩
        have HB3 := Lib.hid (below_step (below_step (below_step hb1 hb2) hb3) hb4)
        clear hb1 hb2 hb3 hb4
        have HF := Lib.hid (fun w' (h : Below w4.heap.size w4 w') => (⟨(B1.out.keep (below_step HB3.out h)).1, (B1.out.keep (below_step HB3.out h)).2.1⟩ : w'.cell? ⟨w.heap.size, 0, none⟩ = some (.int .i64 m) ∧ w'.cell? ⟨w.heap.size, 1, none⟩ = some (.slice A L c)))
        have X0 := Lib.hid (keepW HF.out (below_drew0 w4))
        go_wp2_with fail
        go_region_held3 (fun w' => (w'.cell? ⟨w.heap.size, 0, none⟩ = some (.int .i64 m) ∧ w'.cell? ⟨w.heap.size, 1, none⟩ = some (.slice A L c)) ∧ Below w4.heap.size w4 w') (first | exact X0.out | exact keepS HF.out (Nat.le_refl _) (by assumption) hb9 | exact keepS HF.out (Nat.le_refl _) (by assumption) hb8 | exact keepS HF.out (Nat.le_refl _) (by assumption) hb7) (first
          | (go_at_call 34; with_reducible refine Calls.mono (HG.out _) ?_; rintro e w7 ⟨rfl, hb7⟩; first | have hq := below_step hq hb7 | have hq := below_step (below_drew0 w4) hb7)
          | (go_at_call 55; with_reducible refine Calls.mono (HL.out _ (below_step HB3.out hq)) ?_; rintro e w8 ⟨s8, rfl, ho8, hb8⟩; obtain ⟨A8, c8, rfl, hri⟩ := ho8.form; have hq := below_step hq hb8; rw [HLL.out])
          | (go_at_call 54; with_reducible refine Calls.mono (HFO.out _ _ _ hri) ?_; rintro e w9 ⟨rfl, hb9⟩; have hq := below_step hq hb9))
        all_goals
          have HB9 := Lib.hid (below_step HB.out (below_step HB3.out hq))
          clear hq
          go_wp2
          go_ret2
          exact ⟨rfl, HB9.out⟩
  · have h0' : isP m t = false := by simpa using h0
    obtain ⟨r1, r2⟩ := cyc_no h0'
    rw [r1, r2]
    rw [h0'] at HI
    obtain ⟨L, hL⟩ : ∃ L, t.length = L := ⟨_, rfl⟩
    rw [hL] at HI HW B1 ⊢
    clear b1 hwb hW hr h0 h0' hz hL r1 r2
    go_enter Try.func26, Try.ntmps26
    go_wp2_with fail
    rw [HW.out]
    refine (HI.out _ (Below.refl _ _)).mono ?_
    rintro e w1 ⟨rfl, hb1⟩
    go_wp2
    go_ret2
    exact ⟨rfl, below_step HB.out hb1⟩
set_option maxHeartbeats 4000000 in
set_option maxRecDepth 100000 in
theorem IsCocycle_any (m : Int) (A : Option Addr) (c : Nat) (t : List (List Int)) (w : World) (hz : szT t ≤ 1048576) (hr : RP w A t) :
    Calls Try.prog 10 #[.agg #[.int .i64 m, .slice A t.length c]] w fun e w' => e = .returned (.bool (cycB m t)) ∧ Below w.heap.size w w' := by
  obtain ⟨W, hW, b1, hwb⟩ := start1 27 w m A t.length c
  have HB := Lib.hid hwb
  have HW := Lib.hid hW
  have HC := Lib.hid (cocycleFactor_any m A c t W hz (hr.below hwb))
  obtain ⟨X, hX⟩ : ∃ X, cycF m t = X := ⟨_, rfl⟩
  obtain ⟨Y, hY⟩ : ∃ Y, cycB m t = Y := ⟨_, rfl⟩
  rw [hX, hY] at HC
  rw [hY]
  obtain ⟨x1, x2, x3⟩ := b1
  clear hwb hW hr hz hX hY
  go_enter Try.func10, Try.ntmps10
  go_wp2_with fail
  rw [HW.out]
  go_wp2_with fail
  refine HC.out.mono ?_
  rintro e w1 ⟨rfl, hb1⟩
  have HB1 := Lib.hid (below_step HB.out hb1)
  clear hb1 x1 x2 x3
  go_wp2
  go_ret
  exact ⟨rfl, HB1.out⟩
/-- what the two give together -/
def cycC (m : Int) (t : List (List Int)) : Int × Int := if cycB m t then (cycF m t, 0) else (0, 1)
set_option maxHeartbeats 4000000 in
set_option maxRecDepth 100000 in
theorem CocycleFactor_any (m : Int) (A : Option Addr) (c : Nat) (t : List (List Int)) (w : World) (hz : szT t ≤ 1048576) (hr : RP w A t) :
    Calls Try.prog 13 #[.agg #[.int .i64 m, .slice A t.length c]] w fun e w' => e = .returned (.tuple #[.int .i64 (cycC m t).1, .int .i64 (cycC m t).2]) ∧ Below w.heap.size w w' := by
  obtain ⟨W, hW, b1, hwb⟩ := start1 27 w m A t.length c
  have HB := Lib.hid hwb
  have HW := Lib.hid hW
  have HC := Lib.hid (cocycleFactor_any m A c t W hz (hr.below hwb))
  unfold cycC
  obtain ⟨X, hX⟩ : ∃ X, cycF m t = X := ⟨_, rfl⟩
  obtain ⟨Y, hY⟩ : ∃ Y, cycB m t = Y := ⟨_, rfl⟩
  rw [hX, hY] at HC
  rw [hX, hY]
  obtain ⟨x1, x2, x3⟩ := b1
  clear hwb hW hr hz hX hY
  cases Y with
  | true =>
    rw [if_pos rfl]
    go_enter Try.func13, Try.ntmps13
    go_wp2_with fail
    rw [HW.out]
    go_wp2_with fail
    refine HC.out.mono ?_
    rintro e w1 ⟨rfl, hb1⟩
    have HB1 := Lib.hid (below_step HB.out hb1)
    clear hb1 x1 x2 x3
    go_wp2
    go_ret2
    exact ⟨rfl, HB1.out⟩
  | false =>
    rw [if_neg (by decide)]
    go_enter Try.func13, Try.ntmps13
    go_wp2_with fail
    rw [HW.out]
    go_wp2_with fail
    refine HC.out.mono ?_
    rintro e w1 ⟨rfl, hb1⟩
    have HB1 := Lib.hid (below_step HB.out hb1)
    clear hb1 x1 x2 x3
    go_wp2
    go_ret2
    exact ⟨rfl, HB1.out⟩
end Go.Proofs.Ytlpfifdocgljnac

/- Contracts of CoordinatePlane, of the program and of the model. -/
namespace Go.Proofs.Ytlpfifdocgljnac
open Go.RowKit Go.WideShapes Go.ChangeShapes Go.ChangeAt

/-- the table of a coordinate -/
def corT (m : Int) (d : Nat) (k : Int) : List (List Int) := Pl.tab m d (gosF (Ser.cut m d (Ser.mon 1 1)) k)
/-- the model of CoordinatePlane -/
def corP (m d k : Int) : Int × List (List Int) × Int :=
  if isM m = true then (if inB d 1 10 = true ∧ inB k 0 1 = true then (m, corT m d.toNat k, 0) else (0, [], 2)) else (0, [], 1)
theorem corP_len (m d k : Int) : szT (corP m d k).2.1 ≤ 1048576 := by
  unfold corP
  by_cases hm : isM m = true
  · rw [if_pos hm]
    obtain ⟨m1, m2⟩ := (isM_iff m).1 hm
    by_cases h : inB d 1 10 = true ∧ inB k 0 1 = true
    · rw [if_pos h]
      obtain ⟨d1, d2⟩ := (inB_iff _ _ _).1 h.1
      exact szT_ok (Pl.Ok.of_tab m1 m2 (by omega) (by omega) _)
    · rw [if_neg h]; exact Nat.zero_le _
  · rw [if_neg hm]; exact Nat.zero_le _
theorem var0 (w : World) : ∃ W, w.alloc (.cells #[.int .i64 0, .slice none 0 0] 27) = W ∧ VarC 27 W w.heap.size #[.int .i64 0, .slice none 0 0] ∧ Below w.heap.size w W :=
  ⟨_, rfl, VarC.new _ _ _, below_one _ _⟩
end Go.Proofs.Ytlpfifdocgljnac

/- Contracts of LazardCocycle, of the program and of the model. -/
namespace Go.Proofs.Ytlpfifdocgljnac
open Go.RowKit Go.WideShapes Go.ChangeShapes Go.ChangeAt

theorem lazP_len (m n : Int) : szT (lazP m n).2.1 ≤ 1048576 := by
  unfold lazP
  by_cases hm : isM m = true
  · rw [if_pos hm]
    by_cases hn : inB n 2 10 = true
    · rw [if_pos hn]
      obtain ⟨m1, m2⟩ := (isM_iff m).1 hm
      obtain ⟨n1, n2⟩ := (inB_iff _ _ _).1 hn
      exact szT_ok (Pl.Ok.of_tab m1 m2 (show 1 ≤ n.toNat by omega) (by omega) _)
    · rw [if_neg hn]; exact Nat.zero_le _
  · rw [if_neg hm]; exact Nat.zero_le _
set_option maxHeartbeats 8000000 in
set_option maxRecDepth 100000 in
theorem l07Cocycle_any (m : Int) (n : Nat) (w : World) (m1 : 2 ≤ m) (m2 : m ≤ 10000) (n1 : 2 ≤ n) (n2 : n ≤ 10) :
    Calls Try.prog 56 #[.int .i64 m, .int .i64 n] w fun e w' => ∃ v, e = .returned v ∧ OwnR w' w.heap.size w'.heap.size v (lazT m n) ∧ Below w.heap.size w w' := by
  have HZ := Lib.hid (fun W0 => l03Zero_any m n W0 (by omega))
  have hlz := fun W0 => l01Lazard_any (n : Int) W0 (by omega) (by omega)
  rw [show ((n : Int).toNat - 1) = n - 1 by omega] at hlz
  obtain ⟨D, hD⟩ : ∃ D, lz (n : Int) (n - 1) = D := ⟨_, rfl⟩
  have hDp : 0 < D := by rw [← hD]; exact lz_pos _ (by omega) (by omega)
  have hDb := (lz_bd (n := (n : Int)) (by omega) (n - 1) (by omega)).2
  rw [hD] at hlz hDb
  have HLZ := Lib.hid hlz
  have HF := Lib.hid (fun k (h0 : 0 < k) (h : k < n) => by have := layF_mid h0 h; rw [hD] at this; exact this)
  have hD0 : ¬ D = 0 := by omega
  have hD1 : ¬ D = -1 := by omega
  have hm0 : ¬ m = 0 := by omega
  have hm1 : ¬ m = -1 := by omega
  clear hlz hD
  go_enter Try.func56, Try.ntmps56
  go_wp2_with fail
  refine (HZ.out _).mono ?_
  rintro e w1 ⟨v, rfl, ho, hb1⟩
  rw [← lazQ_one m n] at ho
  obtain ⟨g, cv, rfl⟩ := ho.openv (by rw [Pl.tab_length]; omega)
  rw [Pl.tab_length] at ho ⊢
  go_wp2_with fail
  refine (HLZ.out _).mono ?_
  rintro e w2 ⟨rfl, hb2⟩
  have HO1 := Lib.hid ((ho.keep hb2).more hb2.size)
  have HB1 := Lib.hid (below_step hb1 hb2)
  clear ho hb1 hb2
  go_wp2
  go_loopw [7] (fun i wr => ∃ q : Nat, 1 ≤ q ∧ q ≤ n ∧ i = .int .i64 q ∧ OwnR wr w.heap.size wr.heap.size (.slice (some ⟨g, 0, none⟩) (n + 1) cv) (Pl.tab m n (lazQ n q)) ∧ Below w.heap.size w wr) (fun i _ => n + 2 - (intOf i).toNat)
  case atStart => exact ⟨1, Nat.le_refl _, by omega, rfl, HO1.out, HB1.out⟩
  case round =>
    clear HO1 HB1
    obtain ⟨q, hq1, hq, rfl, hown, hbel⟩ := hrel
    have HO := Lib.hid hown
    have HB := Lib.hid hbel
    clear hown hbel
    by_cases hlt : q < n
    · have hst := lazQ_step (m := m) (n := n) (k := q) hlt
      have hf := HF.out q (by omega) hlt
      rw [hf] at hst
      obtain ⟨q1, q2⟩ := binI_bd (n := (n : Int)) (k := (q : Int)) (by omega)
      have HC := Lib.hid (fun W0 => l01Binomial_any (n : Int) (q : Int) W0 (by omega) (by omega) (by omega) (by omega))
      obtain ⟨X, hX⟩ : ∃ X, binI (n : Int) (q : Int) = X := ⟨_, rfl⟩
      rw [hX] at HC q1 q2 hst
      have hq : 0 ≤ X.tdiv D ∧ X.tdiv D ≤ X := by
        rw [Int.tdiv_eq_ediv_of_nonneg q1]
        exact ⟨Int.ediv_nonneg q1 (by omega), Int.ediv_le_self _ q1⟩
      obtain ⟨Y, hY⟩ : ∃ Y, X.tdiv D = Y := ⟨_, rfl⟩
      rw [hY] at hq hst
      obtain ⟨Z, hZ⟩ : ∃ Z, Y % m = Z := ⟨_, rfl⟩
      have hZ2 : Y.tmod m = Z := by rw [Int.tmod_eq_emod_of_nonneg hq.1]; exact hZ
      rw [hZ] at hst
      obtain ⟨r, hr⟩ : ∃ r, n - q = r := ⟨_, rfl⟩
      have hr2 : (n : Int) - (q : Int) = (r : Int) := by omega
      obtain ⟨b2, c2, g1, g2, g3, g4, hcel⟩ := HO.out.numB q r (n - q + 1) (by rw [Pl.tab_length]; omega) (by rw [Pl.tab_row m n _ q (by omega), Ser.cut_length]) (by omega)
      rw [hr] at hst hcel
      obtain ⟨M, hM⟩ : ∃ M, r + 1 = M := ⟨_, rfl⟩
      obtain ⟨c4, -, -, -⟩ := hcel wr (Below.refl _ _)
      rw [hM] at c4
      have i0 : (0 : Int) ≤ (q : Int) := by omega
      have i1 : (q : Int) < (n : Int) := by omega
      have i2 : (q : Int) < (n : Int) + 1 := by omega
      have i3 : (r : Int) < (M : Int) := by omega
      have i4 : (0 : Int) ≤ (r : Int) := by omega
      have HCEL := Lib.hid hcel
      have HST := Lib.hid hst
      clear hst hcel hf hX hZ hr hM g1 g3 g4
      go_wp2_with fail
      refine (HC.out _).mono ?_
      rintro e w3 ⟨rfl, hb3⟩
      obtain ⟨c5, c6, c7, c8⟩ := HCEL.out w3 (hb3.mono (Nat.le_refl _))
      have h8 := c8 Z
      rw [HST.out] at h8
      have HO3 := Lib.hid (h8.more (show wr.heap.size ≤ (w3.setCell ⟨b2, r, none⟩ (.int .i64 Z)).heap.size by have := hb3.size; simp [World.setCell]; omega))
      have HB3 := Lib.hid ((below_step HB.out hb3).setCell (p := ⟨b2, r, none⟩) (by show w.heap.size ≤ b2; omega) (.int .i64 Z))
      clear h8 c8 c5 hb3
      go_wp2
      go_roundw
      case rel => exact ⟨q + 1, by omega, hlt, by go_num, HO3.out, HB3.out⟩
      case measure => simp only [intOf]; omega
    · obtain rfl : q = n := by omega
      have i1 : ¬ ((q : Int) < (q : Int)) := by omega
      have HSE := Lib.hid (lazQ_end m q)
      go_wp2
      go_ret
      exact ⟨_, rfl, by unfold lazT; rw [← HSE.out]; exact HO.out, HB.out⟩
end Go.Proofs.Ytlpfifdocgljnac

/- Contracts of the model's looks at cocycles. -/
namespace Go.Proofs.Ytlpfifdocgljnac
open Go.RowKit Go.WideShapes Go.ChangeShapes Go.ChangeAt

theorem layC_take {m : Int} {d k : Nat} {t : List (List Int)} (ok : Pl.Ok m d t) (h : k ≤ d) : (layC m t d).take k ++ [Pl.pc t k (d - k)] = (layC m t d).take (k + 1) := by
  rw [List.take_add_one]
  have h1 : (layC m t d)[k]? = some (Pl.pc t k (d - k)) := by
    have := layC_co ok d k h
    unfold Ser.co at this
    rw [List.getElem?_eq_getElem (by rw [layC_length]; omega)] at this ⊢
    rw [← this]; rfl
  rw [h1]; rfl
theorem cyc_end {m : Int} {t : List (List Int)} {d : Nat} (h : isP m t = true) (e : t.length = d + 1) (h2 : 2 ≤ d) (hl : ∀ i j, i + j < d → Pl.pc t i j = 0)
    (hs : ∀ i, i ≤ d → Pl.pc t i (d - i) = Pl.pc t (d - i) i ∧ ((i = 0 ∨ i = d) → Pl.pc t i (d - i) = 0)) (hc : ∀ a b, 0 < a → 0 < b → a + b < d → Cyc.cocN m t d a b % m = 0) : cycB m t = true := by
  rw [cyc_isC h e]
  unfold Cyc.isC
  rw [Cyc.lowZ_iff.2 (fun n i hn hi => hl i (n - i) (by omega)), Cyc.symZ_iff.2 hs, Cyc.cocZ_iff.2 hc, decide_eq_true h2]; rfl
theorem cyc_bad {m : Int} {t : List (List Int)} {d : Nat} (h : isP m t = true) (e : t.length = d + 1) (hx : ¬ ((∀ i j, i + j < d → Pl.pc t i j = 0) ∧
    (∀ i, i ≤ d → Pl.pc t i (d - i) = Pl.pc t (d - i) i ∧ ((i = 0 ∨ i = d) → Pl.pc t i (d - i) = 0)) ∧ (∀ a b, 0 < a → 0 < b → a + b < d → Cyc.cocN m t d a b % m = 0))) : cycB m t = false := by
  rw [cyc_isC h e, ← Bool.not_eq_true]
  unfold Cyc.isC
  intro hh
  simp only [Bool.and_eq_true] at hh
  obtain ⟨⟨⟨_, h1⟩, h2⟩, h3⟩ := hh
  refine hx ⟨fun i j hij => ?_, Cyc.symZ_iff.1 h2, Cyc.cocZ_iff.1 h3⟩
  have := Cyc.lowZ_iff.1 h1 (i + j) i hij (by omega)
  rwa [show i + j - i = j by omega] at this
set_option maxHeartbeats 16000000 in
set_option maxRecDepth 100000 in
theorem l07Is_any (m : Int) (A : Option Addr) (c : Nat) (t : List (List Int)) (w : World) (hz : szT t ≤ 1048576) (hr : RP w A t) :
    Calls Try.prog 24 #[.agg #[.int .i64 m, .slice A t.length c]] w fun e w' => e = .returned (.bool (cycB m t)) ∧ Below w.heap.size w w' := by
  obtain ⟨W, hW, b1, hwb⟩ := start1 27 w m A t.length c
  have B1 := Lib.hid b1
  have HB := Lib.hid hwb
  have HW := Lib.hid hW
  have HI := Lib.hid (fun W0 (h : Below W.heap.size W W0) => l03Is_any m A c t W0 (lenT hz) (rowT hz) ((hr.below hwb).below h))
  by_cases h0 : isP m t = true
  · obtain ⟨d, e1, ok⟩ := plOk_of h0
    have hd1 := ok.d1
    have hd2 := ok.d2
    have HG := Lib.hid (fun W0 => l03Degree_any m A t.length c d W0 e1 (by omega))
    rw [h0] at HI
    by_cases h1 : d = 1
    · obtain ⟨r1, -⟩ := cyc_low h0 e1 (.inl h1)
      rw [r1]
      subst h1
      obtain ⟨L, hL⟩ : ∃ L, t.length = L := ⟨_, rfl⟩
      rw [hL] at HG HI HW B1 ⊢
      clear b1 hwb hW hr h0 ok e1 hz hL r1
      go_enter Try.func24, Try.ntmps24
      go_wp2_with fail
      rw [HW.out]
      refine (HI.out _ (Below.refl _ _)).mono ?_
      rintro e w1 ⟨rfl, hb1⟩
      obtain ⟨x1, x2, x3⟩ := B1.out.keep hb1
      go_wp2_with fail
      refine (HG.out _).mono ?_
      rintro e w2 ⟨rfl, hb2⟩
      have HB3 := Lib.hid (below_step HB.out (below_step hb1 hb2))
      clear hb1 hb2 x1 x2 x3
      go_wp2
      go_ret
      exact ⟨rfl, HB3.out⟩
    · have j1 : ¬ (d : Int) < 2 := by omega
      obtain ⟨b, off, rfl⟩ := hr.some (by rw [ok.len]; omega)
      have HNUM := Lib.hid (rp_num_in (hr.below hwb) ok)
      have HBAD := Lib.hid (cyc_bad h0 e1)
      have HEND := Lib.hid (cyc_end h0 e1 (by omega))
      have HST := Lib.hid (fun k (h : k ≤ d) => layC_take (m := m) (k := k) ok h)
      have HPC := Lib.hid (fun i j => ok.pc i j)
      have HLC := Lib.hid (fun i (hi : i ≤ d) => layC_co ok d i hi)
      have m1 := ok.m1
      have m2 := ok.m2
      obtain ⟨R, hR⟩ : ∃ R, cycB m t = R := ⟨_, rfl⟩
      rw [hR] at HBAD HEND ⊢
      obtain ⟨L, hL⟩ : ∃ L, t.length = L := ⟨_, rfl⟩
      have HLd := Lib.hid (hL.symm.trans e1)
      rw [hL] at HG HI HW B1 ⊢
      clear b1 hwb hW hr h0 ok e1 hz hL hR
      go_enter Try.func24, Try.ntmps24
      go_wp2_with fail
      rw [HW.out]
      refine (HI.out _ (Below.refl _ _)).mono ?_
      rintro e w1 ⟨rfl, hb1⟩
      obtain ⟨x1, x2, x3⟩ := B1.out.keep hb1
      go_wp2_with fail
      refine (HG.out _).mono ?_
      rintro e w2 ⟨rfl, hb2⟩
      have hb12 := below_step hb1 hb2
      obtain ⟨y1, y2, y3⟩ := B1.out.keep hb12
      clear x1 x2 x3
      go_wp2_with fail
      refine (HG.out _).mono ?_
      rintro e w3 ⟨rfl, hb3⟩
      have HB3 := Lib.hid (below_step hb12 hb3)
      clear hb1 hb2 hb12 hb3 y1 y2 y3 HI HG
      go_wp2
      go_loopw [4, 5] (fun s4 s5 wr => ∃ k : Nat, k ≤ d + 1 ∧ s5 = .int .i64 k ∧ OwnI wr W.heap.size s4 ((layC m t d).take k) ∧ (∀ i j, i < k → i + j < d → Pl.pc t i j = 0) ∧ Below W.heap.size W wr) (fun _ s5 _ => d + 2 - (intOf s5).toNat)
      case atStart => exact ⟨0, Nat.zero_le _, rfl, (OwnI.empty w3).more HB3.out.size, fun i j hi => absurd hi (by omega), below_alloc _ HB3.out⟩
      case round =>
        clear HB3
        obtain ⟨k, hk, rfl, ho, hlow, hbel⟩ := hrel
        have HO := Lib.hid ho
        have HLOW := Lib.hid hlow
        have HBE := Lib.hid hbel
        clear ho hlow hbel
        have hLd := HLd.out
        by_cases hlt : k < d + 1
        · have i1 : (k : Int) ≤ (d : Int) := by omega
          go_wp2
          go_loopw [6] (fun s6 wq => ∃ j : Nat, k + j ≤ d ∧ s6 = .int .i64 j ∧ (∀ j', j' < j → Pl.pc t k j' = 0) ∧ wq = wr) (fun s6 _ => d + 2 - (intOf s6).toNat)
          case atStart => exact ⟨0, by omega, rfl, fun j' h => absurd h (by omega), rfl⟩
          case round =>
            obtain ⟨j, hj, rfl, hz, rfl⟩ := hrel
            have HZ := Lib.hid hz
            clear hz
            by_cases hlt2 : k + j < d
            · have i2 : (k : Int) + (j : Int) < (d : Int) := by omega
              obtain ⟨b1, off1, c1, N, hN, z1, z2⟩ := HNUM.out k j wr (by omega) HBE.out
              obtain ⟨x1, x2, x3⟩ := B1.out.keep HBE.out
              have i3 : (j : Int) < (N : Int) := by omega
              have i4 : (k : Int) < (L : Int) := by omega
              have i5 : (0 : Int) ≤ (j : Int) := by omega
              have i6 : (0 : Int) ≤ (k : Int) := by omega
              obtain ⟨X, hX⟩ : ∃ X, Pl.pc t k j = X := ⟨_, rfl⟩
              rw [hX] at z2
              have HX := Lib.hid hX
              clear hX hN
              by_cases hx : X = 0
              · subst hx
                go_wp2
                go_roundw
                case rel => exact ⟨j + 1, by omega, by go_num, fun j' h => by
                  by_cases e : j' = j
                  · rw [e]; exact HX.out
                  · exact HZ.out j' (by omega), by first | rfl | trivial⟩
                case measure => simp only [intOf]; omega
              · obtain ⟨k1, k2⟩ := ne_facts hx
                have HR0 : Hid (R = false) := Lib.hid (HBAD.out (fun h => hx (by rw [← HX.out]; exact h.1 k j hlt2)))
                go_wp2
                go_ret
                exact ⟨by rw [HR0.out]; rfl, below_step HB.out HBE.out⟩
            · have i2 : ¬ (k : Int) + (j : Int) < (d : Int) := by omega
              obtain ⟨b1, off1, c1, N, hN, z1, z2⟩ := HNUM.out k (d - k) wr (by omega) HBE.out
              obtain ⟨x1, x2, x3⟩ := B1.out.keep HBE.out
              have i3 : (d : Int) - (k : Int) < (N : Int) := by omega
              have i4 : (k : Int) < (L : Int) := by omega
              have i5 : (0 : Int) ≤ (d : Int) - (k : Int) := by omega
              have i6 : (0 : Int) ≤ (k : Int) := by omega
              have i7 : ((d : Int) - (k : Int)).toNat = d - k := by omega
              have hst := HST.out k (by omega)
              obtain ⟨X, hX⟩ : ∃ X, Pl.pc t k (d - k) = X := ⟨_, rfl⟩
              rw [hX] at z2 hst
              have HS := Lib.hid hst
              have hlen : ((layC m t d).take k).length ≤ 11 := by rw [List.length_take]; omega
              have HLE := Lib.hid hlen
              have HSZ : Hid (W.heap.size ≤ wr.heap.size) := Lib.hid HBE.out.size
              have HLN : Hid (∀ i j, i < k + 1 → i + j < d → Pl.pc t i j = 0) := Lib.hid (fun i j' hi hij => by
                by_cases e : i = k
                · subst e; exact HZ.out j' (by omega)
                · exact HLOW.out i j' (by omega) hij)
              clear hX hN hst hlen
              go_wp2_with (at_builtin; refine wp_push _ _ _ (by rfl) (by rfl) Try.underlying35 W.heap.size _ _ (by rfl) HO.out X (by rfl) (by have := HLE.out; omega) HSZ.out ?_; intro v' w4 ho4 hb4)
              rw [HS.out] at ho4
              have hB4 := HBE.out.trans hb4
              go_wp2
              go_roundw
              case rel => first
                | exact ⟨k + 1, by omega, by go_num, ho4, HLN.out, hB4⟩
                | exact ⟨_, ⟨k + 1, by omega, by go_num, ho4, HLN.out, hB4⟩, rfl⟩
                | exact ⟨_, _, ⟨k + 1, by omega, by go_num, ho4, HLN.out, hB4⟩, rfl, rfl⟩
                | exact ⟨_, _, _, ⟨k + 1, by omega, by go_num, ho4, HLN.out, hB4⟩, rfl, rfl, rfl⟩
              case measure => simp only [intOf]; omega
        · obtain rfl : k = d + 1 := by omega
          obtain ⟨w5, hw5⟩ : ∃ x, x = wr := ⟨_, rfl⟩
          subst hw5
          have i1 : ¬ ((d : Int) + 1 ≤ (d : Int)) := by omega
          have hall := List.take_of_length_le (i := d + 1) (l := layC m t d) (by rw [layC_length]; exact Nat.le_refl _)
          have ho := HO.out
          rw [hall] at ho
          have hlc := layC_length m t d
          obtain ⟨g4, c4, rfl⟩ := ho.openv (by intro h; rw [h] at hlc; simp at hlc)
          rw [hlc] at ho ⊢
          have HO4 := Lib.hid ho.cells
          have HLW : Hid (∀ i j, i + j < d → Pl.pc t i j = 0) := Lib.hid (fun i j hij => HLOW.out i j (by omega) hij)
          have HCE := Lib.hid (fun i (hi : i ≤ d) (wq : World) (hbq : Below w5.heap.size w5 wq) => by
            have h := (ho.keep hbq).cells.2.2.1 i (by rw [hlc]; omega)
            have e := HLC.out i hi
            unfold Ser.co at e
            rw [e] at h
            exact h)
          clear hall ho hlc HO HLOW HO4 HST
          go_wp2
          go_loopw [7] (fun s7 wq => ∃ q : Nat, q ≤ d + 1 ∧ s7 = .int .i64 q ∧ (∀ i, i < q → Pl.pc t i (d - i) = Pl.pc t (d - i) i ∧ ((i = 0 ∨ i = d) → Pl.pc t i (d - i) = 0)) ∧ Below w5.heap.size w5 wq) (fun s7 _ => d + 2 - (intOf s7).toNat)
          case atStart => exact ⟨0, Nat.zero_le _, rfl, fun i h => absurd h (by omega), Below.refl _ _⟩
          case round =>
            obtain ⟨q, hq, rfl, hs, hbq⟩ := hrel
            have HQ := Lib.hid hbq
            have HSY := Lib.hid hs
            clear hs hbq
            by_cases hlt : q < d + 1
            · have i2 : (q : Int) ≤ (d : Int) := by omega
              have c1 := HCE.out q (by omega) _ HQ.out
              have c2 := HCE.out (d - q) (by omega) _ HQ.out
              rw [show d - (d - q) = q by omega] at c2
              have i3 : ((d : Int) - (q : Int)).toNat = d - q := by omega
              have i4 : (0 : Int) ≤ (d : Int) - (q : Int) := by omega
              have i5 : (d : Int) - (q : Int) < (d : Int) + 1 := by omega
              have i6 : (0 : Int) ≤ (q : Int) := by omega
              have i7 : (q : Int) < (d : Int) + 1 := by omega
              obtain ⟨X, hX⟩ : ∃ X, Pl.pc t q (d - q) = X := ⟨_, rfl⟩
              obtain ⟨Y, hY⟩ : ∃ Y, Pl.pc t (d - q) q = Y := ⟨_, rfl⟩
              rw [hX] at c1
              rw [hY] at c2
              have HX := Lib.hid hX
              have HY := Lib.hid hY
              clear hX hY
              have i8 : IntKind.i64.wrap ((d : Int) - (q : Int)) = (d : Int) - (q : Int) := by rw [IntKind.wrap_i64]; omega
              by_cases hxy : X = Y
              · subst hxy
                by_cases hq0 : q = 0
                · subst hq0
                  simp only [Nat.sub_zero] at c1 c2
                  have i9 : (d : Int) < (d : Int) + 1 := by omega
                  have i10 : (0 : Int) < (d : Int) + 1 := by omega
                  clear i3 i4 i5 i6 i7 i8
                  by_cases hx : X = 0
                  · subst hx
                    have HN := Lib.hid (fun i (h : i < 0 + 1) => (by
                      obtain rfl : i = 0 := by omega
                      rw [HX.out, HY.out]; exact ⟨rfl, fun _ => rfl⟩ : Pl.pc t i (d - i) = Pl.pc t (d - i) i ∧ ((i = 0 ∨ i = d) → Pl.pc t i (d - i) = 0)))
                    go_wp2
                    go_quiet (fail)
                    go_wp2
                    go_roundw
                    case rel => first
                      | exact ⟨0 + 1, by omega, by first | rfl | go_num, HN.out, below_drewN HQ.out _⟩
                      | exact ⟨_, ⟨0 + 1, by omega, by first | rfl | go_num, HN.out, below_drewN HQ.out _⟩, rfl⟩
                      | exact ⟨_, _, ⟨0 + 1, by omega, by first | rfl | go_num, HN.out, below_drewN HQ.out _⟩, rfl, rfl⟩
                      | exact ⟨_, _, _, ⟨0 + 1, by omega, by first | rfl | go_num, HN.out, below_drewN HQ.out _⟩, rfl, rfl, rfl⟩
                    case measure => simp only [intOf]; omega
                  · obtain ⟨k1, k2⟩ := ne_facts hx
                    have HR0 : Hid (R = false) := Lib.hid (HBAD.out (fun h => hx (by rw [← HX.out]; exact (h.2.1 0 (by omega)).2 (.inl rfl))))
                    go_wp2
                    go_quiet (fail)
                    go_wp2
                    go_ret
                    exact ⟨by rw [HR0.out]; rfl, below_drewN (below_step HB.out (below_step HBE.out HQ.out)) _⟩
                · by_cases hqd : q = d
                  · subst hqd
                    simp only [Nat.sub_self] at c1 c2
                    have i9 : (q : Int) < (q : Int) + 1 := by omega
                    have i10 : (0 : Int) < (q : Int) + 1 := by omega
                    have i11 : ¬ (q : Int) = 0 := by omega
                    obtain ⟨k3, k4⟩ := ne_facts i11
                    clear i3 i4 i5 i7 i8
                    by_cases hx : X = 0
                    · subst hx
                      have HN := Lib.hid (fun i (h : i < q + 1) => (by
                        by_cases e : i = q
                        · rw [e, HX.out, HY.out]; exact ⟨rfl, fun _ => rfl⟩
                        · exact HSY.out i (by omega) : Pl.pc t i (q - i) = Pl.pc t (q - i) i ∧ ((i = 0 ∨ i = q) → Pl.pc t i (q - i) = 0)))
                      go_wp2
                      go_quiet (fail)
                      go_wp2
                      go_roundw
                      case rel => first
                        | exact ⟨q + 1, by omega, by first | rfl | go_num, HN.out, below_drewN HQ.out _⟩
                        | exact ⟨_, ⟨q + 1, by omega, by first | rfl | go_num, HN.out, below_drewN HQ.out _⟩, rfl⟩
                        | exact ⟨_, _, ⟨q + 1, by omega, by first | rfl | go_num, HN.out, below_drewN HQ.out _⟩, rfl, rfl⟩
                        | exact ⟨_, _, _, ⟨q + 1, by omega, by first | rfl | go_num, HN.out, below_drewN HQ.out _⟩, rfl, rfl, rfl⟩
                      case measure => simp only [intOf]; omega
                    · obtain ⟨k1, k2⟩ := ne_facts hx
                      have HR0 : Hid (R = false) := Lib.hid (HBAD.out (fun h => hx (by rw [← HX.out]; exact (h.2.1 q (by omega)).2 (.inr rfl))))
                      go_wp2
                      go_quiet (fail)
                      go_wp2
                      go_ret
                      exact ⟨by rw [HR0.out]; rfl, below_drewN (below_step HB.out (below_step HBE.out HQ.out)) _⟩
                  · have i11 : ¬ (q : Int) = 0 := by omega
                    obtain ⟨k3, k4⟩ := ne_facts i11
                    have i12 : ¬ (q : Int) = (d : Int) := by omega
                    obtain ⟨k5, k6⟩ : ((q : Int) == (d : Int)) = false ∧ ((q : Int) != (d : Int)) = true := ⟨by simpa using i12, by simpa using i12⟩
                    have HN := Lib.hid (fun i (h : i < q + 1) => (by
                      by_cases e : i = q
                      · rw [e, HX.out, HY.out]; exact ⟨rfl, fun h => by omega⟩
                      · exact HSY.out i (by omega) : Pl.pc t i (d - i) = Pl.pc t (d - i) i ∧ ((i = 0 ∨ i = d) → Pl.pc t i (d - i) = 0)))
                    go_wp2
                    go_quiet (fail)
                    go_wp2
                    go_roundw
                    case rel => first
                      | exact ⟨q + 1, by omega, by first | rfl | go_num, HN.out, below_drewN HQ.out _⟩
                      | exact ⟨_, ⟨q + 1, by omega, by first | rfl | go_num, HN.out, below_drewN HQ.out _⟩, rfl⟩
                      | exact ⟨_, _, ⟨q + 1, by omega, by first | rfl | go_num, HN.out, below_drewN HQ.out _⟩, rfl, rfl⟩
                      | exact ⟨_, _, _, ⟨q + 1, by omega, by first | rfl | go_num, HN.out, below_drewN HQ.out _⟩, rfl, rfl, rfl⟩
                    case measure => simp only [intOf]; omega
              · have HR0 : Hid (R = false) := Lib.hid (HBAD.out (fun h => hxy (by rw [← HX.out, ← HY.out]; exact (h.2.1 q (by omega)).1)))
                have k1 : (X == Y) = false := by simpa using hxy
                have k2 : (X != Y) = true := by simpa using hxy
                go_wp2
                go_quiet (fail)
                go_wp2
                go_ret
                exact ⟨by rw [HR0.out]; rfl, below_drewN (below_step HB.out (below_step HBE.out HQ.out)) _⟩
            · obtain rfl : q = d + 1 := by omega
              have i2 : ¬ ((d : Int) + 1 ≤ (d : Int)) := by omega
              have HSS := Lib.hid (fun i (hi : i ≤ d) => HSY.out i (by omega))
              have hm0 : ¬ m = 0 := by omega
              have hm1 : ¬ m = -1 := by omega
              clear HSY
              go_wp2
              go_loopw [8] (fun s8 wq => ∃ a : Nat, 1 ≤ a ∧ a ≤ d ∧ s8 = .int .i64 a ∧ (∀ a' b', 0 < a' → a' < a → 0 < b' → a' + b' < d → Cyc.cocN m t d a' b' % m = 0) ∧ Below w5.heap.size w5 wq) (fun s8 _ => d + 2 - (intOf s8).toNat)
              case atStart => exact ⟨1, Nat.le_refl _, by omega, rfl, fun a' b' h h' => absurd h' (by omega), HQ.out⟩
              case round =>
                clear HQ
                obtain ⟨a, ha1, had, rfl, hca, hbq⟩ := hrel
                have HCA := Lib.hid hca
                have HQA := Lib.hid hbq
                clear hca hbq
                by_cases hlta : a < d
                · have i3 : (a : Int) < (d : Int) := by omega
                  go_wp2
                  go_loopw [9] (fun s9 wq => ∃ b : Nat, 1 ≤ b ∧ a + b ≤ d ∧ s9 = .int .i64 b ∧ (∀ b', 0 < b' → b' < b → Cyc.cocN m t d a b' % m = 0) ∧ Below w5.heap.size w5 wq) (fun s9 _ => d + 2 - (intOf s9).toNat)
                  case atStart => exact ⟨1, Nat.le_refl _, by omega, rfl, fun b' h h' => absurd h' (by omega), HQA.out⟩
                  case round =>
                    clear HQA
                    obtain ⟨q, hq1, hqd, rfl, hcb, hbq⟩ := hrel
                    have HCB := Lib.hid hcb
                    have HQB := Lib.hid hbq
                    clear hcb hbq
                    by_cases hltb : a + q < d
                    · obtain ⟨e, he⟩ : ∃ e, a + q = e := ⟨_, rfl⟩
                      obtain ⟨f, hf⟩ : ∃ f, d - a = f := ⟨_, rfl⟩
                      obtain ⟨k3, hk3⟩ : ∃ k, d - a - q = k := ⟨_, rfl⟩
                      have j1 : (a : Int) + (q : Int) = (e : Int) := by omega
                      have j2 : (d : Int) - (a : Int) - (q : Int) = (k3 : Int) := by omega
                      have j3 : (q : Int) + (k3 : Int) = (f : Int) := by omega
                      have j4 : (e : Int) < (d : Int) := by omega
                      have hcn : Cyc.cocN m t d a q = binI (e : Int) (a : Int) % m * Pl.pc t e (d - e) - binI (f : Int) (q : Int) % m * Pl.pc t a (d - a) := by
                        unfold Cyc.cocN
                        rw [he, j1, show (d : Int) - (a : Int) = (f : Int) by omega]
                      have hB1 := binI_bd (n := (e : Int)) (k := (a : Int)) (by omega)
                      have hB2 := binI_bd (n := (f : Int)) (k := (q : Int)) (by omega)
                      have HC1 := Lib.hid (fun W0 => l01Binomial_any (e : Int) (a : Int) W0 (by omega) (by omega) (by omega) (by omega))
                      have HC2 := Lib.hid (fun W0 => l01Binomial_any (f : Int) (q : Int) W0 (by omega) (by omega) (by omega) (by omega))
                      obtain ⟨X1, hX1⟩ : ∃ X, binI (e : Int) (a : Int) = X := ⟨_, rfl⟩
                      obtain ⟨X2, hX2⟩ : ∃ X, binI (f : Int) (q : Int) = X := ⟨_, rfl⟩
                      rw [hX1] at HC1 hB1
                      rw [hX2] at HC2 hB2
                      rw [hX1, hX2] at hcn
                      have p1 := HPC.out e (d - e)
                      have p2 := HPC.out a (d - a)
                      have c1 := fun W0 h => HCE.out e (by omega) W0 h
                      have c2 := fun W0 h => HCE.out a (by omega) W0 h
                      obtain ⟨P1, hP1⟩ : ∃ X, Pl.pc t e (d - e) = X := ⟨_, rfl⟩
                      obtain ⟨P2, hP2⟩ : ∃ X, Pl.pc t a (d - a) = X := ⟨_, rfl⟩
                      rw [hP1] at c1 p1 hcn
                      rw [hP2] at c2 p2 hcn
                      have z1 : X1.tmod m = X1 % m := Int.tmod_eq_emod_of_nonneg hB1.1
                      have z2 : X2.tmod m = X2 % m := Int.tmod_eq_emod_of_nonneg hB2.1
                      have r1 : 0 ≤ X1 % m ∧ X1 % m < m := ⟨Int.emod_nonneg _ hm0, Int.emod_lt_of_pos _ (by omega)⟩
                      have r2 : 0 ≤ X2 % m ∧ X2 % m < m := ⟨Int.emod_nonneg _ hm0, Int.emod_lt_of_pos _ (by omega)⟩
                      obtain ⟨Z1, hZ1⟩ : ∃ Z, X1 % m = Z := ⟨_, rfl⟩
                      obtain ⟨Z2, hZ2⟩ : ∃ Z, X2 % m = Z := ⟨_, rfl⟩
                      rw [hZ1] at z1 r1 hcn
                      rw [hZ2] at z2 r2 hcn
                      have u1 : 0 ≤ Z1 * P1 ∧ Z1 * P1 ≤ 100000000 := ⟨Int.mul_nonneg r1.1 p1.1, by have := Int.mul_le_mul (show Z1 ≤ 10000 by omega) (show P1 ≤ 10000 by omega) p1.1 (by omega); omega⟩
                      have u2' : 0 ≤ Z2 * P2 ∧ Z2 * P2 ≤ 100000000 := ⟨Int.mul_nonneg r2.1 p2.1, by have := Int.mul_le_mul (show Z2 ≤ 10000 by omega) (show P2 ≤ 10000 by omega) p2.1 (by omega); omega⟩
                      obtain ⟨U1, hU1⟩ : ∃ U, Z1 * P1 = U := ⟨_, rfl⟩
                      obtain ⟨U2, hU2⟩ : ∃ U, Z2 * P2 = U := ⟨_, rfl⟩
                      rw [hU1] at u1 hcn
                      rw [hU2] at u2' hcn
                      obtain ⟨V, hV⟩ : ∃ V, (U1 - U2).tmod m = V := ⟨_, rfl⟩
                      have n1 : IntKind.i64.wrap U1 = U1 := by rw [IntKind.wrap_i64]; omega
                      have n2 : IntKind.i64.wrap U2 = U2 := by rw [IntKind.wrap_i64]; omega
                      have n3 : IntKind.i64.wrap (U1 - U2) = U1 - U2 := by rw [IntKind.wrap_i64]; omega
                      have n4 : IntKind.i64.wrap (e : Int) = (e : Int) := by rw [IntKind.wrap_i64]; omega
                      have n5 : IntKind.i64.wrap (f : Int) = (f : Int) := by rw [IntKind.wrap_i64]; omega
                      have n6 : IntKind.i64.wrap ((a : Int) + (q : Int)) = (e : Int) := by rw [j1, n4]
                      have n7 : IntKind.i64.wrap ((q : Int) + (k3 : Int)) = (f : Int) := by rw [j3, n5]
                      have hV0 : V = 0 ↔ Cyc.cocN m t d a q % m = 0 := by
                        rw [hcn, ← hV]
                        exact ⟨fun h => Int.emod_eq_zero_of_dvd (Int.dvd_of_tmod_eq_zero h), fun h => Int.tmod_eq_zero_of_dvd (Int.dvd_of_emod_eq_zero h)⟩
                      have HV0 := Lib.hid hV0
                      have j5 : (0 : Int) ≤ (e : Int) := by omega
                      have j6 : (0 : Int) ≤ (a : Int) := by omega
                      have j7 : (e : Int) < (d : Int) + 1 := by omega
                      have j8 : (a : Int) < (d : Int) + 1 := by omega
                      have HBW := Lib.hid (below_step HBE.out HQB.out)
                      have HF := Lib.hid (fun w' (h : Below wr.heap.size wr w') => (⟨⟨(B1.out.keep (below_step HBW.out h)).1, c1 _ (below_step HQB.out h)⟩, c2 _ (below_step HQB.out h)⟩ :
                        (w'.cell? ⟨w.heap.size, 0, none⟩ = some (.int .i64 m) ∧ w'.cell? ⟨g4, e, none⟩ = some (.int .i64 P1)) ∧ w'.cell? ⟨g4, a, none⟩ = some (.int .i64 P2)))
                      have X0 := Lib.hid (keepW HF.out (below_drew0 wr))
                      have HW0 := Lib.hid (below_drew0 wr)
                      clear c1 c2 hcn hX1 hX2 hP1 hP2 hZ1 hZ2 hV0 hB1 hB2 he hf hk3 HNUM HCE HLC
                      go_upto_region 26 with fail
                      go_region_held3 (fun w' => ((w'.cell? ⟨w.heap.size, 0, none⟩ = some (.int .i64 m) ∧ w'.cell? ⟨g4, e, none⟩ = some (.int .i64 P1)) ∧ w'.cell? ⟨g4, a, none⟩ = some (.int .i64 P2)) ∧ Below wr.heap.size wr w') (first | exact X0.out | exact keepS HF.out (Nat.le_refl _) (by assumption) hb8 | exact keepS HF.out (Nat.le_refl _) (by assumption) hb7) (first
                        | (go_at_call 51; with_reducible refine Calls.mono (HC1.out _) ?_; rintro e w7 ⟨rfl, hb7⟩; have hq := below_step HW0.out hb7)
                        | (go_at_call 51; with_reducible refine Calls.mono (HC2.out _) ?_; rintro e w8 ⟨rfl, hb8⟩; have hq := below_step hq hb8))
                      all_goals
                        have HQ9 := Lib.hid (below_step HQB.out hq)
                        clear hb7 hb8 hq
                        by_cases hv : V = 0
                        · have HN := Lib.hid (fun b' (h0 : 0 < b') (h : b' < q + 1) => (by
                            by_cases e : b' = q
                            · subst e; exact HV0.out.1 hv
                            · exact HCB.out b' h0 (by omega) : Cyc.cocN m t d a b' % m = 0))
                          subst hv
                          go_wp2
                          go_roundw
                          case rel => first
                            | exact ⟨q + 1, by omega, by omega, by go_num, HN.out, HQ9.out⟩
                            | exact ⟨_, ⟨q + 1, by omega, by omega, by go_num, HN.out, HQ9.out⟩, rfl⟩
                            | exact ⟨_, _, ⟨q + 1, by omega, by omega, by go_num, HN.out, HQ9.out⟩, rfl, rfl⟩
                            | exact ⟨_, _, _, ⟨q + 1, by omega, by omega, by go_num, HN.out, HQ9.out⟩, rfl, rfl, rfl⟩
                          case measure => simp only [intOf]; omega
                        · obtain ⟨k1, k2⟩ := ne_facts hv
                          have HR0 : Hid (R = false) := Lib.hid (HBAD.out (fun h => hv (HV0.out.2 (h.2.2 a q (by omega) (by omega) hltb))))
                          go_wp2
                          go_ret
                          exact ⟨by rw [HR0.out]; rfl, below_step HB.out (below_step HBE.out HQ9.out)⟩
                    · have i4 : ¬ (a : Int) + (q : Int) < (d : Int) := by omega
                      have HN := Lib.hid (fun a' b' (h0 : 0 < a') (h : a' < a + 1) (hb : 0 < b') (hab : a' + b' < d) => (by
                        by_cases e : a' = a
                        · subst e; exact HCB.out b' hb (by omega)
                        · exact HCA.out a' b' h0 (by omega) hb hab : Cyc.cocN m t d a' b' % m = 0))
                      go_wp2
                      go_roundw
                      case rel => first
                        | exact ⟨a + 1, by omega, by omega, by go_num, HN.out, HQB.out⟩
                        | exact ⟨_, ⟨a + 1, by omega, by omega, by go_num, HN.out, HQB.out⟩, rfl⟩
                        | exact ⟨_, _, ⟨a + 1, by omega, by omega, by go_num, HN.out, HQB.out⟩, rfl, rfl⟩
                        | exact ⟨_, _, _, ⟨a + 1, by omega, by omega, by go_num, HN.out, HQB.out⟩, rfl, rfl, rfl⟩
                      case measure => simp only [intOf]; omega
                · obtain rfl : a = d := by omega
                  have i3 : ¬ (a : Int) < (a : Int) := by omega
                  have HR1 : Hid (R = true) := Lib.hid (HEND.out HLW.out HSS.out (fun a' b' h0 h1 h2 => HCA.out a' b' h0 (by omega) h1 h2))
                  go_wp2
                  go_ret
                  exact ⟨by rw [HR1.out]; rfl, below_step HB.out (below_step HBE.out HQA.out)⟩
  · have h0' : isP m t = false := by simpa using h0
    obtain ⟨r1, -⟩ := cyc_no h0'
    rw [r1]
    rw [h0'] at HI
    obtain ⟨L, hL⟩ : ∃ L, t.length = L := ⟨_, rfl⟩
    rw [hL] at HI HW B1 ⊢
    clear b1 hwb hW hr h0 h0' hz hL r1
    go_enter Try.func24, Try.ntmps24
    go_wp2_with fail
    rw [HW.out]
    refine (HI.out _ (Below.refl _ _)).mono ?_
    rintro e w1 ⟨rfl, hb1⟩
    go_wp2
    go_ret
    exact ⟨rfl, below_step HB.out hb1⟩
end Go.Proofs.Ytlpfifdocgljnac

/- Contracts of the model's IsCocycle and CocycleFactor. -/
namespace Go.Proofs.Ytlpfifdocgljnac
open Go.RowKit Go.WideShapes Go.ChangeShapes Go.ChangeAt

theorem fits_eq {m q F P : Int} (m1 : 2 ≤ m) (q0 : 0 ≤ q) (p0 : 0 ≤ P) (p1 : P < m) : (q * (F % m)).tmod m = P ↔ (q * F - P) % m = 0 := by
  have h0 : 0 ≤ q * (F % m) := Int.mul_nonneg q0 (Int.emod_nonneg _ (by omega))
  rw [Int.tmod_eq_emod_of_nonneg h0, Int.mul_emod, Int.emod_emod, ← Int.mul_emod, ← Int.emod_eq_emod_iff_emod_sub_eq_zero, Int.emod_eq_of_lt p0 p1]
set_option maxHeartbeats 16000000 in
set_option maxRecDepth 100000 in
theorem l07Factor_any (m : Int) (d : Nat) (A : Option Addr) (c : Nat) (t : List (List Int)) (w : World) (d1 : 2 ≤ d) (ok : Pl.Ok m d t) (hr : RP w A t) (hso : (Cyc.facO m (layC m t d) d).isSome = true) :
    Calls Try.prog 28 #[.int .i64 m, .slice A t.length c] w fun e w' => e = .returned (.int .i64 (Cyc.facM m (layC m t d) d)) ∧ Below w.heap.size w w' := by
  have m1 := ok.m1
  have m2 := ok.m2
  have hd2 := ok.d2
  have HZ := Lib.hid (fun W0 => l07Cocycle_any m d W0 m1 m2 d1 hd2)
  have okl : Pl.Ok m d (lazT m d) := Pl.Ok.of_tab m1 m2 (by omega) hd2 _
  obtain ⟨b, off, rfl⟩ := hr.some (by rw [ok.len]; omega)
  have HNUM := Lib.hid (rp_num_in hr ok)
  have HPC := Lib.hid (fun i j => ok.pc i j)
  have HLC := Lib.hid (fun i (hi : i ≤ d) => layC_co ok d i hi)
  have HFF := Lib.hid (fun q (h0 : 0 ≤ q) (hf : Cyc.Fits m (layC m t d) d q) hn => Cyc.facM_first m1 m2 h0 hf hn)
  have HFN := Lib.hid (show (∀ c' : Int, 0 ≤ c' → c' < m → ¬ Cyc.Fits m (layC m t d) d c') → False from fun hn => by
    obtain ⟨X, hX⟩ := Option.isSome_iff_exists.1 hso
    obtain ⟨b1, b2, b3, -⟩ := Cyc.facO_some m1 m2 hX
    exact hn _ b1 b2 b3)
  obtain ⟨R, hR⟩ : ∃ R, Cyc.facM m (layC m t d) d = R := ⟨_, rfl⟩
  rw [hR] at HFF ⊢
  have HFT := Lib.hid (show ∀ q : Int, Cyc.Fits m (layC m t d) d q ↔ ∀ i, i ≤ d → (q * layF d i - Pl.pc t i (d - i)) % m = 0 from fun q => by
    unfold Cyc.Fits
    exact ⟨fun h i hi => by have := h i hi; rwa [layC_co ok d i hi] at this, fun h i hi => by rw [layC_co ok d i hi]; exact h i hi⟩)
  obtain ⟨F, hF⟩ : ∃ F, Cyc.Fits m (layC m t d) d = F := ⟨_, rfl⟩
  rw [hF] at HFF HFN HFT
  have hlt := ok.len
  obtain ⟨L, hL⟩ : ∃ L, t.length = L := ⟨_, rfl⟩
  have HLd := Lib.hid (hL.symm.trans hlt)
  rw [hL] at hlt ⊢
  subst hlt
  obtain ⟨N, hN⟩ : ∃ N : Nat, (N : Int) = m := ⟨m.toNat, by omega⟩
  clear hr hR hF hL ok hso
  go_enter Try.func28, Try.ntmps28
  go_wp2_with fail
  refine (HZ.out _).mono ?_
  rintro e w1 ⟨v, rfl, ho, hb1⟩
  have hll : (lazT m d).length = d + 1 := okl.len
  obtain ⟨g, cv, rfl⟩ := ho.openv (by rw [hll]; omega)
  rw [hll] at ho ⊢
  have HNL := Lib.hid (rp_num_in ho.rp okl)
  have HPL := Lib.hid (fun i (hi : i ≤ d) => (by
    unfold lazT
    rw [Pl.pc_tab (by omega)]
    unfold ofLay
    rw [if_neg (by omega)] : Pl.pc (lazT m d) i (d - i) = layF d i % m))
  have HB1 := Lib.hid hb1
  have hm0 : ¬ m = 0 := by omega
  have hm1 : ¬ m = -1 := by omega
  clear ho hb1 okl hll HZ
  go_wp2
  go_loopw [7] (fun s7 wr => ∃ q : Nat, (q : Int) ≤ m ∧ s7 = .int .i64 q ∧ (∀ c' : Int, 0 ≤ c' → c' < q → ¬ F c') ∧ Below w1.heap.size w1 wr) (fun s7 _ => N + 2 - (intOf s7).toNat)
  case atStart => exact ⟨0, by omega, rfl, fun c' h h' => absurd h' (by omega), Below.refl _ _⟩
  case round =>
    obtain ⟨q, hq, rfl, hno, hbel⟩ := hrel
    have HNO := Lib.hid hno
    have HB := Lib.hid hbel
    clear hno hbel
    by_cases hltq : (q : Int) < m
    · obtain ⟨w5, hw5⟩ : ∃ x, x = wr := ⟨_, rfl⟩
      subst hw5
      go_wp2
      go_loopw [8, 9] (fun s8 s9 wq => ∃ (i : Nat) (bb : Bool), i ≤ d + 1 ∧ s9 = .int .i64 i ∧ s8 = .bool bb ∧ (bb = true → ∀ i', i' < i → ((q : Int) * layF d i' - Pl.pc t i' (d - i')) % m = 0) ∧ (bb = false → ¬ F (q : Int)) ∧ Below w1.heap.size w1 wq) (fun _ s9 _ => d + 2 - (intOf s9).toNat)
      case atStart => exact ⟨0, true, by omega, rfl, rfl, fun _ i' h => absurd h (by omega), fun h => (by cases h), HB.out⟩
      case round =>
        clear HB
        obtain ⟨i, bb, hi, rfl, rfl, hy, hn, hbq⟩ := hrel
        have HY := Lib.hid hy
        have HN := Lib.hid hn
        have HQ := Lib.hid hbq
        clear hy hn hbq
        cases bb with
        | true =>
          by_cases hlti : i < d + 1
          · have i1 : (i : Int) ≤ (d : Int) := by omega
            obtain ⟨b1, off1, c1, n1, hn1, z1, z2⟩ := HNUM.out i (d - i) wr (by omega) (below_step HB1.out HQ.out)
            obtain ⟨b2, off2, c2, n2, hn2, z3, z4⟩ := HNL.out i (d - i) wr (by omega) HQ.out
            rw [HPL.out i (by omega)] at z4
            simp only [Nat.zero_add] at z3
            have p1 := HPC.out i (d - i)
            have i2 : (d : Int) - (i : Int) < (n1 : Int) := by omega
            have i3 : (d : Int) - (i : Int) < (n2 : Int) := by omega
            have i4 : (0 : Int) ≤ (d : Int) - (i : Int) := by omega
            have i5 : ((d : Int) - (i : Int)).toNat = d - i := by omega
            have i6 : (0 : Int) ≤ (i : Int) := by omega
            have i7 : (i : Int) < (d : Int) + 1 := by omega
            have i8 : IntKind.i64.wrap ((d : Int) - (i : Int)) = (d : Int) - (i : Int) := by rw [IntKind.wrap_i64]; omega
            have heq := fits_eq (F := layF d i) m1 (show (0 : Int) ≤ (q : Int) by omega) p1.1 p1.2
            have r1 : 0 ≤ layF d i % m ∧ layF d i % m < m := ⟨Int.emod_nonneg _ hm0, Int.emod_lt_of_pos _ (by omega)⟩
            obtain ⟨P, hP⟩ : ∃ P, Pl.pc t i (d - i) = P := ⟨_, rfl⟩
            obtain ⟨C, hC⟩ : ∃ C, layF d i % m = C := ⟨_, rfl⟩
            have hst : ((q : Int) * C).tmod m = P ↔ ((q : Int) * layF d i - Pl.pc t i (d - i)) % m = 0 := by rw [← hC, ← hP]; exact heq
            have HST := Lib.hid hst
            rw [hP] at z2 p1
            rw [hC] at z4 r1
            have u1 : 0 ≤ (q : Int) * C ∧ (q : Int) * C ≤ 100000000 := ⟨Int.mul_nonneg (show (0 : Int) ≤ (q : Int) by omega) r1.1, by have := Int.mul_le_mul (show (q : Int) ≤ 10000 by omega) (show C ≤ 10000 by omega) r1.1 (by omega); omega⟩
            obtain ⟨U, hU⟩ : ∃ U, (q : Int) * C = U := ⟨_, rfl⟩
            rw [hU] at u1 HST
            obtain ⟨V, hV⟩ : ∃ V, U.tmod m = V := ⟨_, rfl⟩
            rw [hV] at HST
            have i9 : IntKind.i64.wrap U = U := by rw [IntKind.wrap_i64]; omega
            clear heq hst hP hC HNUM HNL HPL hn1 hn2
            by_cases hvp : V = P
            · have HN2 := Lib.hid (fun i' (h : i' < i + 1) => (by
                by_cases e : i' = i
                · subst e; exact HST.out.1 hvp
                · exact HY.out rfl i' (by omega) : ((q : Int) * layF d i' - Pl.pc t i' (d - i')) % m = 0))
              subst hvp
              go_wp2
              go_quiet (fail)
              go_wp2
              go_roundw
              case rel => first
                | exact ⟨i + 1, true, by omega, by first | rfl | go_num, by first | rfl | simp, fun _ => HN2.out, fun h => (by cases h), below_drewN HQ.out _⟩
                | exact ⟨_, ⟨i + 1, true, by omega, by first | rfl | go_num, by first | rfl | simp, fun _ => HN2.out, fun h => (by cases h), below_drewN HQ.out _⟩, rfl⟩
              case measure => simp only [intOf]; omega
            · have k1 : (V == P) = false := by simpa using hvp
              have k2 : (V != P) = true := by simpa using hvp
              have HF0 : Hid (¬ F (q : Int)) := Lib.hid (fun h => hvp (HST.out.2 ((HFT.out q).1 h i (by omega))))
              go_wp2
              go_quiet (fail)
              go_wp2
              go_roundw
              case rel => first
                | exact ⟨i + 1, false, by omega, by first | rfl | go_num, by first | rfl | simp, fun h => (by cases h), fun _ => HF0.out, below_drewN HQ.out _⟩
                | exact ⟨_, ⟨i + 1, false, by omega, by first | rfl | go_num, by first | rfl | simp, fun h => (by cases h), fun _ => HF0.out, below_drewN HQ.out _⟩, rfl⟩
              case measure => simp only [intOf]; omega
          · obtain rfl : i = d + 1 := by omega
            have i1 : ¬ ((d : Int) + 1 ≤ (d : Int)) := by omega
            have HR0 : Hid (R = (q : Int)) := Lib.hid (HFF.out q (by omega) ((HFT.out q).2 (fun i hi => HY.out rfl i (by omega))) HNO.out)
            go_wp2
            go_ret
            exact ⟨by rw [HR0.out]; rfl, below_step HB1.out HQ.out⟩
        | false =>
          have HN2 := Lib.hid (fun (c' : Int) (h0 : 0 ≤ c') (h : c' < (q : Int) + 1) => (by
            by_cases e : c' = (q : Int)
            · subst e; exact HN.out rfl
            · exact HNO.out c' h0 (by omega) : ¬ F c'))
          by_cases hlti : i < d + 1
          · have i1 : (i : Int) ≤ (d : Int) := by omega
            go_wp2
            go_roundw
            case rel => first
              | exact ⟨q + 1, by omega, by go_num, HN2.out, HQ.out⟩
              | exact ⟨_, ⟨q + 1, by omega, by go_num, HN2.out, HQ.out⟩, rfl⟩
              | exact ⟨_, _, ⟨q + 1, by omega, by go_num, HN2.out, HQ.out⟩, rfl, rfl⟩
              | exact ⟨_, _, _, ⟨q + 1, by omega, by go_num, HN2.out, HQ.out⟩, rfl, rfl, rfl⟩
            case measure => simp only [intOf]; omega
          · obtain rfl : i = d + 1 := by omega
            have i1 : ¬ ((d : Int) + 1 ≤ (d : Int)) := by omega
            go_wp2
            go_roundw
            case rel => first
              | exact ⟨q + 1, by omega, by go_num, HN2.out, HQ.out⟩
              | exact ⟨_, ⟨q + 1, by omega, by go_num, HN2.out, HQ.out⟩, rfl⟩
              | exact ⟨_, _, ⟨q + 1, by omega, by go_num, HN2.out, HQ.out⟩, rfl, rfl⟩
              | exact ⟨_, _, _, ⟨q + 1, by omega, by go_num, HN2.out, HQ.out⟩, rfl, rfl, rfl⟩
            case measure => simp only [intOf]; omega
    · have e : (q : Int) = m := by omega
      exact (HFN.out (fun c' h0 h1 => HNO.out c' h0 (by omega))).elim
end Go.Proofs.Ytlpfifdocgljnac

/- Contracts of IsCocycle and CocycleFactor of the model. -/
namespace Go.Proofs.Ytlpfifdocgljnac
open Go.RowKit Go.WideShapes Go.ChangeShapes Go.ChangeAt

set_option maxHeartbeats 4000000 in
set_option maxRecDepth 100000 in
theorem sIsCocycle_any (m : Int) (A : Option Addr) (c : Nat) (t : List (List Int)) (w : World) (hz : szT t ≤ 1048576) (hr : RP w A t) :
    Calls Try.prog 8 #[.agg #[.int .i64 m, .slice A t.length c]] w fun e w' => e = .returned (.bool (cycB m t)) ∧ Below w.heap.size w w' := by
  obtain ⟨W, hW, b1, hwb⟩ := start1 27 w m A t.length c
  have HB := Lib.hid hwb
  have HW := Lib.hid hW
  have HC := Lib.hid (l07Is_any m A c t W hz (hr.below hwb))
  obtain ⟨Y, hY⟩ : ∃ Y, cycB m t = Y := ⟨_, rfl⟩
  rw [hY] at HC ⊢
  obtain ⟨x1, x2, x3⟩ := b1
  clear hwb hW hr hz hY
  go_enter Try.func8, Try.ntmps8
  go_wp2_with fail
  rw [HW.out]
  go_wp2_with fail
  refine HC.out.mono ?_
  rintro e w1 ⟨rfl, hb1⟩
  have HB1 := Lib.hid (below_step HB.out hb1)
  clear hb1 x1 x2 x3
  go_wp2
  go_ret
  exact ⟨rfl, HB1.out⟩
theorem cyc_fac {m : Int} {t : List (List Int)} (h : cycB m t = true) : ∃ d, t.length = d + 1 ∧ 2 ≤ d ∧ Pl.Ok m d t ∧ (Cyc.facO m (layC m t d) d).isSome = true ∧ cycC m t = (Cyc.facM m (layC m t d) d, 0) := by
  have h0 : isP m t = true := by
    unfold cycB at h
    rw [Bool.and_eq_true] at h
    exact h.1
  obtain ⟨d, e1, ok⟩ := plOk_of h0
  have hc := h
  rw [cyc_isC h0 e1] at hc
  unfold Cyc.isC at hc
  simp only [Bool.and_eq_true, decide_eq_true_eq] at hc
  obtain ⟨r1, r2⟩ := cyc_yes h0 e1 ok (by omega) hc.1.1.2
  refine ⟨d, e1, hc.1.1.1, ok, by rw [← r1]; exact h, ?_⟩
  unfold cycC
  rw [if_pos h, r2]
set_option maxHeartbeats 4000000 in
set_option maxRecDepth 100000 in
theorem sCocycleFactor_any (m : Int) (A : Option Addr) (c : Nat) (t : List (List Int)) (w : World) (hz : szT t ≤ 1048576) (hr : RP w A t) :
    Calls Try.prog 12 #[.agg #[.int .i64 m, .slice A t.length c]] w fun e w' => e = .returned (.tuple #[.int .i64 (cycC m t).1, .int .i64 (cycC m t).2]) ∧ Below w.heap.size w w' := by
  obtain ⟨W, hW, b1, hwb⟩ := start1 27 w m A t.length c
  have HB := Lib.hid hwb
  have HW := Lib.hid hW
  have HC := Lib.hid (l07Is_any m A c t W hz (hr.below hwb))
  have B1 := Lib.hid b1
  obtain ⟨x1, x2, x3⟩ := b1
  cases hY : cycB m t with
  | true =>
    obtain ⟨d, e1, d2, ok, hso, hcc⟩ := cyc_fac hY
    rw [hcc]
    have HF := Lib.hid (fun W0 (h : Below W.heap.size W W0) => l07Factor_any m d A c t W0 d2 ok ((hr.below hwb).below h) hso)
    obtain ⟨X, hX⟩ : ∃ X, Cyc.facM m (layC m t d) d = X := ⟨_, rfl⟩
    rw [hX] at HF ⊢
    rw [hY] at HC
    obtain ⟨L, hL⟩ : ∃ L, t.length = L := ⟨_, rfl⟩
    rw [hL] at HF HC B1 HW x2 ⊢
    clear hwb hW hr hz hY hX hL ok hso hcc e1
    go_enter Try.func12, Try.ntmps12
    go_wp2_with fail
    rw [HW.out]
    go_wp2_with fail
    refine HC.out.mono ?_
    rintro e w1 ⟨rfl, hb1⟩
    have HB1 := Lib.hid hb1
    clear hb1 x1 x2 x3
    obtain ⟨x1, x2, x3⟩ := B1.out.keep HB1.out
    go_wp2_with fail
    refine (HF.out _ HB1.out).mono ?_
    rintro e w2 ⟨rfl, hb2⟩
    have HB2 := Lib.hid (below_step HB.out (below_step HB1.out hb2))
    clear hb2 x1 x2 x3
    go_wp2
    go_ret2
    exact ⟨rfl, HB2.out⟩
  | false =>
    have hcc : cycC m t = (0, 1) := by unfold cycC; rw [hY]; rfl
    rw [hcc]
    rw [hY] at HC
    clear hwb hW hr hz hY hcc
    go_enter Try.func12, Try.ntmps12
    go_wp2_with fail
    rw [HW.out]
    go_wp2_with fail
    refine HC.out.mono ?_
    rintro e w1 ⟨rfl, hb1⟩
    have HB1 := Lib.hid (below_step HB.out hb1)
    clear hb1 x1 x2 x3
    go_wp2
    go_ret2
    exact ⟨rfl, HB1.out⟩
end Go.Proofs.Ytlpfifdocgljnac

/- A plane among a law's arguments: what its reading tells. -/
namespace Go.Proofs.Ytlpfifdocgljnac
open Go.RowKit Go.WideShapes Go.ChangeShapes Go.ChangeAt

theorem cells_pla : Try.prog.cellsOf 24 = 2 := by kernel_rfl
theorem cells_i64ss : Try.prog.cellsOf 22 = 1 := by kernel_rfl
set_option maxRecDepth 100000 in
theorem open_pla {H : Type} {enc : TypeId × Value → H} {W : World} {base : Nat} {v : Value} {d : DataW H} {p : List MemPlace}
    (hv : Value.okWide Try.prog W .any base 24 v) (h : DataW.Trod enc Try.prog W 0 (fun _ => true) true 24 v d p) :
    ∃ (m : Int) (A : Option Addr) (c : Nat) (t : List (List Int)), v = .agg #[.int .i64 m, .slice A t.length c] ∧ (t.length ≤ 9223372036854775807 ∧ ∀ k, (Pl.rw' t k).length ≤ 9223372036854775807) ∧ RQ W A t := by
  obtain ⟨cs, rfl, hsz⟩ := okWide_struct Try.underlying24 hv
  rw [cells_pla] at hsz
  obtain ⟨l⟩ := cs
  match l, hsz with
  | [c0, c1], _ =>
    obtain ⟨fuel, hf⟩ := h
    obtain ⟨y0, y1, m, hx, _, hy0, hy1⟩ := trod_struct2 Try.underlying24 hf
    obtain ⟨a, e0, -, -⟩ := DataW.trod_int Try.underlying2 hy0
    simp [Value.cells, cells_i64] at e0
    subst e0
    rcases Go.Deep.open_int_rows Try.underlying22 Try.underlying35 Try.underlying2 (by kernel_rfl) (by kernel_rfl) hy1 with ⟨hcs, -⟩ | ⟨ad, n, cap, A, L, C, Z, hcs, -, hl, hm, -, hr⟩
    · simp [Value.cells, cells_i64ss] at hcs
      subst hcs
      exact ⟨a, none, 0, [], rfl, ⟨Nat.zero_le _, fun k => Nat.zero_le _⟩, fun h => absurd rfl h⟩
    · simp [Value.cells, cells_i64ss] at hcs
      subst hcs
      have key : ∀ r, r < n → Pl.rw' ((List.range n).map fun r => (Z r).take (L r)) r = (Z r).take (L r) := by
        intro r h
        unfold Pl.rw'
        rw [List.getElem?_map, List.getElem?_range h]; rfl
      have klen : ∀ r, r < n → ((Z r).take (L r)).length = L r := by
        intro r h
        obtain ⟨_, h2, _, h4, _⟩ := hr r (by omega)
        rw [List.length_take]; omega
      have hlen : ((List.range n).map fun r => (Z r).take (L r)).length = n := by simp
      refine ⟨a, some ad, cap, (List.range n).map fun r => (Z r).take (L r), by rw [hlen], ⟨by rw [hlen]; unfold maxLen at hm; omega, fun k => ?_⟩, fun hne => ?_⟩
      · by_cases hk : k < n
        · rw [key k hk, klen k hk]
          obtain ⟨_, h2, h3, _⟩ := hr k (by omega)
          unfold maxLen at h3; omega
        · rw [Pl.rw_over (by rw [hlen]; omega)]; exact Nat.zero_le _
      · have hn : 0 < n := by
          rcases Nat.eq_zero_or_pos n with e | e
          · subst e; exact absurd rfl hne
          · exact e
        refine ⟨ad, rfl, ?_, fun k hk => ?_⟩
        · have := World.block_lt_of_cell? W _ (hr 0 (by omega)).1
          rwa [add_block] at this
        · rw [hlen] at hk
          obtain ⟨h1, h2, h3, h4, _, _, h7⟩ := hr k (by omega)
          refine ⟨A k, C k, by rw [key k hk, klen k hk]; exact h1, ?_⟩
          rw [key k hk]
          intro hne2
          have hL : 0 < L k := by
            rcases Nat.eq_zero_or_pos (L k) with e | e
            · rw [e] at hne2; exact absurd rfl hne2
            · exact e
          rcases hA : A k with _ | a'
          · obtain ⟨_, _, _, _, _, h6, _⟩ := hr k (by omega)
            have := h6 hA
            omega
          · obtain ⟨_, h8⟩ := h7 a' hA
            refine ⟨a', rfl, ?_, fun j hj => ?_⟩
            · have := World.block_lt_of_cell? W _ (h8 0 (by omega))
              rwa [add_block] at this
            · rw [klen k hk] at hj
              rw [h8 j (by omega), List.getElem?_take, if_pos hj]
              simp [List.getD_eq_getElem?_getD]
end Go.Proofs.Ytlpfifdocgljnac

