/- Texts of contracts, joined. -/
import Derived.Test.YtfhdgcndiljjcabMgag
import Derived.Test.YtfhdgcndiljjcabMgaa
import Derived.Test.YtfhdgcndiljjcabMgab
import Derived.Test.YtfhdgcndiljjcabMgac
import Derived.Deep.QuietTactic
import Derived.BigQuiet
import Derived.Maps.AppendAt
/- Contracts of BinomialNumber and BinomialDivisor, of the program and of the model. -/
namespace Go.Proofs.Ytfhdgcndiljjcab
open Go.RowKit Go.WideShapes Go.ChangeShapes Go.ChangeAt


/-- the greatest common divisor of the first numbers of choices -/
def lz (n : Int) : Nat → Int
  | 0 => 0
  | k + 1 => gcdI (lz n k) (binI n (k + 1 : Nat))
theorem gcdI_le (a : Int) {b : Int} (hb : 0 < b) : 0 ≤ gcdI a b ∧ gcdI a b ≤ b := by
  have := Nat.le_of_dvd (show 0 < b.natAbs by omega) (Nat.gcd_dvd_right a.natAbs b.natAbs)
  unfold gcdI; omega
theorem lz_bd {n : Int} (h2 : n ≤ 60) : ∀ k : Nat, (k : Int) ≤ n → 0 ≤ lz n k ∧ lz n k ≤ 118264581564861424
  | 0, _ => by simp [lz]
  | k + 1, h => by
    have hp : 0 < binI n (k + 1 : Nat) := by
      have := Num.bin_pos n.toNat (k + 1) (by omega)
      unfold binI; simp only [Int.toNat_natCast]; omega
    have h3 := gcdI_le (lz n k) hp
    have h4 := binI_bd (k := (k + 1 : Nat)) h2
    rw [lz]; omega

end Go.Proofs.Ytfhdgcndiljjcab

/- Plain facts on the layers of Lazard's cocycles. -/
namespace Go.Proofs.Ytfhdgcndiljjcab
open Go.RowKit

/-- the coefficient of C(n) at x^i y^(n - i) -/
def layF (n i : Nat) : Int := if 0 < i ∧ i < n then (binI (n : Int) (i : Int)).tdiv (lz (n : Int) (n - 1)) else 0
/-- a layer as far as the program has written it: below k -/
def layP (n k : Nat) : List Int := (List.range (n + 1)).map fun i => if i < k then layF n i else 0
def layL (n : Nat) : List Int := (List.range (n + 1)).map (layF n)
theorem layL_length (n : Nat) : (layL n).length = n + 1 := by simp [layL]
theorem layP_length (n k : Nat) : (layP n k).length = n + 1 := by simp [layP]
theorem layP_co {n k i : Nat} (h : i ≤ n) : Ser.co (layP n k) i = if i < k then layF n i else 0 := by
  unfold Ser.co layP
  rw [List.getElem?_map, List.getElem?_range (by omega)]; rfl
theorem layL_co {n i : Nat} (h : i ≤ n) : Ser.co (layL n) i = layF n i := by
  unfold Ser.co layL
  rw [List.getElem?_map, List.getElem?_range (by omega)]; rfl
theorem layP_one (n : Nat) : layP n 1 = List.replicate (n + 1) 0 := by
  refine Ser.list_ext (by rw [layP_length, List.length_replicate]) (fun i hi => ?_)
  rw [layP_length] at hi
  rw [layP_co (by omega), Ser.co_zeros]
  by_cases h : i < 1
  · rw [if_pos h]; unfold layF; rw [if_neg (by omega)]
  · rw [if_neg h]
theorem layP_end (n : Nat) : layP n n = layL n := by
  refine Ser.list_ext (by rw [layP_length, layL_length]) (fun i hi => ?_)
  rw [layP_length] at hi
  rw [layP_co (by omega), layL_co (by omega)]
  by_cases h : i < n
  · rw [if_pos h]
  · rw [if_neg h]; unfold layF; rw [if_neg (by omega)]
theorem layP_step {n k : Nat} (h : k ≤ n) : (layP n k).set k (layF n k) = layP n (k + 1) := by
  refine Ser.list_ext (by rw [List.length_set, layP_length, layP_length]) (fun i hi => ?_)
  rw [List.length_set, layP_length] at hi
  rw [Ser.co_set (by rw [layP_length]; omega), layP_co (by omega), layP_co (by omega)]
  by_cases e : i = k
  · rw [if_pos e, if_pos (by omega), e]
  · rw [if_neg e]
    by_cases c : i < k
    · rw [if_pos c, if_pos (by omega)]
    · rw [if_neg c, if_neg (by omega)]
theorem layF_mid {n k : Nat} (h1 : 0 < k) (h2 : k < n) : layF n k = (binI (n : Int) (k : Int)).tdiv (lz (n : Int) (n - 1)) := by
  unfold layF; rw [if_pos ⟨h1, h2⟩]
theorem lz_pos {n : Int} : ∀ k : Nat, 0 < k → (k : Int) ≤ n → 0 < lz n k
  | 0, h, _ => absurd h (by omega)
  | k + 1, _, h => by
    have hp : 0 < binI n (k + 1 : Nat) := by
      have := Num.bin_pos n.toNat (k + 1) (by omega)
      unfold binI; simp only [Int.toNat_natCast]; omega
    rw [lz]
    unfold gcdI
    have := Nat.gcd_pos_of_pos_right (lz n k).natAbs (show 0 < (binI n (k + 1 : Nat)).natAbs by omega)
    omega
theorem layF_small : ∀ n : Fin 11, ∀ i : Fin 11, 0 ≤ layF n i ∧ layF n i ≤ 252 := by decide +kernel
theorem layF_bd {n i : Nat} (h : n ≤ 10) : 0 ≤ layF n i ∧ layF n i ≤ 252 := by
  by_cases hi : i ≤ 10
  · exact layF_small ⟨n, by omega⟩ ⟨i, by omega⟩
  · unfold layF; rw [if_neg (by omega)]; omega
/-- a layer as a table: 0 below the degree -/
def ofLay (d : Nat) (f : Nat → Int) : Nat → Nat → Int := fun i j => if i + j < d then 0 else f i
/-- the model's table, its rows below k written -/
def lazQ (n k : Nat) : Nat → Nat → Int := fun i j => if i < k then ofLay n (layF n) i j else 0
theorem lazQ_one (m : Int) (n : Nat) : Pl.tab m n (lazQ n 1) = Pl.tab m n fun _ _ => 0 := Pl.tab_congr (Pl.Eq.of m n (fun i j _ => by
  unfold lazQ ofLay layF
  by_cases h : i < 1
  · rw [if_pos h]; split
    · rfl
    · rw [if_neg (by omega)]
  · rw [if_neg h]))
theorem lazQ_end (m : Int) (n : Nat) : Pl.tab m n (lazQ n n) = Pl.tab m n (ofLay n (layF n)) := Pl.tab_congr (Pl.Eq.of m n (fun i j _ => by
  unfold lazQ
  by_cases h : i < n
  · rw [if_pos h]
  · rw [if_neg h]; unfold ofLay layF; split
    · rfl
    · rw [if_neg (by omega)]))
theorem lazQ_step {m : Int} {n k : Nat} (h2 : k < n) : (Pl.tab m n (lazQ n k)).set k ((Pl.rw' (Pl.tab m n (lazQ n k)) k).set (n - k) (layF n k % m)) = Pl.tab m n (lazQ n (k + 1)) := by
  refine Pl.tab_put (by omega) ?_ (fun i j hij hne => ?_)
  · unfold lazQ ofLay
    rw [if_pos (by omega), if_neg (by omega)]
  · unfold lazQ ofLay
    by_cases hi : i < k
    · rw [if_pos hi, if_pos (by omega)]
    · rw [if_neg hi]
      by_cases he : i < k + 1
      · rw [if_pos he, if_pos (by omega)]
      · rw [if_neg he]
/-- the table of C(n) -/
def lazT (m : Int) (n : Nat) : List (List Int) := Pl.tab m n (ofLay n (layF n))
/-- the model of LazardCocycle -/
def lazP (m n : Int) : Int × List (List Int) × Int :=
  if isM m = true then (if inB n 2 10 = true then (m, lazT m n.toNat, 0) else (0, [], 2)) else (0, [], 1)
/-- the number of laws of degree k + 1, if it is not too great -/
def cntO (m : Int) : Nat → Option Int
  | 0 => some 1
  | k + 1 => match cntO m k with
    | none => none
    | some c => if 1000000000000000000 / m < c then none else some (c * m)
theorem cntO_bd {m : Int} (m1 : 2 ≤ m) : ∀ k c, cntO m k = some c → 1 ≤ c ∧ c ≤ 1000000000000000000
  | 0, c, h => by simp [cntO] at h; omega
  | k + 1, c, h => by
    unfold cntO at h
    cases hk : cntO m k with
    | none => rw [hk] at h; simp at h
    | some b =>
      rw [hk] at h
      obtain ⟨b1, b2⟩ := cntO_bd m1 k b hk
      by_cases hb : 1000000000000000000 / m < b
      · simp [hb] at h
      · simp [hb] at h
        have h3 : b * m ≤ 1000000000000000000 := Int.le_trans (Int.mul_le_mul_of_nonneg_right (show b ≤ 1000000000000000000 / m by omega) (by omega)) (Int.ediv_mul_le _ (by omega))
        have h4 : 1 * 1 ≤ b * m := Int.mul_le_mul (by omega) (by omega) (by omega) (by omega)
        omega
theorem cntO_none {m : Int} {k : Nat} (h : cntO m k = none) (n : Nat) (hn : k ≤ n) : cntO m n = none := by
  obtain ⟨q, rfl⟩ : ∃ q, n = k + q := ⟨n - k, by omega⟩
  clear hn
  induction q with
  | zero => exact h
  | succ q ih => rw [← Nat.add_assoc]; unfold cntO; rw [ih]
def cntM (m d : Int) : Int × Int :=
  if isM m = true then (if inB d 1 10 = true then (match cntO m (d.toNat - 1) with
    | some c => (c, 0)
    | none => (0, 3)) else (0, 2)) else (0, 1)
end Go.Proofs.Ytfhdgcndiljjcab

/- Plain facts: what fulfils the equations of cocycles in one degree is a multiple of Lazard's cocycle (degrees 2 to 10, by integer certificates that the kernel checks). -/
namespace Go.Proofs.Ytfhdgcndiljjcab
open Go.RowKit

namespace Coc
/-- a linear form in p(1), p(2), .. -/
def lin : List Int → Nat → (Nat → Int) → Int
  | [], _, _ => 0
  | c :: r, i, p => c * p i + lin r (i + 1) p
def unit (n i : Nat) (c : Int) : List Int := (List.range n).map fun j => if j = i then c else 0
def add (a b : List Int) : List Int := List.zipWith (· + ·) a b
def smul (c : Int) (a : List Int) : List Int := a.map (c * ·)
theorem lin_add (p : Nat → Int) : ∀ (a b : List Int) (i : Nat), a.length = b.length → lin (add a b) i p = lin a i p + lin b i p
  | [], [], _, _ => rfl
  | x :: a, y :: b, i, h => by
    show (x + y) * p i + lin (add a b) (i + 1) p = x * p i + lin a (i + 1) p + (y * p i + lin b (i + 1) p)
    rw [lin_add p a b (i + 1) (by simpa using h), Int.add_mul]
    omega
  | [], _ :: _, _, h => by simp at h
  | _ :: _, [], _, h => by simp at h
theorem lin_smul (p : Nat → Int) (c : Int) : ∀ (a : List Int) (i : Nat), lin (smul c a) i p = c * lin a i p
  | [], _ => by show (0 : Int) = c * 0; omega
  | x :: a, i => by
    show (c * x) * p i + lin (smul c a) (i + 1) p = c * (x * p i + lin a (i + 1) p)
    rw [lin_smul p c a (i + 1), Int.mul_add, Int.mul_assoc]
/-- the equations: symmetry, and cocycles' -/
def symF (n i : Nat) : List Int := add (unit (n - 1) (i - 1) 1) (unit (n - 1) (n - i - 1) (-1))
def cocF (n a b : Nat) : List Int := add (unit (n - 1) (a + b - 1) (Num.bin (a + b) a : Nat)) (unit (n - 1) (a - 1) (-(Num.bin (n - a) b : Nat)))
def pairs (n : Nat) : List (Nat × Nat) := (List.range n).flatMap fun a => (List.range n).filterMap fun b => if 0 < a ∧ 0 < b ∧ a + b < n then some (a, b) else none
def syms (n : Nat) : List Nat := (List.range n).filter fun i => decide (0 < i ∧ 2 * i < n)
def forms (n : Nat) : List (List Int) := (syms n).map (symF n) ++ (pairs n).map (fun ab => cocF n ab.1 ab.2)
def comb (n : Nat) : List Int → List (List Int) → List Int
  | c :: K, f :: F => add (smul c f) (comb n K F)
  | _, _ => List.replicate n 0
theorem lin_unit (p : Nat → Int) (n i : Nat) (c : Int) (h : i < n) : lin (unit n i c) 1 p = c * p (i + 1) := by
  have key : ∀ (k s : Nat), lin ((List.range' s k).map fun j => if j = i then c else 0) (s + 1) p = if s ≤ i ∧ i < s + k then c * p (i + 1) else 0 := by
    intro k
    induction k with
    | zero => intro s; rw [if_neg (by omega)]; rfl
    | succ k ih =>
      intro s
      rw [List.range'_succ]
      show (if s = i then c else 0) * p (s + 1) + lin ((List.range' (s + 1) k).map fun j => if j = i then c else 0) (s + 1 + 1) p = _
      rw [ih (s + 1)]
      by_cases hs : s = i
      · rw [if_pos hs, if_neg (by omega), if_pos (by omega), hs]; omega
      · rw [if_neg hs]
        by_cases hi : s + 1 ≤ i ∧ i < s + 1 + k
        · rw [if_pos hi, if_pos (by omega)]; omega
        · rw [if_neg hi, if_neg (by omega)]; omega
  have := key n 0
  unfold unit
  rw [List.range_eq_range', this, if_pos (by omega)]
theorem unit_length (n i : Nat) (c : Int) : (unit n i c).length = n := by simp [unit]
theorem add_length {a b : List Int} {n : Nat} (ha : a.length = n) (hb : b.length = n) : (add a b).length = n := by simp [add, ha, hb]
theorem comb_length (n : Nat) : ∀ (K : List Int) (F : List (List Int)), (∀ f ∈ F, f.length = n) → (comb n K F).length = n
  | [], _, _ => by simp [comb]
  | _ :: _, [], _ => by simp [comb]
  | c :: K, f :: F, h => by
    unfold comb
    exact add_length (by simp [smul]; exact h f (List.mem_cons_self)) (comb_length n K F (fun g hg => h g (List.mem_cons_of_mem _ hg)))
theorem lin_zeros (p : Nat → Int) : ∀ (n i : Nat), lin (List.replicate n 0) i p = 0
  | 0, _ => rfl
  | n + 1, i => by
    rw [List.replicate_succ]
    show 0 * p i + lin (List.replicate n 0) (i + 1) p = 0
    rw [lin_zeros p n (i + 1)]; omega
theorem comb_zero (m : Int) (p : Nat → Int) (n : Nat) : ∀ (K : List Int) (F : List (List Int)), (∀ f ∈ F, f.length = n ∧ lin f 1 p % m = 0) → lin (comb n K F) 1 p % m = 0
  | [], _, _ => by unfold comb; rw [lin_zeros]; exact Int.zero_emod m
  | _ :: _, [], _ => by unfold comb; rw [lin_zeros]; exact Int.zero_emod m
  | c :: K, f :: F, h => by
    have ih := comb_zero m p n K F (fun g hg => h g (List.mem_cons_of_mem _ hg))
    obtain ⟨h1, h2⟩ := h f (List.mem_cons_self)
    unfold comb
    rw [lin_add p _ _ 1 (by rw [comb_length n K F (fun g hg => (h g (List.mem_cons_of_mem _ hg)).1)]; simp [smul, h1]), lin_smul, Int.add_emod, ih, Int.mul_emod, h2]
    simp
def uOf : Nat → List Int
  | 2 => [1]
  | 3 => [1, 0]
  | 4 => [-1, 1, 0]
  | 5 => [1, 0, 0, 0]
  | 6 => [-14, 7, -1, 0, 0]
  | 7 => [1, 0, 0, 0, 0, 0]
  | 8 => [51, -17, 0, 1, 0, 0, 0]
  | 9 => [-9, 0, 1, 0, 0, 0, 0, 0]
  | 10 => [-404, 101, 0, 0, -2, 0, 0, 0, 0]
  | _ => []
def certOf : Nat → List (List Int)
  | 2 => [[]]
  | 3 => [[0, 0], [-1, 0]]
  | 4 => [[3, 0, 0, 1], [3, 0, 0, 1], [2, 0, 0, 1]]
  | 5 => [[0, 0, 0, 0, 0, 0, 0, 0], [-2, -2, 0, 0, 0, 0, -1, 1], [-2, -3, 0, 0, 0, 0, -1, 1], [-1, 0, 0, 0, 0, 0, 0, 0]]
  | 6 => [[85, -42, 0, 0, 0, 0, 0, 0, 0, -2, 0, 17], [210, -104, 0, 0, 0, 0, 0, 0, 0, -5, 0, 42], [280, -140, 0, 0, 0, 0, 0, 0, 0, -7, 0, 56], [210, -105, 0, 0, 0, 0, 0, 0, 0, -5, 0, 42], [84, -42, 0, 0, 0, 0, 0, 0, 0, -2, 0, 17]]
  | 7 => [[0, 0, 0, 0, 0, 0, 0, 0, 0, 0, 0, 0, 0, 0, 0, 0, 0, 0], [-3, 1, 0, 0, 0, 0, 0, 0, 0, 0, 0, 0, 0, 0, 0, 1, -1, 2], [-5, 0, -3, 0, 0, 0, 0, 0, 0, 0, 0, 0, 0, 0, -1, -4, 5, -10], [-5, 0, -4, 0, 0, 0, 0, 0, 0, 0, 0, 0, 0, 0, -1, -4, 5, -10], [-3, 0, 0, 0, 0, 0, 0, 0, 0, 0, 0, 0, 0, 0, 0, 1, -1, 2], [-1, 0, 0, 0, 0, 0, 0, 0, 0, 0, 0, 0, 0, 0, 0, 0, 0, 0]]
  | 8 => [[-203, 68, -100, 0, 0, 0, 0, 0, 0, 0, 0, 0, 0, 0, 0, 0, -10, 0, -2, 2, 0, 30, 0, -29], [-714, 239, -350, 0, 0, 0, 0, 0, 0, 0, 0, 0, 0, 0, 0, 0, -35, 0, -7, 7, 0, 105, 0, -102], [-1428, 476, -709, 0, 0, 0, 0, 0, 0, 0, 0, 0, 0, 0, 0, 0, -71, 0, -14, 14, 0, 213, 0, -204], [-1785, 595, -850, 0, 0, 0, 0, 0, 0, 0, 0, 0, 0, 0, 0, 0, -85, 0, -17, 17, 0, 255, 0, -255], [-1428, 476, -710, 0, 0, 0, 0, 0, 0, 0, 0, 0, 0, 0, 0, 0, -71, 0, -14, 14, 0, 213, 0, -204], [-714, 238, -350, 0, 0, 0, 0, 0, 0, 0, 0, 0, 0, 0, 0, 0, -35, 0, -7, 7, 0, 105, 0, -102], [-204, 68, -100, 0, 0, 0, 0, 0, 0, 0, 0, 0, 0, 0, 0, 0, -10, 0, -2, 2, 0, 30, 0, -29]]
  | 9 => [[28, 0, -3, 0, 0, 0, 0, 0, 0, 0, 0, 0, 0, 0, 0, 0, 0, 0, 0, 0, 0, 0, 0, 0, 0, 0, 0, 0, 0, -6, 7, -21], [108, 1, -12, 0, 0, 0, 0, 0, 0, 0, 0, 0, 0, 0, 0, 0, 0, 0, 0, 0, 0, 0, 0, 0, 0, 0, 0, 0, 0, -23, 27, -81], [252, 0, -27, 0, 0, 0, 0, 0, 0, 0, 0, 0, 0, 0, 0, 0, 0, 0, 0, 0, 0, 0, 0, 0, 0, 0, 0, 0, 0, -54, 63, -189], [378, 0, -42, -4, 0, 0, 0, 0, 0, 0, 0, 0, 0, 0, 0, 0, 0, 0, 0, 0, 0, 0, 0, 0, 0, -1, 1, 0, 0, -96, 112, -336], [378, 0, -42, -5, 0, 0, 0, 0, 0, 0, 0, 0, 0, 0, 0, 0, 0, 0, 0, 0, 0, 0, 0, 0, 0, -1, 1, 0, 0, -96, 112, -336], [252, 0, -28, 0, 0, 0, 0, 0, 0, 0, 0, 0, 0, 0, 0, 0, 0, 0, 0, 0, 0, 0, 0, 0, 0, 0, 0, 0, 0, -54, 63, -189], [108, 0, -12, 0, 0, 0, 0, 0, 0, 0, 0, 0, 0, 0, 0, 0, 0, 0, 0, 0, 0, 0, 0, 0, 0, 0, 0, 0, 0, -23, 27, -81], [27, 0, -3, 0, 0, 0, 0, 0, 0, 0, 0, 0, 0, 0, 0, 0, 0, 0, 0, 0, 0, 0, 0, 0, 0, 0, 0, 0, 0, -6, 7, -21]]
  | 10 => [[4041, -2690, 0, 0, 0, 0, 0, 0, 0, 0, 0, 0, 0, 0, 0, -24, 0, 0, 0, 0, 0, 0, 0, 0, 0, 0, 0, 0, 0, 0, -4, 0, 0, 0, 576, 0, -672, 1344, 0, 6721], [18180, -12104, 0, 0, 0, 0, 0, 0, 0, 0, 0, 0, 0, 0, 0, -108, 0, 0, 0, 0, 0, 0, 0, 0, 0, 0, 0, 0, 0, 0, -18, 0, 0, 0, 2592, 0, -3024, 6048, 0, 30244], [48480, -32280, 1, 0, 0, 0, 0, 0, 0, 0, 0, 0, 0, 0, 0, -288, 0, 0, 0, 0, 0, 0, 0, 0, 0, 0, 0, 0, 0, 0, -48, 0, 0, 0, 6913, 0, -8065, 16130, 0, 80660], [84840, -56560, 0, 1, 0, 0, 0, 0, 0, 0, 0, 0, 0, 0, 0, -505, 0, 0, 0, 0, 0, 0, 0, 0, 0, 0, 0, 0, 0, 0, -84, 0, 0, 0, 12120, 0, -14140, 28280, 0, 141400], [101808, -67872, 0, 0, 0, 0, 0, 0, 0, 0, 0, 0, 0, 0, 0, -606, 0, 0, 0, 0, 0, 0, 0, 0, 0, 0, 0, 0, 0, 0, -101, 0, 0, 0, 14544, 0, -16968, 33936, 0, 169680], [84840, -56560, 0, 0, 0, 0, 0, 0, 0, 0, 0, 0, 0, 0, 0, -505, 0, 0, 0, 0, 0, 0, 0, 0, 0, 0, 0, 0, 0, 0, -84, 0, 0, 0, 12120, 0, -14140, 28280, 0, 141400], [48480, -32280, 0, 0, 0, 0, 0, 0, 0, 0, 0, 0, 0, 0, 0, -288, 0, 0, 0, 0, 0, 0, 0, 0, 0, 0, 0, 0, 0, 0, -48, 0, 0, 0, 6913, 0, -8065, 16130, 0, 80660], [18180, -12105, 0, 0, 0, 0, 0, 0, 0, 0, 0, 0, 0, 0, 0, -108, 0, 0, 0, 0, 0, 0, 0, 0, 0, 0, 0, 0, 0, 0, -18, 0, 0, 0, 2592, 0, -3024, 6048, 0, 30244], [4040, -2690, 0, 0, 0, 0, 0, 0, 0, 0, 0, 0, 0, 0, 0, -24, 0, 0, 0, 0, 0, 0, 0, 0, 0, 0, 0, 0, 0, 0, -4, 0, 0, 0, 576, 0, -672, 1344, 0, 6721]]
  | _ => []
/-- the number that the certificate of i makes: p(i + 1) less C(n) times the sum of u -/
def goal (n i : Nat) : List Int := add (unit (n - 1) i 1) (smul (-(layF n (i + 1))) (uOf n))
def checked (n : Nat) : Bool := (List.range (n - 1)).all fun i => decide (comb (n - 1) ((certOf n)[i]?.getD []) (forms n) = goal n i)
theorem checked_all : ∀ n : Fin 9, checked (n.val + 2) = true := by decide +kernel
theorem uOf_length : ∀ n : Fin 9, (uOf (n.val + 2)).length = n.val + 1 := by decide
/-- Lazard's lemma in the degrees 2 to 10 -/
theorem comparison {m : Int} {n : Nat} {p : Nat → Int} (n1 : 2 ≤ n) (n2 : n ≤ 10) (hs : ∀ i, 0 < i → i < n → (p i - p (n - i)) % m = 0)
    (hc : ∀ a b, 0 < a → 0 < b → a + b < n → (((Num.bin (a + b) a : Nat) : Int) * p (a + b) - ((Num.bin (n - a) b : Nat) : Int) * p a) % m = 0) :
    ∃ c, ∀ i, 0 < i → i < n → (p i - c * layF n i) % m = 0 := by
  refine ⟨lin (uOf n) 1 p, fun i h0 hi => ?_⟩
  obtain ⟨k, rfl⟩ : ∃ k, i = k + 1 := ⟨i - 1, by omega⟩
  have hck := checked_all ⟨n - 2, by omega⟩
  have hul := uOf_length ⟨n - 2, by omega⟩
  simp only [show n - 2 + 2 = n by omega] at hck hul
  have hck2 := List.all_eq_true.1 hck k (List.mem_range.2 (by omega))
  have hk := of_decide_eq_true hck2
  have hz := comb_zero m p (n - 1) ((certOf n)[k]?.getD []) (forms n) (fun f hf => by
    unfold forms at hf
    rcases List.mem_append.1 hf with h | h
    · obtain ⟨q, hq, rfl⟩ := List.mem_map.1 h
      unfold syms at hq
      rw [List.mem_filter, List.mem_range, decide_eq_true_eq] at hq
      refine ⟨add_length (unit_length _ _ _) (unit_length _ _ _), ?_⟩
      unfold symF
      rw [lin_add p _ _ 1 (by rw [unit_length, unit_length]), lin_unit p _ _ _ (by omega), lin_unit p _ _ _ (by omega)]
      rw [show q - 1 + 1 = q by omega, show n - q - 1 + 1 = n - q by omega]
      have := hs q hq.2.1 hq.1
      rw [show 1 * p q + -1 * p (n - q) = p q - p (n - q) by omega]
      exact this
    · obtain ⟨⟨a, b⟩, hq, rfl⟩ := List.mem_map.1 h
      unfold pairs at hq
      obtain ⟨a', ha, hq⟩ := List.mem_flatMap.1 hq
      obtain ⟨b', hb, hq⟩ := List.mem_filterMap.1 hq
      by_cases hab : 0 < a' ∧ 0 < b' ∧ a' + b' < n
      · rw [if_pos hab] at hq
        obtain ⟨rfl, rfl⟩ : a' = a ∧ b' = b := by simpa using hq
        refine ⟨add_length (unit_length _ _ _) (unit_length _ _ _), ?_⟩
        dsimp only
        unfold cocF
        rw [lin_add p _ _ 1 (by rw [unit_length, unit_length]), lin_unit p _ _ _ (by omega), lin_unit p _ _ _ (by omega)]
        rw [show a' + b' - 1 + 1 = a' + b' by omega, show a' - 1 + 1 = a' by omega]
        have := hc a' b' hab.1 hab.2.1 hab.2.2
        rw [Int.neg_mul, ← Int.sub_eq_add_neg]
        exact this
      · rw [if_neg hab] at hq; simp at hq)
  rw [hk] at hz
  unfold goal at hz
  rw [lin_add p _ _ 1 (by simp [unit, smul, hul]; omega), lin_unit p _ _ _ (by omega), lin_smul] at hz
  rw [show lin (uOf n) 1 p * layF n (k + 1) = layF n (k + 1) * lin (uOf n) 1 p from Int.mul_comm _ _]
  rw [Int.one_mul, Int.neg_mul, ← Int.sub_eq_add_neg] at hz
  exact hz
end Coc
end Go.Proofs.Ytfhdgcndiljjcab

/- Plain facts: the factor of a layer, and which layers are cocycles. -/
namespace Go.Proofs.Ytfhdgcndiljjcab
open Go.RowKit

namespace Cyc
/-- the equation of the coefficient i, for the factor as number 1 -/
def eqF (m : Int) (l : List Int) (n i : Nat) : List Int := Sys.timesE m 1 (-(Ser.co l i) :: layF n i :: List.replicate 9 0)
def eqsF (m : Int) (l : List Int) (n : Nat) : List (List Int) := (List.range (n + 1)).map (eqF m l n)
def facO (m : Int) (l : List Int) (n : Nat) : Option (Nat → Int) := Sys.leastS m (eqsF m l n)
/-- c times C(n) is the layer -/
def Fits (m : Int) (l : List Int) (n : Nat) (c : Int) : Prop := ∀ i, i ≤ n → (c * layF n i - Ser.co l i) % m = 0
theorem val_F (a b : Int) (y : Nat → Int) (hy : y 0 = 1) : Sys.val (a :: b :: List.replicate 9 0) y = a + y 1 * b := by
  unfold Sys.val
  simp [Ser.psum, Ser.co, List.replicate, hy, Int.mul_comm]
theorem sat_F {m : Int} {l : List Int} {n : Nat} (y : Nat → Int) (hy : y 0 = 1) : (∀ e ∈ eqsF m l n, Sys.Sat m y e) ↔ Fits m l n (y 1) := by
  have key : ∀ i, Sys.Sat m y (eqF m l n i) ↔ (y 1 * layF n i - Ser.co l i) % m = 0 := fun i => by
    unfold Sys.Sat eqF
    rw [Sys.val_times, val_F _ _ y hy, Int.one_mul, show -(Ser.co l i) + y 1 * layF n i = y 1 * layF n i - Ser.co l i by omega]
  unfold eqsF Fits
  constructor
  · intro h i hi
    exact (key i).1 (h _ (List.mem_map.2 ⟨i, List.mem_range.2 (by omega), rfl⟩))
  · intro h e he
    obtain ⟨i, hi, rfl⟩ := List.mem_map.1 he
    rw [List.mem_range] at hi
    exact (key i).2 (h i (by omega))
theorem eqsF_ok {m : Int} (hm : 0 < m) (l : List Int) (n : Nat) : ∀ e ∈ eqsF m l n, Sys.Ok m e := fun e he => by
  unfold eqsF at he
  obtain ⟨i, hi, rfl⟩ := List.mem_map.1 he
  unfold eqF Sys.timesE
  exact Sys.Ok.cut hm _
theorem facO_some {m : Int} (m1 : 2 ≤ m) (m2 : m ≤ 10000) {l : List Int} {n : Nat} {X : Nat → Int} (h : facO m l n = some X) :
    0 ≤ X 1 ∧ X 1 < m ∧ Fits m l n (X 1) ∧ ∀ c, 0 ≤ c → Fits m l n c → X 1 ≤ c := by
  have hL := Sys.leastS_some m1 m2 (eqsF_ok (by omega) l n) h
  obtain ⟨b1, b2⟩ := hL.bd 1 (by omega) (by omega)
  refine ⟨b1, b2, (sat_F X hL.one).1 hL.sat, fun c hc hf => ?_⟩
  have hy : (fun j => if j = 0 then (1 : Int) else if j = 1 then c else 0) 0 = 1 := rfl
  have := hL.least (fun j => if j = 0 then 1 else if j = 1 then c else 0) hy ((sat_F _ hy).2 hf) 1 (by omega) (by omega) (fun j hj => by
    obtain rfl : j = 0 := by omega
    rw [hL.one]; rfl) hc
  exact this
theorem facO_none {m : Int} (m1 : 2 ≤ m) (m2 : m ≤ 10000) {l : List Int} {n : Nat} (h : facO m l n = none) (c : Int) : ¬ Fits m l n c := fun hf => by
  have hy : (fun j => if j = 0 then (1 : Int) else if j = 1 then c else 0) 0 = 1 := rfl
  exact Sys.leastS_none m1 m2 (eqsF_ok (by omega) l n) h (fun j => if j = 0 then (1 : Int) else if j = 1 then c else 0) hy ((sat_F (fun j => if j = 0 then (1 : Int) else if j = 1 then c else 0) hy).2 hf)
/-- the factor, 0 if there is none -/
def facM (m : Int) (l : List Int) (n : Nat) : Int := match facO m l n with
  | some X => X 1
  | none => 0
theorem facM_first {m : Int} (m1 : 2 ≤ m) (m2 : m ≤ 10000) {l : List Int} {n : Nat} {c : Int} (hc : 0 ≤ c) (hf : Fits m l n c) (hn : ∀ c', 0 ≤ c' → c' < c → ¬ Fits m l n c') : facM m l n = c := by
  unfold facM
  cases h : facO m l n with
  | none => exact absurd hf (facO_none m1 m2 h c)
  | some X =>
    obtain ⟨b1, b2, b3, b4⟩ := facO_some m1 m2 h
    have h1 := b4 c hc hf
    have h2 : ¬ X 1 < c := fun hlt => hn _ b1 hlt b3
    show X 1 = c
    omega
theorem facM_never {m : Int} (m1 : 2 ≤ m) (m2 : m ≤ 10000) {l : List Int} {n : Nat} (hn : ∀ c', 0 ≤ c' → c' < m → ¬ Fits m l n c') : facM m l n = 0 := by
  unfold facM
  cases h : facO m l n with
  | none => rfl
  | some X =>
    obtain ⟨b1, b2, b3, b4⟩ := facO_some m1 m2 h
    exact absurd b3 (hn _ b1 b2)
/-- the equations of cocycles in the degree d -/
def lowZ (t : List (List Int)) (d : Nat) : Bool := (List.range d).all fun n => (List.range (n + 1)).all fun i => decide (Pl.pc t i (n - i) = 0)
def symZ (t : List (List Int)) (d : Nat) : Bool := (List.range (d + 1)).all fun i => decide (Pl.pc t i (d - i) = Pl.pc t (d - i) i) && (!(decide (i = 0) || decide (i = d)) || decide (Pl.pc t i (d - i) = 0))
def cocN (m : Int) (t : List (List Int)) (d a b : Nat) : Int := binI ((a : Int) + b) a % m * Pl.pc t (a + b) (d - (a + b)) - binI ((d : Int) - a) b % m * Pl.pc t a (d - a)
def cocZ (m : Int) (t : List (List Int)) (d : Nat) : Bool := (List.range d).all fun a => (List.range d).all fun b => !(decide (0 < a ∧ 0 < b ∧ a + b < d)) || decide (cocN m t d a b % m = 0)
def isC (m : Int) (t : List (List Int)) (d : Nat) : Bool := decide (2 ≤ d) && lowZ t d && symZ t d && cocZ m t d
theorem lowZ_iff {t : List (List Int)} {d : Nat} : lowZ t d = true ↔ ∀ n i, n < d → i ≤ n → Pl.pc t i (n - i) = 0 := by
  unfold lowZ
  simp only [List.all_eq_true, List.mem_range, decide_eq_true_eq]
  exact ⟨fun h n i hn hi => h n hn i (by omega), fun h n hn i hi => h n i hn (by omega)⟩
theorem symZ_iff {t : List (List Int)} {d : Nat} : symZ t d = true ↔ ∀ i, i ≤ d → Pl.pc t i (d - i) = Pl.pc t (d - i) i ∧ ((i = 0 ∨ i = d) → Pl.pc t i (d - i) = 0) := by
  unfold symZ
  simp only [List.all_eq_true, List.mem_range, Bool.and_eq_true, Bool.or_eq_true, Bool.not_eq_true', Bool.or_eq_false_iff, decide_eq_true_eq, decide_eq_false_iff_not]
  exact ⟨fun h i hi => ⟨(h i (by omega)).1, fun hx => (h i (by omega)).2.elim (fun h2 => absurd hx (by omega)) id⟩,
    fun h i hi => ⟨(h i (by omega)).1, (Decidable.em (i = 0 ∨ i = d)).elim (fun hx => .inr ((h i (by omega)).2 hx)) (fun hx => .inl (by omega))⟩⟩
theorem cocZ_iff {m : Int} {t : List (List Int)} {d : Nat} : cocZ m t d = true ↔ ∀ a b, 0 < a → 0 < b → a + b < d → cocN m t d a b % m = 0 := by
  unfold cocZ
  simp only [List.all_eq_true, List.mem_range, Bool.or_eq_true, Bool.not_eq_true', decide_eq_true_eq, decide_eq_false_iff_not]
  exact ⟨fun h a b ha hb hab => (h a (by omega) b (by omega)).elim (fun h2 => absurd ⟨ha, hb, hab⟩ h2) id,
    fun h a ha b hb => (Decidable.em (0 < a ∧ 0 < b ∧ a + b < d)).elim (fun hx => .inr (h a b hx.1 hx.2.1 hx.2.2)) (fun hx => .inl hx)⟩
theorem layF_coc : ∀ n : Fin 11, ∀ a : Fin 11, ∀ b : Fin 11, 2 ≤ n.val → 0 < a.val → 0 < b.val → a.val + b.val < n.val → ((Num.bin (a.val + b.val) a.val : Nat) : Int) * layF n.val (a.val + b.val) - ((Num.bin (n.val - a.val) b.val : Nat) : Int) * layF n.val a.val = 0 := by decide +kernel
theorem layF_sym : ∀ n : Fin 11, ∀ a : Fin 11, a.val ≤ n.val → layF n.val a.val = layF n.val (n.val - a.val) := by decide +kernel
theorem cocN_emod (m : Int) (t : List (List Int)) (d a b : Nat) (h : a + b < d) : cocN m t d a b % m = (((Num.bin (a + b) a : Nat) : Int) * Pl.pc t (a + b) (d - (a + b)) - ((Num.bin (d - a) b : Nat) : Int) * Pl.pc t a (d - a)) % m := by
  unfold cocN binI
  rw [show ((a : Int) + b).toNat = a + b by omega, show ((d : Int) - a).toNat = d - a by omega, show (a : Int).toNat = a by omega, show (b : Int).toNat = b by omega]
  rw [Int.sub_emod, Int.mul_emod, Int.emod_emod, ← Int.mul_emod, Int.mul_emod (((Num.bin (d - a) b : Nat) : Int) % m), Int.emod_emod, ← Int.mul_emod, ← Int.sub_emod]
/-- Lazard: a plane of one degree is a cocycle exactly if it is a multiple of C(d) -/
theorem isC_iff {m : Int} (m1 : 2 ≤ m) (m2 : m ≤ 10000) {t : List (List Int)} {d : Nat} (ok : Pl.Ok m d t) (d1 : 2 ≤ d) (d2 : d ≤ 10) {l : List Int} (hl : ∀ i, i ≤ d → Ser.co l i = Pl.pc t i (d - i)) :
    (symZ t d = true ∧ cocZ m t d = true) ↔ (facO m l d).isSome = true := by
  constructor
  · rintro ⟨hs, hc⟩
    rw [symZ_iff] at hs
    rw [cocZ_iff] at hc
    obtain ⟨c, h⟩ := Coc.comparison (m := m) (n := d) (p := fun i => Pl.pc t i (d - i)) d1 d2 (fun i h0 h1 => by
      have := (hs i (by omega)).1
      show (Pl.pc t i (d - i) - Pl.pc t (d - i) (d - (d - i))) % m = 0
      rw [show d - (d - i) = i by omega, this, Int.sub_self]; rfl) (fun a b ha hb hab => by
      rw [← cocN_emod m t d a b hab]; exact hc a b ha hb hab)
    have hf : Fits m l d c := fun i hi => by
      rw [hl i hi]
      by_cases hx : 0 < i ∧ i < d
      · have := h i hx.1 hx.2
        have e : c * layF d i - Pl.pc t i (d - i) = -(Pl.pc t i (d - i) - c * layF d i) := by omega
        rw [e]
        exact Int.emod_eq_zero_of_dvd (Int.dvd_neg.2 (Int.dvd_of_emod_eq_zero this))
      · rw [(hs i hi).2 (by omega)]
        unfold layF
        rw [if_neg hx, Int.mul_zero]; rfl
    cases hx : facO m l d with
    | none => exact absurd hf (facO_none m1 m2 hx c)
    | some X => rfl
  · intro h
    obtain ⟨X, hX⟩ := Option.isSome_iff_exists.1 h
    obtain ⟨b1, b2, hf, -⟩ := facO_some m1 m2 hX
    have hp : ∀ i, i ≤ d → Pl.pc t i (d - i) = X 1 * layF d i % m := fun i hi => by
      have h1 := hf i hi
      rw [hl i hi] at h1
      have r := ok.pc i (d - i)
      have h2 : X 1 * layF d i % m = Pl.pc t i (d - i) % m := Int.emod_eq_emod_iff_emod_sub_eq_zero.2 h1
      rw [h2, Int.emod_eq_of_lt r.1 r.2]
    constructor
    · rw [symZ_iff]
      intro i hi
      have e := layF_sym ⟨d, by omega⟩ ⟨i, by omega⟩ hi
      have h2 := hp (d - i) (by omega)
      rw [show d - (d - i) = i by omega] at h2
      refine ⟨by rw [hp i hi, h2, e], fun hx => ?_⟩
      rw [hp i hi]
      unfold layF
      rw [if_neg (by omega), Int.mul_zero]; rfl
    · rw [cocZ_iff]
      intro a b ha hb hab
      rw [cocN_emod m t d a b hab, hp (a + b) (by omega), hp a (by omega)]
      have e := layF_coc ⟨d, by omega⟩ ⟨a, by omega⟩ ⟨b, by omega⟩ d1 ha hb hab
      rw [Int.sub_emod, Int.mul_emod, Int.emod_emod, ← Int.mul_emod, Int.mul_emod _ (X 1 * layF d a % m), Int.emod_emod, ← Int.mul_emod, ← Int.sub_emod]
      have e2 : ((Num.bin (a + b) a : Nat) : Int) * (X 1 * layF d (a + b)) - ((Num.bin (d - a) b : Nat) : Int) * (X 1 * layF d a) = X 1 * (((Num.bin (a + b) a : Nat) : Int) * layF d (a + b) - ((Num.bin (d - a) b : Nat) : Int) * layF d a) := by
        rw [Int.mul_sub]; simp only [Int.mul_left_comm (X 1)]
      rw [e2, e, Int.mul_zero]; rfl
end Cyc
end Go.Proofs.Ytfhdgcndiljjcab

/- Plain facts: the gap of two laws that are equal below a degree fulfils the equations of cocycles there. -/
namespace Go.Proofs.Ytfhdgcndiljjcab
open Go.RowKit

namespace Pl
open Ser
theorem psum_at (f : Nat → Int) (j : Nat) : ∀ N, j < N → (∀ i, i < N → i ≠ j → f i = 0) → psum f N = f j
  | 0, h, _ => absurd h (by omega)
  | N + 1, h, hz => by
    show psum f N + f N = f j
    by_cases e : j = N
    · subst e
      rw [psum_low f j (fun i hi => hz i (by omega) (by omega))]; omega
    · rw [psum_at f j N (by omega) (fun i hi => hz i (by omega)), hz N (by omega) (by omega)]; omega
theorem psum_nil (f : Nat → Int) (N : Nat) (h : ∀ i, i < N → f i = 0) : psum f N = 0 := psum_low f N h
/-- the linear part of a law -/
structure Lin (F : Nat → Nat → Int) : Prop where
  zero : F 0 0 = 0
  x : F 1 0 = 1
  y : F 0 1 = 1
theorem pw2_low {F : Nat → Nat → Int} (h : Lin F) : ∀ n i j, i + j < n → pw2 F n i j = 0
  | 0, i, j, hij => absurd hij (by omega)
  | n + 1, i, j, hij => by
    show mul2 (pw2 F n) F i j = 0
    unfold mul2
    refine psum_nil _ _ (fun k hk => psum_nil _ _ (fun l hl => ?_))
    by_cases e : k + l < n
    · rw [pw2_low h n k l e, Int.zero_mul]
    · obtain rfl : k = i := by omega
      obtain rfl : l = j := by omega
      rw [Nat.sub_self, Nat.sub_self, h.zero, Int.mul_zero]
theorem pw2_lead {F : Nat → Nat → Int} (h : Lin F) : ∀ n i j, i + j = n → pw2 F n i j = ((Num.bin n i : Nat) : Int)
  | 0, i, j, hij => by
    obtain rfl : i = 0 := by omega
    obtain rfl : j = 0 := by omega
    rfl
  | n + 1, i, j, hij => by
    show mul2 (pw2 F n) F i j = _
    unfold mul2
    have hrow : ∀ k, k < i + 1 → psum (fun l => pw2 F n k l * F (i - k) (j - l)) (j + 1) = if k = i then (if 0 < j then ((Num.bin n i : Nat) : Int) else 0) else if k + 1 = i then ((Num.bin n k : Nat) : Int) else 0 := by
      intro k hk
      by_cases e : k = i
      · subst e
        rw [if_pos rfl]
        by_cases hj : 0 < j
        · rw [if_pos hj, psum_at _ (j - 1) _ (by omega) (fun l hl hne => ?_)]
          · rw [pw2_lead h n k (j - 1) (by omega), Nat.sub_self, show j - (j - 1) = 1 by omega, h.y, Int.mul_one]
          · by_cases e2 : k + l < n
            · rw [pw2_low h n k l e2, Int.zero_mul]
            · obtain rfl : l = j := by omega
              rw [Nat.sub_self, Nat.sub_self, h.zero, Int.mul_zero]
        · rw [if_neg hj]
          obtain rfl : j = 0 := by omega
          refine psum_nil _ _ (fun l hl => ?_)
          obtain rfl : l = 0 := by omega
          rw [Nat.sub_self, Nat.sub_self, h.zero, Int.mul_zero]
      · rw [if_neg e]
        by_cases e1 : k + 1 = i
        · rw [if_pos e1, psum_at _ j _ (by omega) (fun l hl hne => ?_)]
          · rw [pw2_lead h n k j (by omega), Nat.sub_self, show i - k = 1 by omega, h.x, Int.mul_one]
          · rw [pw2_low h n k l (by omega), Int.zero_mul]
        · rw [if_neg e1]
          exact psum_nil _ _ (fun l hl => by rw [pw2_low h n k l (by omega), Int.zero_mul])
    rw [psum_ext (i + 1) hrow]
    show psum _ i + _ = _
    dsimp only
    rw [if_pos rfl]
    cases i with
    | zero =>
      show (0 : Int) + _ = _
      rw [if_pos (by omega), Num.bin_zero, Num.bin_zero]; rfl
    | succ i =>
      rw [psum_at _ i _ (by omega) (fun k hk hne => by rw [if_neg (by omega), if_neg (by omega)]), if_neg (by omega), if_pos rfl]
      by_cases hj : 0 < j
      · rw [if_pos hj, Num.bin_succ]; omega
      · rw [if_neg hj]
        obtain rfl : j = 0 := by omega
        obtain rfl : n = i := by omega
        have := Num.bin_over n (n + 1) (by omega)
        rw [Num.bin_succ, this]; omega
theorem pw2_same {F G : Nat → Nat → Int} {d : Nat} (h : ∀ i j, i + j < d → F i j = G i j) : ∀ n i j, i + j < d → pw2 F n i j = pw2 G n i j
  | 0, _, _, _ => rfl
  | n + 1, i, j, hij => by
    show mul2 (pw2 F n) F i j = mul2 (pw2 G n) G i j
    unfold mul2
    exact psum_ext _ (fun k hk => psum_ext _ (fun l hl => by rw [pw2_same h n k l (by omega), h (i - k) (j - l) (by omega)]))
/-- the brackets of two laws that are equal below d -/
theorem gap_br {m : Int} {d : Nat} {F G : Nat → Nat → Int} (hF : Lin F) (hG : Lin G) (h : ∀ i j, i + j < d → F i j = G i j) (a b c : Nat) (hc : 0 < c) (habc : a + b + c = d) :
    brS m d G a b c - brS m d F a b c = (G (a + b) c - F (a + b) c) * (((Num.bin (a + b) a : Nat) : Int) % m) := by
  have hp : ∀ (H : Nat → Nat → Int) i, pc (pwT m d H i) a b = pw2 H i a b % m := fun H i => by rw [pwT_tab, pc_tab (by omega)]
  unfold brS
  rw [show d + 1 - c = a + b + 1 by omega]
  show psum _ (a + b) + _ - (psum _ (a + b) + _) = _
  rw [psum_ext (a + b) (f := fun i => G i c * pc (pwT m d G i) a b) (g := fun i => F i c * pc (pwT m d F i) a b) (fun i hi => by
    try dsimp only
    rw [hp, hp, pw2_same h i a b (by omega), h i c (by omega)])]
  dsimp only
  rw [hp, hp, pw2_lead hF _ _ _ rfl, pw2_lead hG _ _ _ rfl, Int.sub_mul]; omega
theorem fauT_none {m : Int} {d : Nat} {F : Nat → Nat → Int} (h : fauT m d F = none) (a b c : Nat) (habc : a + b + c ≤ d) : br m d F a b c = br m d F c b a := by
  have h1 := srch_none _ _ h a (by omega) (by omega)
  have h2 := srch_none _ _ h1 b (by omega) (by omega)
  have h3 := srch_none _ _ h2 c (by omega) (by omega)
  unfold fau2c at h3
  by_cases e : br m d F a b c = br m d F c b a
  · exact e
  · rw [if_neg e] at h3; cases h3
theorem bin_turn : ∀ n : Fin 11, ∀ k : Fin 11, k.val ≤ n.val → Num.bin n.val k.val = Num.bin n.val (n.val - k.val) := by decide +kernel
/-- the gap is a cocycle -/
theorem gap_coc {m : Int} {d : Nat} {F G : Nat → Nat → Int} (hd : d ≤ 10) (hF : Lin F) (hG : Lin G) (h : ∀ i j, i + j < d → F i j = G i j) (sF : Sym d F) (sG : Sym d G) (tF : fauT m d F = none) (tG : fauT m d G = none) (a b : Nat) (h0 : 0 < a) (h1 : 0 < b) (h2 : a + b < d) :
    (((Num.bin (a + b) a : Nat) : Int) * (G (a + b) (d - (a + b)) - F (a + b) (d - (a + b))) - ((Num.bin (d - a) b : Nat) : Int) * (G a (d - a) - F a (d - a))) % m = 0 := by
  obtain ⟨c, hc⟩ : ∃ c, c = d - (a + b) := ⟨_, rfl⟩
  have e1 := gap_br (m := m) hF hG h a b c (by omega) (by omega)
  have e2 := gap_br (m := m) hF hG h c b a (by omega) (by omega)
  have b1 := fauT_none tF a b c (by omega)
  have b2 := fauT_none tG a b c (by omega)
  unfold br at b1 b2
  have hcong : (brS m d G a b c - brS m d F a b c) % m = (brS m d G c b a - brS m d F c b a) % m := by
    rw [Int.sub_emod, b1, b2, ← Int.sub_emod]
  rw [e1, e2, Int.mul_emod, Int.emod_emod, ← Int.mul_emod, Int.mul_emod (G (c + b) a - F (c + b) a), Int.emod_emod, ← Int.mul_emod] at hcong
  have e3 : c + b = d - a := by omega
  have e4 := bin_turn ⟨d - a, by omega⟩ ⟨b, by omega⟩ (by show b ≤ d - a; omega)
  simp only [show d - a - b = c by omega] at e4
  rw [e3, sF (d - a) a (by omega), sG (d - a) a (by omega), ← e4] at hcong
  rw [← hc]
  rw [Int.mul_comm _ (G (a + b) c - F (a + b) c), Int.mul_comm _ (G a (d - a) - F a (d - a)), Int.sub_emod, hcong, ← Int.sub_emod, Int.sub_self]; rfl
end Pl
end Go.Proofs.Ytfhdgcndiljjcab

/- Contracts of the program's look for faults of one variable and of symmetry. -/
namespace Go.Proofs.Ytfhdgcndiljjcab
open Go.RowKit Go.WideShapes Go.ChangeShapes Go.ChangeAt

theorem OwnI.lit2 (w : World) (x y : Int) : OwnI (w.alloc (.cells #[.int .i64 x, .int .i64 y] 2)) w.heap.size (.slice (some ⟨w.heap.size, 0, none⟩) 2 2) [x, y] :=
  ⟨rfl, .inr ⟨w.heap.size, 2, #[.int .i64 x, .int .i64 y], rfl, Nat.le_refl _, heap_alloc_new w _, Nat.le_refl _, by unfold maxLen; omega, rfl, rfl⟩⟩
theorem OwnI.lit3 (w : World) (x y z : Int) : OwnI (w.alloc (.cells #[.int .i64 x, .int .i64 y, .int .i64 z] 2)) w.heap.size (.slice (some ⟨w.heap.size, 0, none⟩) 3 3) [x, y, z] :=
  ⟨rfl, .inr ⟨w.heap.size, 3, #[.int .i64 x, .int .i64 y, .int .i64 z], rfl, Nat.le_refl _, heap_alloc_new w _, Nat.le_refl _, by unfold maxLen; omega, rfl, rfl⟩⟩
theorem OwnI.lit4 (w : World) (x y z u : Int) : OwnI (w.alloc (.cells #[.int .i64 x, .int .i64 y, .int .i64 z, .int .i64 u] 2)) w.heap.size (.slice (some ⟨w.heap.size, 0, none⟩) 4 4) [x, y, z, u] :=
  ⟨rfl, .inr ⟨w.heap.size, 4, #[.int .i64 x, .int .i64 y, .int .i64 z, .int .i64 u], rfl, Nat.le_refl _, heap_alloc_new w _, Nat.le_refl _, by unfold maxLen; omega, rfl, rfl⟩⟩
/-- a fault's list, or no list -/
def FauV (w : World) (base : Nat) (v : Value) : Option (List Int) → Prop
  | none => v = .slice none 0 0
  | some x => ∃ b c, v = .slice (some b) x.length c ∧ OwnI w base (.slice (some b) x.length c) x
namespace Pl
theorem fau0_go {F : Nat → Nat → Int} {d k : Nat} {o : Option (List Int)} (hk : k < d + 1) (h : srch (fau0 F) (d + 1 - k) k = o) (hx : F k 0 = want k) : srch (fau0 F) (d + 1 - (k + 1)) (k + 1) = o := by
  rw [show d + 1 - k = (d + 1 - (k + 1)) + 1 by omega, srch_step] at h
  unfold fau0 at h
  rw [if_pos hx, orE_none] at h
  exact h
theorem fau0_no {F : Nat → Nat → Int} {d k : Nat} {o : Option (List Int)} (hk : k < d + 1) (h : srch (fau0 F) (d + 1 - k) k = o) (hx : ¬ F k 0 = want k) : o = some [0, (k : Int)] := by
  rw [show d + 1 - k = (d + 1 - (k + 1)) + 1 by omega, srch_step] at h
  unfold fau0 at h
  rw [if_neg hx, orE_some] at h
  exact h.symm
end Pl
end Go.Proofs.Ytfhdgcndiljjcab

/- Contracts of comparing: two lists of integers, two grids. -/
namespace Go.Proofs.Ytfhdgcndiljjcab
open Go.RowKit Go.WideShapes Go.ChangeShapes Go.ChangeAt

theorem list_ne {l l' : List Int} (j : Nat) (h : ¬ Ser.co l j = Ser.co l' j) : decide (l = l') = false := decide_eq_false (fun e => h (by rw [e]))
theorem list_same {l l' : List Int} (hl : l.length = l'.length) (h : ∀ j, j < l.length → Ser.co l j = Ser.co l' j) : decide (l = l') = true :=
  decide_eq_true (Ser.list_ext hl (fun i hi => h i hi))
theorem rows_same {m : Int} {d : Nat} {t u : List (List Int)} (hs : Pl.Ok m d t) (hs' : Pl.Ok m d u) (h : ∀ k, k ≤ d → Pl.rw' t k = Pl.rw' u k) : decide (t = u) = true := by
  refine decide_eq_true (List.ext_getElem (by rw [hs.len, hs'.len]) (fun i h1 h2 => ?_))
  have := h i (by have := hs.len; omega)
  unfold Pl.rw' at this
  rw [List.getElem?_eq_getElem h1, List.getElem?_eq_getElem h2] at this
  exact this
theorem rows_ne {t u : List (List Int)} (k : Nat) (h : ¬ Pl.rw' t k = Pl.rw' u k) : decide (t = u) = false := decide_eq_false (fun e => h (by rw [e]))
theorem GBox.num' {W : World} {g : Nat} {m : Int} {d b off c L : Nat} {t : List (List Int)} (hb : GBox W g m d (some ⟨b, off, none⟩) L c) (hL : t.length = L) (hs : Pl.Ok m d t) (hr : RP W (some ⟨b, off, none⟩) t) (i j : Nat) (hij : i + j ≤ d) :
    ∃ b' off' c' N, N = d - i + 1 ∧ W.cell? ⟨g, 2, none⟩ = some (.slice (some ⟨b, off, none⟩) L c) ∧ W.cell? ⟨b, off + i, none⟩ = some (.slice (some ⟨b', off', none⟩) N c') ∧ W.cell? ⟨b', off' + j, none⟩ = some (.int .i64 (Pl.pc t i j)) := by
  subst hL
  obtain ⟨_, _, x2, _⟩ := hb
  obtain ⟨b0, off0, b', off', c', e, -, k1, -, k2⟩ := hr.num i j (by rw [hs.len]; omega) (by rw [hs.row i (by omega)]; omega)
  injection e with e
  injection e with e1 e2
  subst e1 e2
  exact ⟨b', off', c', _, hs.row i (by omega), x2, k1, k2⟩
end Go.Proofs.Ytfhdgcndiljjcab

/- Lists of tables of a call's own: slices of slices of slices, and slices of grids; appending to them and reading them. -/
namespace Go.Proofs.Ytfhdgcndiljjcab
open Go.RowKit Go.WideShapes Go.ChangeShapes Go.ChangeAt

theorem flat_len (pre : List Value) : ∀ us : List Value, (us.flatMap fun u => pre ++ [u]).length = us.length * (pre.length + 1) := by
  intro us
  induction us with
  | nil => simp
  | cons x xs ih => rw [List.flatMap_cons, List.length_append, ih, List.length_cons, Nat.succ_mul]; simp; omega
theorem flat_get (pre : List Value) : ∀ (us : List Value) (i j : Nat) (u : Value), us[i]? = some u → j ≤ pre.length → (us.flatMap fun u => pre ++ [u])[i * (pre.length + 1) + j]? = (pre ++ [u])[j]? := by
  intro us
  induction us with
  | nil => intro i j u h; simp at h
  | cons x xs ih =>
    intro i j u h hj
    rw [List.flatMap_cons]
    rcases i with _ | i
    · simp at h
      subst h
      rw [Nat.zero_mul, Nat.zero_add, List.getElem?_append_left (by simp; omega)]
    · have h' : xs[i]? = some u := by simpa using h
      rw [Nat.succ_mul, List.getElem?_append_right (by simp; omega)]
      have e : i * (pre.length + 1) + (pre.length + 1) + j - (pre ++ [x]).length = i * (pre.length + 1) + j := by simp; omega
      rw [e]
      exact ih i j u h' hj
/-- v is a slice of the call's own, from block lo on, of elements of type e: the cells pre, then a table of the call's own -/
def OwnT (pre : List Value) (e : TypeId) (w : World) (lo : Nat) (v : Value) (ts : List (List (List Int))) : Prop :=
  ∃ us : List Value, us.length = ts.length ∧ w.ownsRow lo e (pre.length + 1) v ts.length (us.flatMap fun u => pre ++ [u]) ∧
    ∀ (i : Nat) (t : List (List Int)), ts[i]? = some t → ∃ u : Value, us[i]? = some u ∧ ∃ hi, hi ≤ w.heap.size ∧ OwnR w lo hi u t
theorem OwnT.keep {pre : List Value} {e : TypeId} {w w' : World} {lo : Nat} {v : Value} {ts : List (List (List Int))} (h : OwnT pre e w lo v ts) (hb : Below w.heap.size w w') : OwnT pre e w' lo v ts := by
  obtain ⟨us, h0, h1, h2⟩ := h
  refine ⟨us, h0, ⟨h1.1, ?_⟩, fun i t ht => ?_⟩
  · rcases h1.2 with hn | ⟨g, cap, cur, rfl, hg, hh, rest⟩
    · exact .inl hn
    · exact .inr ⟨g, cap, cur, rfl, hg, (hb.block g (Array.getElem?_eq_some_iff.1 hh).1).trans hh, rest⟩
  · obtain ⟨u, a1, hi, a2, a3⟩ := h2 i t ht
    exact ⟨u, a1, hi, Nat.le_trans a2 hb.size, a3.keep (hb.mono a2)⟩
theorem OwnT.at {pre : List Value} {e : TypeId} {w : World} {lo : Nat} {v : Value} {ts : List (List (List Int))} (h : OwnT pre e w lo v ts) (i : Nat) (hi : i < ts.length) :
    ∃ g c A' c', v = .slice (some ⟨g, 0, none⟩) ts.length c ∧ g < w.heap.size ∧ lo ≤ g ∧ w.cell? ⟨g, i * (pre.length + 1) + pre.length, none⟩ = some (.slice A' (ts[i]?.getD []).length c') ∧ RP w A' (ts[i]?.getD []) ∧
      ∀ (j : Nat) (x : Value), pre[j]? = some x → w.cell? ⟨g, i * (pre.length + 1) + j, none⟩ = some x := by
  obtain ⟨us, h0, h1, h2⟩ := h
  have ht : ts[i]? = some (ts[i]?.getD []) := by rw [List.getElem?_eq_getElem hi]; rfl
  obtain ⟨u, a1, hi', a2, a3⟩ := h2 i _ ht
  obtain ⟨A', c', rfl, hr⟩ := a3.len
  rcases h1.2 with ⟨rfl, hz⟩ | ⟨g, cap, cur, rfl, hg, hh, rest⟩
  · omega
  · refine ⟨g, cap, A', c', rfl, (Array.getElem?_eq_some_iff.1 hh).1, hg, ?_, hr, fun j x hj => ?_⟩
    · have hc := World.ownsRow.cells h1 (g := g) rfl (i * (pre.length + 1) + pre.length) (.slice A' (ts[i]?.getD []).length c') (by rw [flat_get pre us i pre.length _ a1 (Nat.le_refl _)]; simp)
      rwa [add_plain, Nat.zero_add] at hc
    · have hjl : j < pre.length := (List.getElem?_eq_some_iff.1 hj).1
      have hc := World.ownsRow.cells h1 (g := g) rfl (i * (pre.length + 1) + j) x (by rw [flat_get pre us i j _ a1 (by omega), List.getElem?_append_left hjl]; exact hj)
      rwa [add_plain, Nat.zero_add] at hc
theorem OwnT.form {pre : List Value} {e : TypeId} {w : World} {lo : Nat} {v : Value} {ts : List (List (List Int))} (h : OwnT pre e w lo v ts) : ∃ A c, v = .slice A ts.length c := by
  obtain ⟨us, h0, h1, h2⟩ := h
  rcases h1.2 with ⟨rfl, hz⟩ | ⟨g, cap, cur, rfl, hg, hh, rest⟩
  · exact ⟨none, 0, by rw [hz]⟩
  · exact ⟨_, _, rfl⟩
/-- rows lie in other blocks than slices of other types -/
theorem neT {w : World} {e : TypeId} {size lo lo' n : Nat} {v u : Value} {vs : List Value} {l : List Int} (he : e ≠ 2) (hv : w.ownsRow lo e size v n vs) (hu : OwnI w lo' u l) : u.ownBlock = none ∨ u.ownBlock ≠ v.ownBlock := by
  unfold OwnI at hu
  rcases hu.2 with ⟨rfl, _⟩ | ⟨g, cap, cur, rfl, _, hg, _⟩
  · exact .inl rfl
  · rcases hv.2 with ⟨rfl, _⟩ | ⟨g', cap', cur', rfl, _, hg', _⟩
    · exact .inr (by simp [Value.ownBlock])
    · refine .inr fun e0 => ?_
      obtain rfl : g = g' := by simpa [Value.ownBlock] using e0
      rw [hg] at hg'
      injection hg' with e1
      injection e1 with _ e2
      exact he e2.symm
theorem OwnR.otherT {w w' : World} {e : TypeId} {size lo0 n lo hi : Nat} {v u : Value} {vs : List Value} {t : List (List Int)} (he : e ≠ 2) (he2 : e ≠ 22) (hv : w.ownsRow lo0 e size v n vs) (hu : OwnR w lo hi u t) (hg : w.grownBy w' v.ownBlock) : OwnR w' lo hi u t := by
  obtain ⟨us, h1, h2, h3, h4⟩ := hu
  refine ⟨us, ⟨h1.1, ?_⟩, h2, fun i r hr => ?_, h4⟩
  · rcases h1.2 with hn | ⟨g, cap, cur, rfl, hgg, hh, rest⟩
    · exact .inl hn
    · refine .inr ⟨g, cap, cur, rfl, hgg, (hg.block g (Array.getElem?_eq_some_iff.1 hh).1 ?_).trans hh, rest⟩
      rcases hv.2 with ⟨rfl, _⟩ | ⟨g', cap', cur', rfl, _, hg', _⟩
      · simp [Value.ownBlock]
      · intro e0
        obtain rfl : g = g' := by simpa [Value.ownBlock] using e0
        rw [hh] at hg'
        injection hg' with e1
        injection e1 with _ e2
        exact he2 e2.symm
  · obtain ⟨x, a, b, c⟩ := h3 i r hr
    exact ⟨x, a, b.other hg (neT he hv b), c⟩
/-- an append leaves a longer list -/
theorem OwnT.pushed {pre : List Value} {e : TypeId} {w w' : World} {lo hi : Nat} {v v' u : Value} {ts : List (List (List Int))} {t : List (List Int)} {us : List Value} (he : e ≠ 2) (he2 : e ≠ 22)
    (h0 : us.length = ts.length) (h1 : w.ownsRow lo e (pre.length + 1) v ts.length (us.flatMap fun u => pre ++ [u]))
    (h2 : ∀ (i : Nat) (t : List (List Int)), ts[i]? = some t → ∃ u : Value, us[i]? = some u ∧ ∃ hi, hi ≤ w.heap.size ∧ OwnR w lo hi u t)
    (hu : OwnR w lo hi u t) (hhi : hi ≤ w.heap.size)
    (g1 : w'.ownsRow lo e (pre.length + 1) v' (ts.length + 1) ((us.flatMap fun u => pre ++ [u]) ++ (pre ++ [u]))) (g2 : w.grownBy w' v.ownBlock) : OwnT pre e w' lo v' (ts ++ [t]) := by
  refine ⟨us ++ [u], by simp [h0], ?_, fun i t' ht => ?_⟩
  · rw [List.flatMap_append, List.length_append]
    simpa using g1
  · by_cases hi' : i < ts.length
    · rw [List.getElem?_append_left hi'] at ht
      obtain ⟨u', a1, hi2, a2, a3⟩ := h2 i t' ht
      exact ⟨u', by rw [List.getElem?_append_left (by omega)]; exact a1, hi2, Nat.le_trans a2 g2.size, a3.otherT he he2 h1 g2⟩
    · rw [List.getElem?_append_right (by omega)] at ht
      have hi3 : i = ts.length := by
        rcases Nat.eq_or_lt_of_le (Nat.le_of_not_lt hi') with e0 | e0
        · exact e0.symm
        · rw [show i - ts.length = (i - ts.length - 1) + 1 by omega] at ht; simp at ht
      subst hi3
      rw [Nat.sub_self] at ht
      simp at ht
      subst ht
      exact ⟨u, by rw [← h0, List.getElem?_append_right (Nat.le_refl _), Nat.sub_self]; rfl, hi, Nat.le_trans hhi g2.size, hu.otherT he he2 h1 g2⟩
/-- appending a table's element at a step of a region that draws its order: its cells lie in block g -/
theorem step_pushT {pre : List Value} {e : TypeId} {ops : Array Oper} {o : Oper} {a : Act} {K : Act → World → Prop} {Q : Exit → Act → World → Prop} {E : Prop} {w : World} (s x : Operand) (t : TypeId)
    (hgd : o.guard = none) (ho : o.op = .call { callee := .builtin .append, args := #[s, x], argTypes := #[t, t] })
    (ht : Try.prog.underlying t = some (.slice e)) (he : e ≠ 2) (he2 : e ≠ 22) (z : Value) (bytes : Nat)
    (hinfo : (Try.prog.info? e).map (fun i => (i.zero, i.size, i.bytes)) = some (some z, pre.length + 1, bytes)) (hzc : z.cells.size = pre.length + 1) (hby : bytes ≤ 100) (hone : ∀ y, y ∈ pre → y.oneCell' = true)
    (lo hi : Nat) (v : Value) (ts : List (List (List Int))) (hs : a.eval s = v) (hown : OwnT pre e w lo v ts)
    (u : Value) (r : List (List Int)) (hu : OwnR w lo hi u r) (hhi : hi ≤ w.heap.size) (g : Nat) (hx : a.eval x = .slice (some ⟨g, 0, none⟩) 1 1) (hy : ∀ j y, (pre ++ [u])[j]? = some y → w.cell? ⟨g, j, none⟩ = some y) (hlen : ts.length ≤ 1000000) (hlo : lo ≤ w.heap.size)
    (h : ∀ v' w', OwnT pre e w' lo v' (ts ++ [r]) → Below lo w w' → K (a.put o.dst v') w') :
    if Region.wanted o (yielded ops a.tmps) = true then Oper.wp Try.prog o a w K Q else E := by
  have hw : Region.wanted o (yielded ops a.tmps) = true := by simp [Region.wanted, hgd]
  rw [if_pos hw]
  obtain ⟨i0, hi0, hz0, hz1, hz2⟩ := info_parts hinfo
  obtain ⟨us, h0, h1, h2⟩ := hown
  obtain ⟨Au, cu, hue, -⟩ := hu.len
  refine wp_append_own _ s x t ho lo e i0 z (pre.length + 1) bytes ht hi0 hz0 hz1 hz2 hzc (by omega) v ts.length (us.flatMap fun u => pre ++ [u]) hs h1
    ⟨g, 0, none⟩ 1 1 (pre ++ [u]) hx (by simp) ?_ ?_ ?_ ?_ hlo ?_
  · intro j y hj
    rw [add_plain, Nat.zero_add]
    exact hy j y hj
  · intro y hy'
    rcases List.mem_append.1 hy' with hm | hm
    · exact hone y hm
    · simp at hm; subst hm; rw [hue]; rfl
  · unfold maxLen; omega
  · have : (ts.length + 1) * bytes ≤ 1000001 * 100 := Nat.mul_le_mul (by omega) hby
    omega
  · intro v' w' g1 g2 _
    exact h v' w' (OwnT.pushed he he2 h0 h1 h2 hu hhi g1 g2) ((Below.refl lo w).grown g2 hlo (fun k hk => (World.ownsRow.lt h1 k hk).1))
/-- a list of one table, whose cells have just been laid -/
theorem OwnT.one {w : World} (pre : List Value) (e : TypeId) {lo hi : Nat} {u : Value} {t : List (List Int)} (hlo : lo ≤ w.heap.size) (hu : OwnR w lo hi u t) (hhi : hi ≤ w.heap.size) :
    OwnT pre e (w.alloc (.cells (pre ++ [u]).toArray e)) lo (.slice (some ⟨w.heap.size, 0, none⟩) 1 1) [t] := by
  refine ⟨[u], rfl, ⟨by simp, .inr ⟨w.heap.size, 1, (pre ++ [u]).toArray, rfl, hlo, heap_alloc_new w _, Nat.le_refl _, by unfold maxLen; omega, by simp, by simp; exact List.take_of_length_le (by simp)⟩⟩, fun i t' ht => ?_⟩
  match i, ht with
  | 0, ht =>
    simp at ht
    subst ht
    exact ⟨u, rfl, hi, by simp; omega, hu.keep ((below_one w _).mono hhi)⟩
theorem OwnT.nil {w : World} (pre : List Value) (e : TypeId) (lo : Nat) : OwnT pre e w lo (.slice none 0 0) [] := ⟨[], rfl, World.ownsRow_nil _ _ _ _, fun i t ht => by simp at ht⟩
theorem OwnT.more {pre : List Value} {e : TypeId} {w : World} {lo lo' : Nat} {v : Value} {ts : List (List (List Int))} (h : OwnT pre e w lo v ts) (hl : lo' ≤ lo) : OwnT pre e w lo' v ts := by
  obtain ⟨us, h0, h1, h2⟩ := h
  refine ⟨us, h0, ⟨h1.1, ?_⟩, fun i t ht => ?_⟩
  · rcases h1.2 with hn | ⟨g, cap, cur, hv, hg, hh, rest⟩
    · exact .inl hn
    · exact .inr ⟨g, cap, cur, hv, Nat.le_trans hl hg, hh, rest⟩
  · obtain ⟨u, a1, hi, a2, a3⟩ := h2 i t ht
    exact ⟨u, a1, hi, a2, a3.low hl⟩
/-- the same in a walk -/
theorem wp_pushT {pre : List Value} {e : TypeId} {ops : Array Oper} {rest : List Oper} {o : Oper} {a : Act} {Q : Exit → Act → World → Prop} {w : World} (s x : Operand) (t : TypeId)
    (hgd : o.guard = none) (ho : o.op = .call { callee := .builtin .append, args := #[s, x], argTypes := #[t, t] })
    (ht : Try.prog.underlying t = some (.slice e)) (he : e ≠ 2) (he2 : e ≠ 22) (z : Value) (bytes : Nat)
    (hinfo : (Try.prog.info? e).map (fun i => (i.zero, i.size, i.bytes)) = some (some z, pre.length + 1, bytes)) (hzc : z.cells.size = pre.length + 1) (hby : bytes ≤ 100) (hone : ∀ y, y ∈ pre → y.oneCell' = true)
    (lo hi : Nat) (v : Value) (ts : List (List (List Int))) (hs : a.eval s = v) (hown : OwnT pre e w lo v ts)
    (u : Value) (r : List (List Int)) (hu : OwnR w lo hi u r) (hhi : hi ≤ w.heap.size) (g : Nat) (hx : a.eval x = .slice (some ⟨g, 0, none⟩) 1 1) (hy : ∀ j y, (pre ++ [u])[j]? = some y → w.cell? ⟨g, j, none⟩ = some y) (hlen : ts.length ≤ 1000000) (hlo : lo ≤ w.heap.size)
    (h : ∀ v' w', OwnT pre e w' lo v' (ts ++ [r]) → Below lo w w' → wpList Try.prog ops Q rest (a.put o.dst v') w') :
    wpList Try.prog ops Q (o :: rest) a w := by
  obtain ⟨i0, hi0, hz0, hz1, hz2⟩ := info_parts hinfo
  obtain ⟨us, h0, h1, h2⟩ := hown
  obtain ⟨Au, cu, hue, -⟩ := hu.len
  refine wpList_append_own _ hgd s x t ho lo e i0 z (pre.length + 1) bytes ht hi0 hz0 hz1 hz2 hzc (by omega) v ts.length (us.flatMap fun u => pre ++ [u]) hs h1
    ⟨g, 0, none⟩ 1 1 (pre ++ [u]) hx (by simp) ?_ ?_ ?_ ?_ hlo ?_
  · intro j y hj
    rw [add_plain, Nat.zero_add]
    exact hy j y hj
  · intro y hy'
    rcases List.mem_append.1 hy' with hm | hm
    · exact hone y hm
    · simp at hm; subst hm; rw [hue]; rfl
  · unfold maxLen; omega
  · have : (ts.length + 1) * bytes ≤ 1000001 * 100 := Nat.mul_le_mul (by omega) hby
    omega
  · intro v' w' g1 g2 _
    exact h v' w' (OwnT.pushed he he2 h0 h1 h2 hu hhi g1 g2) ((Below.refl lo w).grown g2 hlo (fun k hk => (World.ownsRow.lt h1 k hk).1))
/-- cells just laid -/
theorem laid (w : World) (vs : List Value) (T : TypeId) : ∀ j y, vs[j]? = some y → (w.alloc (.cells vs.toArray T)).cell? ⟨w.heap.size, j, none⟩ = some y := by
  intro j y hj
  rw [World.cell?_alloc_at _ _ _ _ rfl]
  simpa using hj
/-- an append to an own slice leaves the cells that the slice had as they were, wherever the new slice lies -/
theorem append_keeps {P : Program} {w w' : World} {base : Nat} {t ty e : TypeId} {i : TypeInfo} {z : Value} {size bytes : Nat} (ht : P.underlying t = some (.slice e)) (hi : P.info? e = some i) (hz : i.zero = some z)
    (hsize : i.size = size) (hby : i.bytes = bytes) {g n cap : Nat} {xs : List Value} (hown : w.ownsRow base e size (.slice (some ⟨g, 0, none⟩) n cap) n xs)
    {a : Addr} {c : Nat} {news : List Value} (hl : news.length = 1 * size) (hnews : ∀ j u, news[j]? = some u → w.cell? (a.add j) = some u) (h1 : ∀ u ∈ news, u.oneCell' = true)
    (h63 : n + 1 ≤ maxLen) (hbytes : (n + 1) * bytes ≤ 140737488355328) {v' : Value} (hr : (Builtin.append_ #[t, t] ty #[.slice (some ⟨g, 0, none⟩) n cap, .slice (some a) 1 c]).run P w = .ok v' w') :
    ∀ j, j < n * size → w'.cell? ⟨g, j, none⟩ = w.cell? ⟨g, j, none⟩ := by
  intro j hj
  subst hsize
  subst hby
  rcases hown.2 with ⟨e0, _⟩ | ⟨g', cap', cur, e0, -, hg, hnc, hcm, hcs, htake⟩
  · cases e0
  · injection e0 with e1 e2 e3
    injection e1 with e1
    injection e1 with e1
    subst e1 e3
    have hsmall : n + 1 ≤ 9223372036854775807 := by simp only [maxLen] at h63; omega
    by_cases hroom : n + 1 ≤ cap
    · have hfit : n * i.size + news.length ≤ cur.size := by rw [hl, hcs, ← Nat.add_mul]; exact Nat.mul_le_mul_right _ hroom
      have hr2 := run_append_room (P := P) w t ty e i ht hi g n cap cur hg a 1 c news hl hnews h1 hroom hfit
      rw [hr2] at hr
      injection hr with _ hw
      rw [← hw, cell_setRow_same w g j cur _ e _ hg]
      have hjc : j < cur.size := by omega
      simp only [World.cell?, hg, List.getElem?_toArray]
      rw [List.append_assoc, List.getElem?_append_left (by simp; omega), List.getElem?_take, if_pos hj]
      simp
    · have holds : ∀ j u, xs[j]? = some u → w.cell? ((⟨g, 0, none⟩ : Addr).add j) = some u := hown.cells (g := g) rfl
      have hr2 := run_append_grow (P := P) w t ty e i z ht hi hz ⟨g, 0, none⟩ n cap xs hown.1 holds a 1 c news hl hnews (by omega) (by omega) (growslice_fits (by omega) hbytes)
      rw [hr2] at hr
      injection hr with _ hw
      have hlt : g < w.heap.size := (Array.getElem?_eq_some_iff.1 hg).1
      rw [← hw]
      exact World.cell?_of_block (a := ⟨g, j, none⟩) (heap_alloc_old w.drew _ hlt)
/-- step_pushT, told also that the old elements lie where they lay -/
theorem step_pushK {pre : List Value} {e : TypeId} {ops : Array Oper} {o : Oper} {a : Act} {K : Act → World → Prop} {Q : Exit → Act → World → Prop} {E : Prop} {w : World} (s x : Operand) (t : TypeId)
    (hgd : o.guard = none) (ho : o.op = .call { callee := .builtin .append, args := #[s, x], argTypes := #[t, t] })
    (ht : Try.prog.underlying t = some (.slice e)) (he : e ≠ 2) (he2 : e ≠ 22) (z : Value) (bytes : Nat)
    (hinfo : (Try.prog.info? e).map (fun i => (i.zero, i.size, i.bytes)) = some (some z, pre.length + 1, bytes)) (hzc : z.cells.size = pre.length + 1) (hby : bytes ≤ 100) (hone : ∀ y, y ∈ pre → y.oneCell' = true)
    (lo hi : Nat) (G N C : Nat) (ts : List (List (List Int))) (hs : a.eval s = .slice (some ⟨G, 0, none⟩) N C) (hN : ts.length = N) (hown : OwnT pre e w lo (.slice (some ⟨G, 0, none⟩) N C) ts)
    (u : Value) (r : List (List Int)) (hu : OwnR w lo hi u r) (hhi : hi ≤ w.heap.size) (g : Nat) (hx : a.eval x = .slice (some ⟨g, 0, none⟩) 1 1) (hy : ∀ j y, (pre ++ [u])[j]? = some y → w.cell? ⟨g, j, none⟩ = some y) (hlen : ts.length ≤ 1000000) (hlo : lo ≤ w.heap.size)
    (h : ∀ v' w', OwnT pre e w' lo v' (ts ++ [r]) → Below lo w w' → (∀ j, j < N * (pre.length + 1) → w'.cell? ⟨G, j, none⟩ = w.cell? ⟨G, j, none⟩) → K (a.put o.dst v') w') :
    if Region.wanted o (yielded ops a.tmps) = true then Oper.wp Try.prog o a w K Q else E := by
  have hw : Region.wanted o (yielded ops a.tmps) = true := by simp [Region.wanted, hgd]
  rw [if_pos hw]
  subst hN
  obtain ⟨i0, hi0, hz0, hz1, hz2⟩ := info_parts hinfo
  obtain ⟨us, h0, h1, h2⟩ := hown
  obtain ⟨Au, cu, hue, -⟩ := hu.len
  have c1 : ∀ j y, (pre ++ [u])[j]? = some y → w.cell? ((⟨g, 0, none⟩ : Addr).add j) = some y := by
    intro j y hj
    rw [add_plain, Nat.zero_add]
    exact hy j y hj
  have c2 : ∀ y ∈ pre ++ [u], y.oneCell' = true := by
    intro y hy'
    rcases List.mem_append.1 hy' with hm | hm
    · exact hone y hm
    · simp at hm; subst hm; rw [hue]; rfl
  have c3 : (ts.length + 1) * bytes ≤ 140737488355328 := by
    have : (ts.length + 1) * bytes ≤ 1000001 * 100 := Nat.mul_le_mul (by omega) hby
    omega
  have c4 : ts.length + 1 ≤ maxLen := by unfold maxLen; omega
  obtain ⟨v', w', hr, g1, g2, -⟩ := run_append_own (P := Try.prog) w lo t o.type e i0 z (pre.length + 1) bytes ht hi0 hz0 hz1 hz2 hzc (by omega) (.slice (some ⟨G, 0, none⟩) ts.length C) ts.length (us.flatMap fun u => pre ++ [u]) h1 ⟨g, 0, none⟩ 1 1 (pre ++ [u]) (by simp) c1 c2 c4 c3 hlo
  have hk := append_keeps ht hi0 hz0 hz1 hz2 h1 (by simp) c1 c2 c4 c3 hr
  unfold Oper.wp execOp
  simp only [ho, resolve, invoke, builtin, Sem.run_bind, Sem.run_pure, Result.andThen_ok, List.map_toArray, List.map_cons, List.map_nil, hs, hx, hr]
  exact h v' w' (OwnT.pushed he he2 h0 h1 h2 hu hhi g1 g2) ((Below.refl lo w).grown g2 hlo (fun k hk => (World.ownsRow.lt h1 k hk).1)) hk
/-- another list of tables is left alone by an append -/
theorem OwnT.other {pre : List Value} {e : TypeId} {w w' : World} {lo lo0 size n : Nat} {v u : Value} {vs : List Value} {ts : List (List (List Int))} (he : e ≠ 2) (he2 : e ≠ 22) (hv : w.ownsRow lo0 e size v n vs) (hu : OwnT pre e w lo u ts) (hg : w.grownBy w' v.ownBlock) (hne : u.ownBlock = none ∨ u.ownBlock ≠ v.ownBlock) : OwnT pre e w' lo u ts := by
  obtain ⟨us, h0, h1, h2⟩ := hu
  refine ⟨us, h0, ⟨h1.1, ?_⟩, fun i t ht => ?_⟩
  · rcases h1.2 with hn | ⟨g, cap, cur, rfl, hgg, hh, rest⟩
    · exact .inl hn
    · refine .inr ⟨g, cap, cur, rfl, hgg, (hg.block g (Array.getElem?_eq_some_iff.1 hh).1 ?_).trans hh, rest⟩
      rcases hne with h | h
      · simp [Value.ownBlock] at h
      · exact h
  · obtain ⟨x, a1, hi, a2, a3⟩ := h2 i t ht
    exact ⟨x, a1, hi, Nat.le_trans a2 hg.size, a3.otherT he he2 hv hg⟩
theorem OwnT.lt {pre : List Value} {e : TypeId} {w : World} {lo : Nat} {v : Value} {ts : List (List (List Int))} (h : OwnT pre e w lo v ts) : ∀ g, v.ownBlock = some g → lo ≤ g ∧ g < w.heap.size := by
  obtain ⟨us, h0, h1, h2⟩ := h
  exact fun g hg => World.ownsRow.lt h1 g hg
/-- step_pushT, told also that other lists are left alone, and that the new slice lies in the old one's block or in a new one -/
theorem step_pushD {pre : List Value} {e : TypeId} {ops : Array Oper} {o : Oper} {a : Act} {K : Act → World → Prop} {Q : Exit → Act → World → Prop} {E : Prop} {w : World} (s x : Operand) (t : TypeId)
    (hgd : o.guard = none) (ho : o.op = .call { callee := .builtin .append, args := #[s, x], argTypes := #[t, t] })
    (ht : Try.prog.underlying t = some (.slice e)) (he : e ≠ 2) (he2 : e ≠ 22) (z : Value) (bytes : Nat)
    (hinfo : (Try.prog.info? e).map (fun i => (i.zero, i.size, i.bytes)) = some (some z, pre.length + 1, bytes)) (hzc : z.cells.size = pre.length + 1) (hby : bytes ≤ 100) (hone : ∀ y, y ∈ pre → y.oneCell' = true)
    (lo hi : Nat) (v : Value) (ts : List (List (List Int))) (hs : a.eval s = v) (hown : OwnT pre e w lo v ts)
    (u : Value) (r : List (List Int)) (hu : OwnR w lo hi u r) (hhi : hi ≤ w.heap.size) (g : Nat) (hx : a.eval x = .slice (some ⟨g, 0, none⟩) 1 1) (hy : ∀ j y, (pre ++ [u])[j]? = some y → w.cell? ⟨g, j, none⟩ = some y) (hlen : ts.length ≤ 1000000) (hlo : lo ≤ w.heap.size)
    (h : ∀ v' w', OwnT pre e w' lo v' (ts ++ [r]) → Below lo w w' → (∀ u' ts', OwnT pre e w lo u' ts' → (u'.ownBlock = none ∨ u'.ownBlock ≠ v.ownBlock) → OwnT pre e w' lo u' ts' ∧ (u'.ownBlock = none ∨ u'.ownBlock ≠ v'.ownBlock)) → K (a.put o.dst v') w') :
    if Region.wanted o (yielded ops a.tmps) = true then Oper.wp Try.prog o a w K Q else E := by
  have hw : Region.wanted o (yielded ops a.tmps) = true := by simp [Region.wanted, hgd]
  rw [if_pos hw]
  obtain ⟨i0, hi0, hz0, hz1, hz2⟩ := info_parts hinfo
  obtain ⟨us, h0, h1, h2⟩ := hown
  obtain ⟨Au, cu, hue, -⟩ := hu.len
  have c1 : ∀ j y, (pre ++ [u])[j]? = some y → w.cell? ((⟨g, 0, none⟩ : Addr).add j) = some y := by
    intro j y hj
    rw [add_plain, Nat.zero_add]
    exact hy j y hj
  have c2 : ∀ y ∈ pre ++ [u], y.oneCell' = true := by
    intro y hy'
    rcases List.mem_append.1 hy' with hm | hm
    · exact hone y hm
    · simp at hm; subst hm; rw [hue]; rfl
  have c3 : (ts.length + 1) * bytes ≤ 140737488355328 := by
    have : (ts.length + 1) * bytes ≤ 1000001 * 100 := Nat.mul_le_mul (by omega) hby
    omega
  have c4 : ts.length + 1 ≤ maxLen := by unfold maxLen; omega
  obtain ⟨v', w', hr, g1, g2, -, g3⟩ := run_append_own_at (P := Try.prog) w lo t o.type e i0 z (pre.length + 1) bytes ht hi0 hz0 hz1 hz2 hzc (by omega) v ts.length (us.flatMap fun u => pre ++ [u]) h1 ⟨g, 0, none⟩ 1 1 (pre ++ [u]) (by simp) c1 c2 c4 c3 hlo
  unfold Oper.wp execOp
  simp only [ho, resolve, invoke, builtin, Sem.run_bind, Sem.run_pure, Result.andThen_ok, List.map_toArray, List.map_cons, List.map_nil, hs, hx, hr]
  refine h v' w' (OwnT.pushed he he2 h0 h1 h2 hu hhi g1 g2) ((Below.refl lo w).grown g2 hlo (fun k hk => (World.ownsRow.lt h1 k hk).1)) (fun u' ts' hu' hne => ⟨hu'.other he he2 h1 g2 hne, ?_⟩)
  rcases hc : u'.ownBlock with _ | b
  · exact .inl rfl
  · refine .inr (fun e0 => ?_)
    rcases g3 with g3 | g3
    · rw [g3] at e0
      rcases hne with hne | hne
      · rw [hc] at hne; cases hne
      · exact hne (hc.trans e0)
    · rw [g3] at e0
      injection e0 with e0
      have := (hu'.lt b hc).2
      omega
end Go.Proofs.Ytfhdgcndiljjcab

/- Contracts of the grids of series. -/
namespace Go.Proofs.Ytfhdgcndiljjcab
open Go.RowKit Go.WideShapes Go.ChangeShapes Go.ChangeAt

set_option maxHeartbeats 2000000 in
set_option maxRecDepth 100000 in
theorem frameOfSeries_any (m : Int) (A : Option Addr) (n c d : Nat) (w : World) (hn : n = d + 1) (hd : d ≤ 1000) :
    Calls Try.prog 80 #[.agg #[.int .i64 m, .slice A n c]] w fun e w' => e = .returned (.agg #[.int .i64 m, .int .i64 d]) ∧ Below w.heap.size w w' := by
  obtain ⟨W, hW⟩ : ∃ W, (w.alloc (.cells #[.int .i64 m, .slice A n c] 62)).alloc (.cells #[.int .i64 0, .int .i64 0] 41) = W := ⟨_, rfl⟩
  have hwb : Below w.heap.size w W := by rw [← hW]; exact below_alloc _ (below_one _ _)
  have b1 : Box W w.heap.size m A n c := by rw [← hW]; exact (Box.newT _ _ _ _ _ _).keep (below_one _ _)
  have v2 : VarC 41 W (w.heap.size + 1) #[.int .i64 0, .int .i64 0] := by
    rw [← hW]
    have := VarC.new 41 (w.alloc (.cells #[.int .i64 m, .slice A n c] 62)) #[.int .i64 0, .int .i64 0]
    simpa using this
  have HG := Lib.hid (fun W0 => degree_nat m A n c d W0 hn hd)
  have HB := Lib.hid hwb
  have HW := Lib.hid hW
  have V2 := Lib.hid v2
  obtain ⟨x1, x2, x3⟩ := b1
  clear hwb hW v2 hn
  go_enter Try.func80, Try.ntmps80
  go_wp2
  rw [HW.out]
  go_region_held3 (fun w' => w'.cell? ⟨w.heap.size, 0, none⟩ = some (.int .i64 m) ∧ w'.cell? ⟨w.heap.size, 1, none⟩ = some (.slice A n c) ∧ w.heap.size < w'.heap.size) (first | exact ⟨x1, x2, x3⟩ | exact box_store (by omega) (by assumption) | exact box_call (by assumption) (by assumption)) (first
    | (go_at_call 74; refine (HG.out _).mono ?_; rintro e1 w1 ⟨rfl, hb1⟩; have hv := V2.out.keep (below_step (below_drew0 _) hb1); obtain ⟨q0, q1, q2, q3⟩ := hv.tells2))
  all_goals
    have h2 := (hv.set 0 (.int .i64 m)).set 1 (.int .i64 d)
    obtain ⟨f0, f1, _⟩ := h2.tells2
    have HF := Lib.hid (((below_step HB.out (below_step (below_drew0 _) hb1)).setCell (p := ⟨w.heap.size + 1, 0, none⟩) (by show w.heap.size ≤ w.heap.size + 1; omega) (.int .i64 m)).setCell (p := ⟨w.heap.size + 1, 1, none⟩) (by show w.heap.size ≤ w.heap.size + 1; omega) (.int .i64 d))
    clear h2 hb1 hv
    go_wp2
    exact bodyPost_ret (v := .agg #[.int .i64 m, .int .i64 d]) (by simp [results, Try.results80, go_sem, f0, f1]) rfl ⟨rfl, HF.out⟩

theorem gosC_any (i j g : Nat) (m : Int) (d : Nat) (A : Option Addr) (c : Nat) (l : List Int) (W : World) (hb : Box W g m A l.length c) (hs : SerOk m d l) (hr : RI W A l) (hij : i + j ≤ d) :
    Calls Try.prog 81 #[.int .i64 i, .int .i64 j, .pointer (some ⟨g, 0, none⟩)] W fun e w' => e = .returned (.int .i64 (if i = 0 then Ser.co l j else 0)) ∧ Below W.heap.size W w' := by
  obtain ⟨_, x2, _⟩ := hb
  by_cases hi : i = 0
  · rw [if_pos hi]
    subst hi
    obtain ⟨b, off, rfl, hlt, hc⟩ := hr.at j (by rw [hs.len]; omega)
    obtain ⟨X, hX⟩ : ∃ X, Ser.co l j = X := ⟨_, rfl⟩
    rw [hX] at hc ⊢
    have j0 : (0 : Int) ≤ (j : Int) := by omega
    have j1 : (j : Int) < (l.length : Int) := by have := hs.len; omega
    clear hX hr hs
    go_enter Try.func81, Try.ntmps81
    go_wp2
    go_ret
    exact ⟨rfl, Below.refl _ _⟩
  · rw [if_neg hi]
    have hi2 : ¬ (i : Int) = 0 := by omega
    obtain ⟨n1, n2⟩ := ne_facts hi2
    clear hi hr hs
    go_enter Try.func81, Try.ntmps81
    go_wp2
    go_ret
    exact ⟨rfl, Below.refl _ _⟩
/-- the table of a(x) for k = 0, of a(y) else -/
def gosF (l : List Int) (k : Int) : Nat → Nat → Int := fun i j => if k = 0 then (if j = 0 then Ser.co l i else 0) else (if i = 0 then Ser.co l j else 0)
theorem gosF_turned (m : Int) (d : Nat) (l : List Int) : (Pl.tab m d fun i j => Pl.pc (Pl.tab m d fun i j => if i = 0 then Ser.co l j else 0) j i) = Pl.tab m d (gosF l 0) :=
  Pl.tab_congr (fun i j h => by
    rw [Pl.pc_tab (by omega), Int.emod_emod]
    unfold gosF
    rw [if_pos rfl])
theorem gosF_plain (m : Int) (d : Nat) (l : List Int) (k : Int) (hk : ¬ k = 0) : (Pl.tab m d fun i j => if i = 0 then Ser.co l j else 0) = Pl.tab m d (gosF l k) :=
  Pl.tab_congr (fun i j h => by unfold gosF; rw [if_neg hk])
set_option maxHeartbeats 2000000 in
set_option maxRecDepth 100000 in
theorem gridOfSeries_any (m : Int) (d : Nat) (A : Option Addr) (c : Nat) (l : List Int) (k : Int) (w : World) (hs : SerOk m d l) (hr : RI w A l) :
    Calls Try.prog 61 #[.agg #[.int .i64 m, .slice A l.length c], .int .i64 k] w fun e w' => ∃ v, e = .returned (.agg #[.int .i64 m, .int .i64 d, v]) ∧ OwnR w' w.heap.size w'.heap.size v (Pl.tab m d (gosF l k)) ∧ Below w.heap.size w w' := by
  obtain ⟨W, hW⟩ : ∃ W, (w.alloc (.cells #[.int .i64 m, .slice A l.length c] 62)).alloc (.cells #[.int .i64 0, .int .i64 0, .slice none 0 0] 43) = W := ⟨_, rfl⟩
  have hwb : Below w.heap.size w W := by rw [← hW]; exact below_alloc _ (below_one _ _)
  have b1 : Box W w.heap.size m A l.length c := by rw [← hW]; exact (Box.newT _ _ _ _ _ _).keep (below_one _ _)
  have v2 : VarC 43 W (w.heap.size + 1) #[.int .i64 0, .int .i64 0, .slice none 0 0] := by
    rw [← hW]
    have := VarC.new 43 (w.alloc (.cells #[.int .i64 m, .slice A l.length c] 62)) #[.int .i64 0, .int .i64 0, .slice none 0 0]
    simpa using this
  have HG := Lib.hid (fun W0 => frameOfSeries_any m A l.length c d W0 hs.len (by have := hs.d2; omega))
  have hm1 := hs.m1
  have HS := Lib.hid (fun W0 (h : Below W.heap.size W W0) => filled_any m d 81 #[.pointer (some ⟨w.heap.size, 0, none⟩)] (fun i j => if i = 0 then Ser.co l j else 0) W0 (by omega) hs.m2 (by have := hs.d2; omega)
    (fun i j hij => by have := hs.red j; have := hs.m2; split <;> omega) (enters_fn Try.func81 (of_decide_eq_true (by kernel_rfl)) rfl)
    (fun i j W1 hij hb => gosC_any i j _ m d A c l W1 ((b1.keep h).keep hb) hs (((hr.below hwb).below h).below hb) hij))
  have HT := Lib.hid (fun (W0 : World) (A0 : Option Addr) (c0 : Nat) (h : RP W0 A0 (Pl.tab m d fun i j => if i = 0 then Ser.co l j else 0)) => turned_any m d A0 c0 _ W0 (Pl.Ok.of_tab hs.m1 hs.m2 hs.d1 hs.d2 _) h)
  have HB := Lib.hid hwb
  have HW := Lib.hid hW
  have V3 := Lib.hid v2
  obtain ⟨x1, x2, x3⟩ := b1
  by_cases hk : k = 0
  · subst hk
    rw [gosF_turned] at HT
    obtain ⟨T0, hT0⟩ : ∃ T0, (Pl.tab m d fun i j => if i = 0 then Ser.co l j else 0) = T0 := ⟨_, rfl⟩
    obtain ⟨T, hT⟩ : ∃ T, Pl.tab m d (gosF l 0) = T := ⟨_, rfl⟩
    rw [hT0] at HS HT
    rw [hT] at HT ⊢
    clear hwb hW v2 hr hs hT hT0
    go_enter Try.func61, Try.ntmps61
    go_wp2_with fail
    rw [HW.out]
    refine (HG.out _).mono ?_
    rintro e w1 ⟨rfl, hb1⟩
    go_wp2_with fail
    refine (HS.out _ hb1).mono ?_
    rintro e w2 ⟨v, rfl, ho2, hb2⟩
    obtain ⟨A1, c1, rfl, hp⟩ := ho2.len
    have HP := Lib.hid (hp.below (below_one w2 (.cells #[.int .i64 m, .int .i64 d, .slice A1 T0.length c1] 43)))
    have hb12 := below_alloc (.cells #[.int .i64 m, .int .i64 d, .slice A1 T0.length c1] 43) (below_step hb1 hb2)
    clear ho2 hp
    go_wp2_with fail
    refine (HT.out _ _ _ HP.out).mono ?_
    rintro e w3 ⟨v, rfl, ho, hb3⟩
    obtain ⟨A2, c2, rfl, -⟩ := ho.len
    have hb := below_step hb12 hb3
    have hv := V3.out.keep hb
    obtain ⟨q0, q1, q2, q3, q4, q5⟩ := hv.tells3
    obtain ⟨f0, f1, f2, f3, f4⟩ := fin_grid (w := w) hv ho (by have := V3.out.lt; have := hb12.size; omega) (by omega) (Nat.le_refl _) (below_step HB.out hb) (.int .i64 m) (.int .i64 d) (.slice A2 T.length c2)
    have F3 := Lib.hid (f3.low (lo' := w.heap.size) (by have := V3.out.lt; have := hb12.size; omega))
    have F4 := Lib.hid f4
    unfold set3 at f0 f1 f2
    clear f3 f4 ho hv hb hb12
    go_wp2
    exact bodyPost_ret (v := .agg #[.int .i64 m, .int .i64 d, .slice A2 T.length c2]) (by simp [results, Try.results61, go_sem, f0, f1, f2]) rfl ⟨_, rfl, F3.out, F4.out⟩
  · obtain ⟨n1, n2⟩ := ne_facts hk
    rw [← gosF_plain m d l k hk]
    obtain ⟨T, hT⟩ : ∃ T0, (Pl.tab m d fun i j => if i = 0 then Ser.co l j else 0) = T0 := ⟨_, rfl⟩
    rw [hT] at HS ⊢
    clear hwb hW v2 hr hs hT HT
    go_enter Try.func61, Try.ntmps61
    go_wp2_with fail
    rw [HW.out]
    refine (HG.out _).mono ?_
    rintro e w1 ⟨rfl, hb1⟩
    go_wp2_with fail
    refine (HS.out _ hb1).mono ?_
    rintro e w2 ⟨v, rfl, ho2, hb2⟩
    obtain ⟨A2, c2, rfl, hp⟩ := ho2.len
    have hb := below_alloc (.cells #[.int .i64 m, .int .i64 d, .slice A2 T.length c2] 43) (below_step hb1 hb2)
    have ho := ho2.keep (below_one w2 (.cells #[.int .i64 m, .int .i64 d, .slice A2 T.length c2] 43))
    have hv := V3.out.keep hb
    obtain ⟨q0, q1, q2, q3, q4, q5⟩ := hv.tells3
    obtain ⟨f0, f1, f2, f3, f4⟩ := fin_grid (w := w) hv ho (by have := V3.out.lt; have := hb1.size; omega) (by omega) (below_one w2 _).size (below_step HB.out hb) (.int .i64 m) (.int .i64 d) (.slice A2 T.length c2)
    have F3 := Lib.hid (f3.low (lo' := w.heap.size) (by have := V3.out.lt; have := hb1.size; omega))
    have F4 := Lib.hid f4
    unfold set3 at f0 f1 f2
    clear f3 f4 ho hv hb ho2 hp
    go_wp2
    exact bodyPost_ret (v := .agg #[.int .i64 m, .int .i64 d, .slice A2 T.length c2]) (by simp [results, Try.results61, go_sem, f0, f1, f2]) rfl ⟨_, rfl, F3.out, F4.out⟩
end Go.Proofs.Ytfhdgcndiljjcab

/- Contracts of the program's look for faults of symmetry and of brackets. -/
namespace Go.Proofs.Ytfhdgcndiljjcab
open Go.RowKit Go.WideShapes Go.ChangeShapes Go.ChangeAt

namespace Pl
theorem fau1_in {F : Nat → Nat → Int} {d i : Nat} {o : Option (List Int)} (hi : i < d + 1) (h : srch (fau1 d F) (d + 1 - i) i = o) : orE (srch (fau1j F i) (d + 1 - i - (i + 1)) (i + 1)) (srch (fau1 d F) (d + 1 - (i + 1)) (i + 1)) = o := by
  rw [show d + 1 - i = (d + 1 - (i + 1)) + 1 by omega, srch_step] at h
  unfold fau1 at h
  rw [show d + 1 - i - (i + 1) = d - i - i by omega]
  exact h
theorem fau1_go {F : Nat → Nat → Int} {d i j : Nat} {r o : Option (List Int)} (hj : i + j < d + 1) (h : orE (srch (fau1j F i) (d + 1 - i - j) j) r = o) (hx : F i j = F j i) : orE (srch (fau1j F i) (d + 1 - i - (j + 1)) (j + 1)) r = o := by
  rw [show d + 1 - i - j = (d + 1 - i - (j + 1)) + 1 by omega, srch_step] at h
  unfold fau1j at h
  rw [if_pos hx, orE_none] at h
  exact h
theorem fau1_no {F : Nat → Nat → Int} {d i j : Nat} {r o : Option (List Int)} (hj : i + j < d + 1) (h : orE (srch (fau1j F i) (d + 1 - i - j) j) r = o) (hx : ¬ F i j = F j i) : o = some [1, (i : Int), (j : Int)] := by
  rw [show d + 1 - i - j = (d + 1 - i - (j + 1)) + 1 by omega, srch_step] at h
  unfold fau1j at h
  rw [if_neg hx, orE_some, orE_some] at h
  exact h.symm
theorem fau1_out {F : Nat → Nat → Int} {d i j : Nat} {r o : Option (List Int)} (hj : ¬ i + j < d + 1) (h : orE (srch (fau1j F i) (d + 1 - i - j) j) r = o) : r = o := by
  rw [show d + 1 - i - j = 0 by omega] at h
  exact h
end Pl

/-! the powers of a grid -/
def pwTs (m : Int) (d : Nat) (F : Nat → Nat → Int) (n : Nat) : List (List (List Int)) := (List.range n).map (Pl.pwT m d F)
theorem pwTs_length (m : Int) (d : Nat) (F : Nat → Nat → Int) (n : Nat) : (pwTs m d F n).length = n := by simp [pwTs]
theorem pwTs_succ (m : Int) (d : Nat) (F : Nat → Nat → Int) (n : Nat) : pwTs m d F (n + 1) = pwTs m d F n ++ [Pl.pwT m d F n] := by simp [pwTs, List.range_succ]
theorem pwTs_get (m : Int) (d : Nat) (F : Nat → Nat → Int) (n i : Nat) (h : i < n) : (pwTs m d F n)[i]?.getD [] = Pl.pwT m d F i := by
  unfold pwTs
  rw [List.getElem?_map, List.getElem?_range h]; rfl
theorem pwT_ok {m : Int} {d : Nat} (m1 : 2 ≤ m) (m2 : m ≤ 10000) (d1 : 1 ≤ d) (d2 : d ≤ 10) (F : Nat → Nat → Int) (k : Nat) : Pl.Ok m d (Pl.pwT m d F k) := by
  cases k <;> exact Pl.Ok.of_tab m1 m2 d1 d2 _
theorem infoGrid : (Try.prog.info? 43).map (fun i => (i.zero, i.size, i.bytes)) = some (some (.agg #[.int .i64 0, .int .i64 0, .slice none 0 0]), 3, 40) := by kernel_rfl
theorem g_ne1 : (43 : TypeId) ≠ 2 := by decide
theorem g_ne2 : (43 : TypeId) ≠ 22 := by decide
/-- element i of a list of grids, in the walk's form -/
theorem OwnT.grid {m d : Value} {w : World} {lo : Nat} {v : Value} {ts : List (List (List Int))} (h : OwnT [m, d] 43 w lo v ts) (i : Nat) (hi : i < ts.length) :
    ∃ g c A' c', v = .slice (some ⟨g, 0, none⟩) ts.length c ∧ g < w.heap.size ∧ lo ≤ g ∧ w.cell? ⟨g, i * 3, none⟩ = some m ∧ w.cell? ⟨g, i * 3 + 1, none⟩ = some d ∧ w.cell? ⟨g, i * 3 + 2, none⟩ = some (.slice A' (ts[i]?.getD []).length c') ∧ RP w A' (ts[i]?.getD []) := by
  obtain ⟨g, c, A', c', h1, h2, h3, h4, h5, h6⟩ := h.at i hi
  exact ⟨g, c, A', c', h1, h2, h3, h6 0 m rfl, h6 1 d rfl, h4, h5⟩
theorem one_grid {m : Int} {d : Nat} (F : Nat → Nat → Int) (m1 : 2 ≤ m) : Pl.tab m d (gosF (Ser.cut m d (Ser.mon 0 1)) 0) = Pl.pwT m d F 0 := by
  show _ = Pl.tab m d (Pl.one2 1)
  refine Pl.tab_congr (Pl.Eq.of m d (fun p q hpq => ?_))
  unfold gosF Pl.one2
  rw [if_pos rfl]
  by_cases hq : q = 0
  · rw [if_pos hq, Ser.co_cut (by omega)]
    unfold Ser.mon
    by_cases hp : p = 0
    · rw [if_pos hp, if_pos ⟨hp, hq⟩, Int.emod_eq_of_lt (by omega) (by omega)]
    · rw [if_neg hp, if_neg (fun h => hp h.1), Int.zero_emod]
  · rw [if_neg hq, if_neg (fun h => hq h.2)]
/-- in the walk's form: a list's element and a grid's box are kept by a call, and by an append to the list -/
theorem el_keep {w w' : World} {g k g1 : Nat} {x y z x1 y1 z1 : Value} (hb : Below w.heap.size w w')
    (h : (w.cell? ⟨g, k * 3, none⟩ = some x ∧ w.cell? ⟨g, k * 3 + 1, none⟩ = some y ∧ w.cell? ⟨g, k * 3 + 2, none⟩ = some z ∧ g < w.heap.size) ∧ (w.cell? ⟨g1, 0, none⟩ = some x1 ∧ w.cell? ⟨g1, 1, none⟩ = some y1 ∧ w.cell? ⟨g1, 2, none⟩ = some z1 ∧ g1 < w.heap.size)) :
    (w'.cell? ⟨g, k * 3, none⟩ = some x ∧ w'.cell? ⟨g, k * 3 + 1, none⟩ = some y ∧ w'.cell? ⟨g, k * 3 + 2, none⟩ = some z ∧ g < w'.heap.size) ∧ (w'.cell? ⟨g1, 0, none⟩ = some x1 ∧ w'.cell? ⟨g1, 1, none⟩ = some y1 ∧ w'.cell? ⟨g1, 2, none⟩ = some z1 ∧ g1 < w'.heap.size) :=
  ⟨⟨(hb.cell (p := ⟨g, k * 3, none⟩) h.1.2.2.2).trans h.1.1, (hb.cell (p := ⟨g, k * 3 + 1, none⟩) h.1.2.2.2).trans h.1.2.1, (hb.cell (p := ⟨g, k * 3 + 2, none⟩) h.1.2.2.2).trans h.1.2.2.1, Nat.lt_of_lt_of_le h.1.2.2.2 hb.size⟩,
   ⟨(hb.cell (p := ⟨g1, 0, none⟩) h.2.2.2.2).trans h.2.1, (hb.cell (p := ⟨g1, 1, none⟩) h.2.2.2.2).trans h.2.2.1, (hb.cell (p := ⟨g1, 2, none⟩) h.2.2.2.2).trans h.2.2.2.1, Nat.lt_of_lt_of_le h.2.2.2.2 hb.size⟩⟩
theorem el_push {w w' : World} {lo g k n g1 : Nat} {x y z x1 y1 z1 : Value} (hk : ∀ j, j < n * 3 → w'.cell? ⟨g, j, none⟩ = w.cell? ⟨g, j, none⟩) (hkn : k < n) (hg1 : g1 < lo) (hb : Below lo w w')
    (h : (w.cell? ⟨g, k * 3, none⟩ = some x ∧ w.cell? ⟨g, k * 3 + 1, none⟩ = some y ∧ w.cell? ⟨g, k * 3 + 2, none⟩ = some z ∧ g < w.heap.size) ∧ (w.cell? ⟨g1, 0, none⟩ = some x1 ∧ w.cell? ⟨g1, 1, none⟩ = some y1 ∧ w.cell? ⟨g1, 2, none⟩ = some z1 ∧ g1 < w.heap.size)) :
    (w'.cell? ⟨g, k * 3, none⟩ = some x ∧ w'.cell? ⟨g, k * 3 + 1, none⟩ = some y ∧ w'.cell? ⟨g, k * 3 + 2, none⟩ = some z ∧ g < w'.heap.size) ∧ (w'.cell? ⟨g1, 0, none⟩ = some x1 ∧ w'.cell? ⟨g1, 1, none⟩ = some y1 ∧ w'.cell? ⟨g1, 2, none⟩ = some z1 ∧ g1 < w'.heap.size) :=
  ⟨⟨(hk (k * 3) (by omega)).trans h.1.1, (hk (k * 3 + 1) (by omega)).trans h.1.2.1, (hk (k * 3 + 2) (by omega)).trans h.1.2.2.1, Nat.lt_of_lt_of_le h.1.2.2.2 hb.size⟩,
   ⟨(hb.cell (p := ⟨g1, 0, none⟩) hg1).trans h.2.1, (hb.cell (p := ⟨g1, 1, none⟩) hg1).trans h.2.2.1, (hb.cell (p := ⟨g1, 2, none⟩) hg1).trans h.2.2.2.1, Nat.lt_of_lt_of_le h.2.2.2.2 hb.size⟩⟩
theorem pre_one (m d : Int) : ∀ y, y ∈ [Value.int .i64 m, Value.int .i64 d] → y.oneCell' = true := by
  intro y hy
  simp at hy
  rcases hy with rfl | rfl <;> rfl
end Go.Proofs.Ytfhdgcndiljjcab

/- Contracts of the program's look for faults of brackets, and of all faults. -/
namespace Go.Proofs.Ytfhdgcndiljjcab
open Go.RowKit Go.WideShapes Go.ChangeShapes Go.ChangeAt

theorem br_bd {m : Int} {d : Nat} {t : List (List Int)} (hs : Pl.Ok m d t) (c a b : Nat) : ∀ k, 0 ≤ Ser.psum (fun i => Pl.pc t i c * Pl.pc (Pl.pwT m d (Pl.pc t) i) a b) k ∧ Ser.psum (fun i => Pl.pc t i c * Pl.pc (Pl.pwT m d (Pl.pc t) i) a b) k ≤ k * 100000000 := by
  intro k
  induction k with
  | zero => exact ⟨Int.le_refl _, Int.le_refl _⟩
  | succ k ih =>
    rw [Ser.psum]
    have h1 := hs.pc k c
    have h2 := (pwT_ok hs.m1 hs.m2 hs.d1 hs.d2 (Pl.pc t) k).pc a b
    have hm := hs.m2
    have h3 := mul_bd (x := Pl.pc t k c) (y := Pl.pc (Pl.pwT m d (Pl.pc t) k) a b) h1.1 (by omega) (by omega) (by omega)
    have h4 : 0 ≤ Pl.pc t k c * Pl.pc (Pl.pwT m d (Pl.pc t) k) a b := Int.mul_nonneg h1.1 h2.1
    omega

/-! the triples -/
namespace Pl
theorem fau2_in {m : Int} {d : Nat} {F : Nat → Nat → Int} {a : Nat} {o : Option (List Int)} (ha : a < d + 1) (h : srch (fau2 m d F) (d + 1 - a) a = o) :
    orE (srch (fau2b m d F a) (d + 1 - a) 0) (srch (fau2 m d F) (d + 1 - (a + 1)) (a + 1)) = o := by
  rw [show d + 1 - a = (d + 1 - (a + 1)) + 1 by omega, srch_step] at h
  unfold fau2 at h
  exact h
theorem fau2b_in {m : Int} {d : Nat} {F : Nat → Nat → Int} {a b : Nat} {r o : Option (List Int)} (hb : a + b < d + 1) (h : orE (srch (fau2b m d F a) (d + 1 - a - b) b) r = o) :
    orE (srch (fau2c m d F a b) (d + 1 - (a + b)) 0) (orE (srch (fau2b m d F a) (d + 1 - a - (b + 1)) (b + 1)) r) = o := by
  rw [show d + 1 - a - b = (d + 1 - a - (b + 1)) + 1 by omega, srch_step] at h
  unfold fau2b at h ⊢
  rw [← h]
  generalize srch (fau2c m d F a b) (d + 1 - (a + b)) 0 = p
  cases p <;> rfl
theorem fau2b_out {m : Int} {d : Nat} {F : Nat → Nat → Int} {a b : Nat} {r o : Option (List Int)} (hb : ¬ a + b < d + 1) (h : orE (srch (fau2b m d F a) (d + 1 - a - b) b) r = o) : r = o := by
  rw [show d + 1 - a - b = 0 by omega] at h
  exact h
theorem fau2c_go {m : Int} {d : Nat} {F : Nat → Nat → Int} {a b c : Nat} {r o : Option (List Int)} (hc : a + b + c < d + 1) (h : orE (srch (fau2c m d F a b) (d + 1 - (a + b) - c) c) r = o) (hx : br m d F a b c = br m d F c b a) : orE (srch (fau2c m d F a b) (d + 1 - (a + b) - (c + 1)) (c + 1)) r = o := by
  rw [show d + 1 - (a + b) - c = (d + 1 - (a + b) - (c + 1)) + 1 by omega, srch_step] at h
  unfold fau2c at h
  rw [if_pos hx, orE_none] at h
  exact h
theorem fau2c_no {m : Int} {d : Nat} {F : Nat → Nat → Int} {a b c : Nat} {r o : Option (List Int)} (hc : a + b + c < d + 1) (h : orE (srch (fau2c m d F a b) (d + 1 - (a + b) - c) c) r = o) (hx : ¬ br m d F a b c = br m d F c b a) : o = some [2, (a : Int), (b : Int), (c : Int)] := by
  rw [show d + 1 - (a + b) - c = (d + 1 - (a + b) - (c + 1)) + 1 by omega, srch_step] at h
  unfold fau2c at h
  rw [if_neg hx, orE_some, orE_some] at h
  exact h.symm
theorem fau2c_out {m : Int} {d : Nat} {F : Nat → Nat → Int} {a b c : Nat} {r o : Option (List Int)} (hc : ¬ a + b + c < d + 1) (h : orE (srch (fau2c m d F a b) (d + 1 - (a + b) - c) c) r = o) : r = o := by
  rw [show d + 1 - (a + b) - c = 0 by omega] at h
  exact h
end Pl
/-- a grid's box in the walk's form is kept -/
theorem gb_keep {w w' : World} {g : Nat} {x y z : Value} (hb : Below w.heap.size w w') (h : w.cell? ⟨g, 0, none⟩ = some x ∧ w.cell? ⟨g, 1, none⟩ = some y ∧ w.cell? ⟨g, 2, none⟩ = some z ∧ g < w.heap.size) :
    w'.cell? ⟨g, 0, none⟩ = some x ∧ w'.cell? ⟨g, 1, none⟩ = some y ∧ w'.cell? ⟨g, 2, none⟩ = some z ∧ g < w'.heap.size :=
  ⟨(hb.cell (p := ⟨g, 0, none⟩) h.2.2.2).trans h.1, (hb.cell (p := ⟨g, 1, none⟩) h.2.2.2).trans h.2.1, (hb.cell (p := ⟨g, 2, none⟩) h.2.2.2).trans h.2.2.1, Nat.lt_of_lt_of_le h.2.2.2 hb.size⟩
theorem gbb_keep {w0 w w' : World} {g : Nat} {x y z : Value} (hb : Below w.heap.size w w') (h : (w.cell? ⟨g, 0, none⟩ = some x ∧ w.cell? ⟨g, 1, none⟩ = some y ∧ w.cell? ⟨g, 2, none⟩ = some z ∧ g < w.heap.size) ∧ Below w0.heap.size w0 w) :
    (w'.cell? ⟨g, 0, none⟩ = some x ∧ w'.cell? ⟨g, 1, none⟩ = some y ∧ w'.cell? ⟨g, 2, none⟩ = some z ∧ g < w'.heap.size) ∧ Below w0.heap.size w0 w' := ⟨gb_keep hb h.1, below_step h.2 hb⟩
theorem snd2 {p q : Prop} (h : p ∧ q) : q := h.2
end Go.Proofs.Ytfhdgcndiljjcab

