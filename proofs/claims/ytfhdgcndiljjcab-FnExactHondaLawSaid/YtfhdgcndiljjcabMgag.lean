/- Texts of contracts, joined. -/
import Derived.Test.YtfhdgcndiljjcabMgad
import Derived.Test.YtfhdgcndiljjcabMgae
import Derived.Laws.OwnMore
import Derived.Test.YtfhdgcndiljjcabMgaf
import Derived.Test.YtfhdgcndiljjcabMgaa
import Derived.Test.YtfhdgcndiljjcabProg
import Derived.RegionTactic
import Derived.Deep.QuietTactic
import Derived.BigQuiet
/- Contract of l01Own for every list, also empty ones; l09Three. -/
namespace Go.Proofs.Ytfhdgcndiljjcab
open Go.RowKit Go.WideShapes Go.ChangeShapes Go.ChangeAt

theorem run_append_zero {P : Program} {w : World} (base : Nat) (t ty e : TypeId) (i : TypeInfo) (size c : Nat) (ht : P.underlying t = some (.slice e)) (hi : P.info? e = some i)
    (v : Value) (n : Nat) (xs : List Value) (hown : w.ownsRow base e size v n xs) :
    (Builtin.append_ #[t, t] ty #[v, .slice none 0 c]).run P w = .ok v w := by
  rcases hown.2 with ⟨rfl, rfl⟩ | ⟨g, cap, cur, rfl, _, _, hnc, _⟩
  · simp [Builtin.append_, run_underlying ht, sizeOf, typeInfo, hi, Builtin.lenOf, Builtin.firstCells]
  · simp [Builtin.append_, run_underlying ht, sizeOf, typeInfo, hi, Builtin.lenOf, Builtin.firstCells, hnc, storeCells]
theorem wpList_append_zero {P : Program} {w : World} {ops : Array Oper} {rest : List Oper} {o : Oper} {a : Act} {Q : Exit → Act → World → Prop} (hgd : o.guard = none) (s x : Operand) (t : TypeId)
    (ho : o.op = .call { callee := .builtin .append, args := #[s, x], argTypes := #[t, t] })
    (base : Nat) (e : TypeId) (i : TypeInfo) (size c : Nat) (ht : P.underlying t = some (.slice e)) (hi : P.info? e = some i)
    (v : Value) (n : Nat) (xs : List Value) (hs : a.eval s = v) (hown : w.ownsRow base e size v n xs) (hx : a.eval x = .slice none 0 c)
    (h : wpList P ops Q rest (a.put o.dst v) w) : wpList P ops Q (o :: rest) a w := by
  refine wpList_plain hgd fun K hK => ?_
  have hrun := run_append_zero (P := P) (w := w) base t o.type e i size c ht hi v n xs hown
  unfold Oper.wp
  simp [execOp, ho, resolve, invoke, builtin, hs, hx, hrun, Result.andThen]
  exact hK _ _ h
set_option maxHeartbeats 2000000 in
theorem l01Own_all (A : Option Addr) (c : Nat) (l : List Int) (w : World) (hl : l.length ≤ 1000) (hr : RI w A l) :
    Calls Try.prog 49 #[.slice A l.length c] w fun e w' => ∃ v, e = .returned v ∧ OwnI w' w.heap.size v l ∧ Below w.heap.size w w' := by
  by_cases hne : l = []
  · subst hne
    obtain ⟨i0, hi, hz0, hz1, hz2⟩ := info_parts info64
    have HO := Lib.hid (OwnI.empty' w)
    have HF : OwnI (w.alloc (.cells #[] 2)) w.heap.size (.slice (some ⟨w.heap.size, 0, none⟩) 0 0) [] := OwnI.empty w
    have HF2 := Lib.hid HF
    clear HF
    cases A with
    | none =>
      show Calls Try.prog 49 #[.slice none 0 c] w _
      go_enter Try.func49, Try.ntmps49
      go_wp2_with (at_builtin; refine wpList_append_zero (by rfl) _ _ _ (by rfl) w.heap.size 2 i0 1 c Try.underlying22 hi _ 0 [] (by rfl) HO.out (by rfl) ?_)
      go_ret
      exact ⟨_, rfl, HF2.out, below_one _ _⟩
    | some ad =>
      show Calls Try.prog 49 #[.slice (some ad) 0 c] w _
      go_enter Try.func49, Try.ntmps49
      go_wp2_with (at_builtin; refine wpList_append_own _ (by rfl) _ _ _ (by rfl) w.heap.size 2 i0 (.int .i64 0) 1 8 Try.underlying22 hi hz0 hz1 hz2 rfl (by decide) _ 0 [] (by rfl) HO.out _ 0 c [] (by rfl) rfl (by intro j u hj; simp at hj) (by intro u hu; simp at hu) (by unfold maxLen; omega) (by omega) (by simp) ?_; intro v' w2 h2 h3 _)
      have HG : Hid (OwnI w2 w.heap.size v' []) := Lib.hid h2
      have HB := Lib.hid ((below_one w (.cells #[] 2)).grown h3 (by simp) (fun k hk => by simp [Value.ownBlock] at hk; omega))
      clear h2 h3
      go_wp2
      go_ret
      exact ⟨_, rfl, HG.out, HB.out⟩
  · exact l01Own_any A c l w hne hl hr
theorem ndL_self (l : List Int) : ndL l.length l = l := by
  apply List.ext_getElem?
  intro i
  unfold ndL
  rw [List.getElem?_map]
  by_cases h1 : i < l.length
  · rw [List.getElem?_range h1, List.getElem?_eq_getElem h1]
    show some (Ser.co l i) = some l[i]
    unfold Ser.co
    rw [List.getElem?_eq_getElem h1]; rfl
  · rw [List.getElem?_eq_none (by simp; omega), List.getElem?_eq_none (by omega)]; rfl
theorem ndL_push (n : Nat) (l : List Int) (h : l.length ≤ n) : ndL n l ++ [0] = ndL (n + 1) l := by
  unfold ndL
  rw [List.range_succ, List.map_append, List.map_cons, List.map_nil, Ser.co_over h]
set_option maxHeartbeats 2000000 in
theorem l09Three_any (A : Option Addr) (c : Nat) (l : List Int) (w : World) (hl : l.length ≤ 3) (hr : RI w A l) :
    Calls Try.prog 32 #[.slice A l.length c] w fun e w' => ∃ v, e = .returned v ∧ OwnI w' w.heap.size v (ndL 3 l) ∧ Below w.heap.size w w' := by
  have HO := Lib.hid (l01Own_all A c l w (by omega) hr)
  have HS := Lib.hid (ndL_self l)
  have HP := Lib.hid (fun n => ndL_push n l)
  clear hr
  go_enter Try.func32, Try.ntmps32
  go_wp2_with fail
  refine HO.out.mono ?_
  rintro e w1 ⟨v, rfl, ho, hb⟩
  obtain ⟨A1, c1, hv, -⟩ := ho.form
  subst hv
  rw [← HS.out, ndL_length] at ho
  have HO1 := Lib.hid ho
  have HB1 := Lib.hid hb
  clear ho hb HO HS
  obtain ⟨L, hL⟩ : ∃ L, l.length = L := ⟨_, rfl⟩
  rw [hL] at HO1 HP hl
  have hz : w.heap.size ≤ w1.heap.size := HB1.out.size
  rw [hL]
  clear hL
  go_wp2
  go_loopw [3] (fun s3 wr => ∃ (k : Nat) (A2 : Option Addr) (c2 : Nat), L ≤ k ∧ k ≤ 3 ∧ s3 = .slice A2 k c2 ∧ OwnI wr w.heap.size (.slice A2 k c2) (ndL k l) ∧ Below w.heap.size w wr) (fun s3 _ => 4 - (match s3 with | .slice _ n _ => n | _ => 0))
  case atStart => exact ⟨L, A1, c1, Nat.le_refl _, hl, rfl, HO1.out, HB1.out⟩
  case round =>
    clear HO1 HB1 hz
    obtain ⟨k, A2, c2, hk1, hk2, rfl, ho, hb⟩ := hrel
    have HO2 := Lib.hid ho
    have HB2 := Lib.hid hb
    have hsz : w.heap.size ≤ wr.heap.size := hb.size
    clear ho hb
    by_cases hlt : k < 3
    · have i1 : (k : Int) < 3 := by omega
      have hll := ndL_length k l
      have HST := Lib.hid (HP.out k hk1)
      have hl2 := ndL_length (k + 1) l
      obtain ⟨L2, hL2⟩ : ∃ L2, ndL k l = L2 := ⟨_, rfl⟩
      rw [hL2] at HO2 hll HST
      have HLL := Lib.hid hll
      have HL2 := Lib.hid hl2
      clear hL2 hll hl2
      go_wp2_with (at_builtin; refine wp_push _ _ _ (by rfl) (by rfl) Try.underlying22 w.heap.size _ _ (by rfl) HO2.out 0 (by rfl) (by rw [HLL.out]; omega) hsz ?_; intro v' w4 ho4 hb4)
      rw [HST.out] at ho4
      obtain ⟨A3, c3, hv3, -⟩ := ho4.form
      subst hv3
      rw [HL2.out] at ho4 ⊢
      have hB4 := HB2.out.trans hb4
      go_wp2
      go_roundw
      case rel => exact ⟨k + 1, A3, c3, by omega, by omega, rfl, ho4, hB4⟩
      case measure => simp only []; omega
    · obtain rfl : k = 3 := by omega
      go_wp2
      go_ret
      exact ⟨_, rfl, HO2.out, HB2.out⟩

end Go.Proofs.Ytfhdgcndiljjcab

/- Contract of l09Law: the model's typical laws, found degree by degree. -/
namespace Go.Proofs.Ytfhdgcndiljjcab
open Go.RowKit Go.WideShapes Go.ChangeShapes Go.ChangeAt

namespace Pl
def xyF : Nat → Nat → Int := fun i j => (if i = 0 ∧ j = 1 then 1 else 0) + (if i = 1 ∧ j = 0 then 1 else 0)
theorem sub2_congr {m : Int} {d : Nat} {F G : Nat → Nat → Int} (h : Eq m d F G) (q : Nat) : Eq m d (sub2 F q) (sub2 G q) := fun i j hij => by
  unfold sub2 sub1
  rw [Int.sub_sub, Int.sub_sub]
  exact Int.emod_sub_cancel_right _ |>.2 (h i j hij)
theorem psum_cong {m : Int} {f g : Nat → Int} : ∀ k, (∀ i, i < k → f i % m = g i % m) → Ser.psum f k % m = Ser.psum g k % m
  | 0, _ => rfl
  | k + 1, h => Ser.add_cong (psum_cong k (fun i hi => h i (by omega))) (h k (by omega))
theorem restF_congr {W : Int} {n : Nat} {F G : Nat → Nat → Int} (h : Eq W n F G) (p N : Nat) (A : Nat → Int) (k : Nat) : Eq W n (restF p N A F k) (restF p N A G k) := fun i j hij =>
  psum_cong k (fun _ _ => Ser.mul_cong rfl (sub2_congr (pwF_congr h _) _ i j hij))
/-- what is due at x^i y^j, by the sum so far -/
def dueF (p N : Nat) (top W : Int) (A : Nat → Int) (F : Nat → Nat → Int) (i j : Nat) : Int := (-(restF p N A F (N + 1) i j % W / top)) % W
/-- the law up to the degree k + 1 -/
def lwF (p N : Nat) (top W : Int) (A : Nat → Int) : Nat → Nat → Nat → Int
  | 0 => xyF
  | k + 1 => fun i j => if i + j = k + 2 ∧ 1 ≤ i ∧ 1 ≤ j then dueF p N top W A (lwF p N top W A k) i j else lwF p N top W A k i j
/-- and in the next degree those with i below q -/
def lwP (p N : Nat) (top W : Int) (A : Nat → Int) (k q : Nat) : Nat → Nat → Int :=
  fun i j => if i + j = k + 2 ∧ 1 ≤ i ∧ 1 ≤ j ∧ i < q then dueF p N top W A (lwF p N top W A k) i j else lwF p N top W A k i j
theorem lwP_one (p N : Nat) (top W : Int) (A : Nat → Int) (k : Nat) : lwP p N top W A k 1 = lwF p N top W A k := by
  funext i j; unfold lwP; rw [if_neg (by omega)]
theorem lwP_all (p N : Nat) (top W : Int) (A : Nat → Int) (k : Nat) : lwP p N top W A k (k + 2) = lwF p N top W A (k + 1) := by
  funext i j
  show (if _ then _ else _) = (if _ then _ else _)
  by_cases h : i + j = k + 2 ∧ 1 ≤ i ∧ 1 ≤ j
  · rw [if_pos ⟨h.1, h.2.1, h.2.2, by omega⟩, if_pos h]
  · rw [if_neg (fun e => h ⟨e.1, e.2.1, e.2.2.1⟩), if_neg h]
theorem lwP_at (p N : Nat) (top W : Int) (A : Nat → Int) (k q : Nat) (h1 : 1 ≤ q) (h2 : q < k + 2) : lwP p N top W A k (q + 1) q (k + 2 - q) = dueF p N top W A (lwF p N top W A k) q (k + 2 - q) := if_pos ⟨by omega, h1, by omega, by omega⟩
theorem lwP_ne (p N : Nat) (top W : Int) (A : Nat → Int) (k q i j : Nat) (h : ¬ (i = q ∧ j = k + 2 - q)) : lwP p N top W A k (q + 1) i j = lwP p N top W A k q i j := by
  unfold lwP
  by_cases h1 : i + j = k + 2 ∧ 1 ≤ i ∧ 1 ≤ j ∧ i < q
  · rw [if_pos h1, if_pos ⟨h1.1, h1.2.1, h1.2.2.1, by omega⟩]
  · rw [if_neg h1, if_neg (fun e => h1 ⟨e.1, e.2.1, e.2.2.1, by omega⟩)]
/-- the rows below j reduced -/
def mixT (m W : Int) (d : Nat) (f : Nat → Nat → Int) (j : Nat) : List (List Int) := (List.range (d + 1)).map fun i => if i < j then Ser.cut m (d - i) (f i) else Ser.cut W (d - i) (f i)
theorem mixT_length (m W : Int) (d : Nat) (f : Nat → Nat → Int) (j : Nat) : (mixT m W d f j).length = d + 1 := by simp [mixT]
theorem mixT_zero (m W : Int) (d : Nat) (f : Nat → Nat → Int) : mixT m W d f 0 = tab W d f := List.map_congr_left (fun i _ => if_neg (by omega))
theorem mixT_all (m W : Int) (d : Nat) (f : Nat → Nat → Int) : mixT m W d f (d + 1) = tab m d f := List.map_congr_left (fun i hi => if_pos (by have := List.mem_range.1 hi; omega))
theorem mixT_row (m W : Int) (d : Nat) (f : Nat → Nat → Int) (j : Nat) (h : j ≤ d) : rw' (mixT m W d f j) j = Ser.cut W (d - j) (f j) := by
  unfold rw' mixT
  rw [List.getElem?_map, List.getElem?_range (by omega)]
  show (if j < j then _ else _) = _
  rw [if_neg (by omega)]
theorem mixT_set (m W : Int) (d : Nat) (f : Nat → Nat → Int) (j : Nat) (h : j ≤ d) : (mixT m W d f j).set j (Ser.cut m (d - j) (f j)) = mixT m W d f (j + 1) := by
  apply List.ext_getElem?
  intro i
  unfold mixT
  rw [List.getElem?_set, List.length_map, List.length_range, List.getElem?_map, List.getElem?_map]
  by_cases hi : i < d + 1
  · rw [List.getElem?_range hi]
    by_cases hij : j = i
    · subst hij
      rw [if_pos rfl, if_pos (by omega)]
      show some _ = some (if j < j + 1 then _ else _)
      rw [if_pos (by omega)]
    · rw [if_neg hij]
      show some (if i < j then _ else _) = some (if i < j + 1 then _ else _)
      by_cases h2 : i < j
      · rw [if_pos h2, if_pos (by omega)]
      · rw [if_neg h2, if_neg (by omega)]
  · rw [List.getElem?_eq_none (show (List.range (d + 1)).length ≤ i by simp; omega)]
    by_cases hij : j = i
    · omega
    · rw [if_neg hij]; rfl
theorem cut_dvd {m W : Int} (h : m ∣ W) (d : Nat) (f : Nat → Int) : Ser.cut m d (Ser.co (Ser.cut W d f)) = Ser.cut m d f :=
  Ser.cut_congr (fun i hi => by rw [Ser.co_cut hi]; exact Int.emod_emod_of_dvd _ h)
end Pl

/-- the modulus that the model calculates with -/
def tyW (p : Nat) (m : Int) (D : Nat) : Int := m * ((p ^ needN p D : Nat) : Int) * (p : Int)
def lawT (p : Nat) (m : Int) (D : Nat) (v : Nat → Int) : List (List Int) :=
  Pl.tab m D (Pl.lwF p (needN p D) ((p ^ needN p D : Nat) : Int) (tyW p m D) (Nmr.num p v) (D - 1))

theorem Span.ofB {lo hi : Nat} {w w' : World} (h : Below w.heap.size w w') : Span lo hi w w' := ⟨h.os, h.tape, h.output, h.size, fun k hk _ => h.block k hk⟩
theorem Span.set3 {lo hi : Nat} (w : World) (b j : Nat) (u : Value) (h1 : lo ≤ b) (h2 : b < hi) : Span lo hi w (w.setCell ⟨b, j, none⟩ u) :=
  Span.of_grown (grown_setCell w b j u) (fun g h => by injection h with h; subst h; exact ⟨h1, h2⟩)
theorem tyW_bd {p : Nat} {m : Int} {D : Nat} (hp : p = 2 ∨ p = 3 ∨ p = 5 ∨ p = 7) (h1 : 2 ≤ m) (h2 : m ≤ 10000) (d1 : 1 ≤ D) (d2 : D ≤ 10) :
    1 ≤ p ^ needN p D ∧ p ^ needN p D ≤ 10 ∧ 2 ≤ tyW p m D ∧ tyW p m D ≤ 700000 ∧ (0 ≤ m * ((p ^ needN p D : Nat) : Int) ∧ m * ((p ^ needN p D : Nat) : Int) ≤ 100000) ∧ m ∣ tyW p m D := by
  have h3 := needN_le3 p (in4 hp) D (List.mem_range.2 (by omega))
  have ht1 : 1 ≤ p ^ needN p D := Nat.pow_pos (by omega)
  have ht : p ^ needN p D ≤ D := by
    by_cases h0 : needN p D = 0
    · rw [h0, Nat.pow_zero]; exact d1
    · exact ((needN_at p (in4 hp) D (List.mem_range.2 (by omega)) (needN p D) (List.mem_range.2 (by omega))).1 ⟨by omega, Nat.le_refl _⟩).2
  obtain ⟨T, hT⟩ : ∃ T, p ^ needN p D = T := ⟨_, rfl⟩
  unfold tyW
  rw [hT] at ht ht1 ⊢
  have b1 : 2 * 1 ≤ m * (T : Int) := Int.mul_le_mul h1 (by omega) (by omega) (by omega)
  have b2 : m * (T : Int) ≤ 10000 * 10 := Int.mul_le_mul h2 (by omega) (by omega) (by omega)
  have b3 : (m * (T : Int)) * 1 ≤ m * (T : Int) * (p : Int) := Int.mul_le_mul_of_nonneg_left (by omega) (by omega)
  have b4 : m * (T : Int) * (p : Int) ≤ 100000 * 7 := Int.mul_le_mul (by omega) (by omega) (by omega) (by omega)
  exact ⟨ht1, by omega, by omega, by omega, ⟨by omega, by omega⟩, ⟨(T : Int) * p, by rw [Int.mul_assoc]⟩⟩
set_option maxHeartbeats 16000000 in
set_option maxRecDepth 100000 in
theorem l09Law_any (p : Nat) (m : Int) (D : Nat) (A : Option Addr) (c : Nat) (l : List Int) (w : World) (hp : p = 2 ∨ p = 3 ∨ p = 5 ∨ p = 7) (m1 : 2 ≤ m) (m2 : m ≤ 10000) (d1 : 1 ≤ D) (d2 : D ≤ 10) (hl : l.length ≤ 3) (hx : ∀ i, 0 ≤ Ser.co l i ∧ Ser.co l i ≤ 10000) (hr : RI w A l) :
    Calls Try.prog 18 #[.int .i64 p, .int .i64 m, .int .i64 D, .slice A l.length c] w fun e w' => ∃ u, e = .returned u ∧ OwnR w' w.heap.size w'.heap.size u (lawT p m D (Ser.co l)) ∧ Below w.heap.size w w' := by
  have HMO := Lib.hid (l09Most_any p D w hp d1 d2)
  obtain ⟨t1, t2, W1, W2, hmt, hdv⟩ := tyW_bd hp m1 m2 d1 d2
  have hN3 := needN_le3 p (in4 hp) D (List.mem_range.2 (by omega))
  have HLT := Lib.hid (show lawT p m D (Ser.co l) = Pl.tab m D (Pl.lwF p (needN p D) ((p ^ needN p D : Nat) : Int) (tyW p m D) (Nmr.num p (Ser.co l)) (D - 1)) from rfl)
  have HWE := Lib.hid (show m * ((p ^ needN p D : Nat) : Int) * (p : Int) = tyW p m D from rfl)
  obtain ⟨N, hN⟩ : ∃ N, needN p D = N := ⟨_, rfl⟩
  obtain ⟨T, hT⟩ : ∃ T, p ^ N = T := ⟨_, rfl⟩
  obtain ⟨W, hW⟩ : ∃ W, tyW p m D = W := ⟨_, rfl⟩
  rw [hN] at HMO t1 t2 hmt hN3 HLT HWE
  rw [hT] at HMO t1 t2 hmt HLT HWE
  rw [hW] at W1 W2 hdv HLT HWE
  have HTH := Lib.hid (fun W0 (h : RI W0 A l) => l09Three_any A c l W0 hl h)
  have HNM := Lib.hid (fun A1 c1 W0 (h : RI W0 A1 (ndL 3 l)) => by
    have := l09Numerators_any p W A1 c1 (ndL 3 l) W0 W1 (by omega) (by omega) (by omega) (by rw [ndL_length]; omega) (fun i => by
      rw [ndL_co]; split
      · have := hx i; omega
      · omega) h
    rw [ndL_length] at this
    rw [show Nmr.numR W p (Ser.co (ndL 3 l)) (3 + 1) = Nmr.numR W p (Ser.co l) 4 by
      rw [show Ser.co (ndL 3 l) = Ser.co l from funext fun i => by
        rw [ndL_co]; split
        · rfl
        · rw [Ser.co_over (by omega)]]] at this
    exact this)
  have HNL := Lib.hid (Nmr.numR_length W p (Ser.co l) 4)
  have HZ := Lib.hid (fun W0 => l03Zero_any W D W0 (by omega))
  have okD := fun f => Pl.OkG.of_tab W1 (show W ≤ 100000000 by omega) d1 d2 f
  have HCU := Lib.hid (fun (k : Nat) (hk : k + 2 ≤ D) A1 c1 W0 (h : RP W0 A1 (Pl.tab W D (Pl.lwF p N T W (Nmr.num p (Ser.co l)) k))) => by
    have := l03Cut_anyG W D A1 c1 _ (k + 2) W0 (okD _) h hk
    rw [Pl.tab_length, Pl.tab_congr (show Pl.Eq W (k + 2) _ _ from fun i j hij => Pl.pc_tab_eq W D (Pl.lwF p N T W (Nmr.num p (Ser.co l)) k) i j (by omega))] at this
    exact this)
  have HRE := Lib.hid (fun (k : Nat) (hk : k + 2 ≤ D) A0 c0 A1 c1 W0 (h0 : RI W0 A0 (Nmr.numR W p (Ser.co l) 4)) (h : RP W0 A1 (Pl.tab W (k + 2) (Pl.lwF p N T W (Nmr.num p (Ser.co l)) k))) => by
    have := l09Rest_any p N W (k + 2) (Ser.co l) A0 c0 A1 c1 _ W0 hp hN3 (Pl.OkG.of_tab W1 (by omega) (by omega) (by omega) _) h0 h
    rw [Pl.tab_length, Pl.tab_congr (Pl.restF_congr (Pl.pc_tab_eq W (k + 2) (Pl.lwF p N T W (Nmr.num p (Ser.co l)) k)) p N (Nmr.num p (Ser.co l)) (N + 1))] at this
    exact this)
  have HMD := Lib.hid (fun x W0 (h : -1000000 ≤ x ∧ x ≤ 1000000) => l01ModB_any W x W0 (by omega) (by omega) (by omega) (by omega))
  have hmw : m ≤ W := Int.le_of_dvd (by omega) hdv
  have HRS := Lib.hid (fun (j : Nat) (hj : j ≤ D) A1 c1 (f : Nat → Nat → Int) W0 (h : RI W0 A1 (Ser.cut W (D - j) (f j))) => by
    have := l02RestR_anyG m (D - j) W A1 c1 (Ser.cut W (D - j) (f j)) W0 m1 ⟨W1, by omega, by omega, Ser.cut_length _ _ _, Ser.cut_red (by omega) _ _⟩ h
    rw [Ser.cut_length, Pl.cut_dvd hdv] at this
    exact this)
  have HR := Lib.hid hr
  have hp7 : p ≤ 7 ∧ 2 ≤ p := by omega
  have hW0 : ¬ W = 0 := by omega
  have hT0 : ¬ (T : Int) = 0 := by omega
  obtain ⟨ll, hll⟩ : ∃ ll, l.length = ll := ⟨_, rfl⟩
  rw [hll] at HTH ⊢
  rw [HLT.out]
  have hWE := HWE.out
  clear HLT HWE
  clear hr hx hN hT hW hp okD hll hl
  go_enter Try.func18, Try.ntmps18
  go_wp2_with fail
  refine HMO.out.mono ?_
  rintro e w' ⟨rfl, rfl⟩
  go_wp2_with fail
  refine (HTH.out _ HR.out).mono ?_
  rintro e w1 ⟨u, rfl, ho1, hb1⟩
  obtain ⟨A1, c1, hu, -⟩ := ho1.form
  subst hu
  rw [ndL_length] at ho1 ⊢
  go_wp2_with fail
  refine (HNM.out _ _ _ ho1.ri).mono ?_
  rintro e w2 ⟨u, rfl, ho2, hb2⟩
  obtain ⟨A2, c2, hu, -⟩ := ho2.form
  subst hu
  rw [HNL.out] at ho2 ⊢
  have HB2 := Lib.hid (below_step hb1 hb2)
  have HO2 := Lib.hid ho2
  clear ho1 ho2 hb1 hb2 hWE HTH HNM HMO HR
  go_wp2_with fail
  refine (HZ.out _).mono ?_
  rintro e w3 ⟨u, rfl, ho, hb3⟩
  obtain ⟨g, cv, e3⟩ := ho.openv (by rw [Pl.tab_length]; omega)
  subst e3
  rw [Pl.tab_length] at ho ⊢
  have hz23 : w2.heap.size ≤ w3.heap.size := hb3.size
  have HN3 := Lib.hid (HO2.out.keep hb3)
  have HNB := Lib.hid (fun b (h : (Value.slice A2 4 c2).ownBlock = some b) => (HO2.out.lt b h).2)
  have HB3 := Lib.hid (below_step HB2.out hb3)
  -- the two coefficients in degree 1
  obtain ⟨b0, q0, p1, p2, p3, p4, p5, pg, p6⟩ := ho.poke3 0 1 (D + 1) (by omega) (by omega)
  obtain ⟨b1, q1, r1, -, -, -, -, -, -⟩ := ho.poke3 1 0 (D - 1 + 1) (by omega) rfl
  obtain ⟨D1, hD1⟩ : ∃ D1, D - 1 + 1 = D1 := ⟨_, rfl⟩
  have hD1' : D1 = D := by omega
  subst hD1'
  rw [hD1] at r1
  have e11 : (1 : Int) % W = 1 := Int.emod_eq_of_lt (by omega) (by omega)
  have e00 : (0 : Int) % W = 0 := Int.zero_emod W
  rw [e00] at p2
  have s1 := p6 (fun i j => if i = 0 ∧ j = 1 then 1 else 0) 1 (by show (if (0 : Nat) = 0 ∧ (1 : Nat) = 1 then (1 : Int) else 0) % W = 1; rw [if_pos ⟨rfl, rfl⟩]; exact e11) (fun i j _ h => by
    show (if i = 0 ∧ j = 1 then (1 : Int) else 0) % W = _
    rw [if_neg h])
  have S1 := Lib.hid s1
  have R1 := Lib.hid r1
  have P2 := Lib.hid p2
  have E11 := Lib.hid e11
  have HB33 := Lib.hid hb3
  clear p6 s1 hb3 e11 e00 ho hD1
  go_upto_region 5 with fail
  go_quiet (fail)
  obtain ⟨Z, hZ⟩ : ∃ Z, w3.drewN nq = Z := ⟨_, rfl⟩
  have hbz : Below w3.heap.size w3 Z := by rw [← hZ]; exact below_drewN (Below.refl _ _) _
  have p2z : Z.cell? ⟨b0, 1, none⟩ = some (.int .i64 0) := by rw [← hZ]; exact P2.out
  have p3z : Z.frozen? ⟨b0, 1, none⟩ = false := by rw [← hZ]; exact p3
  have s1z : OwnR (Z.setCell ⟨b0, 1, none⟩ (.int .i64 1)) w2.heap.size w3.heap.size (.slice (some ⟨g, 0, none⟩) (D1 + 1) cv) (Pl.tab W D1 (fun i j => if i = 0 ∧ j = 1 then 1 else 0)) := by
    rw [← hZ]
    show OwnR ((w3.setCell ⟨b0, 1, none⟩ (.int .i64 1)).drewN nq) _ _ _ _
    exact S1.out.keep (below_drewN (Below.refl _ _) _)
  have r1z : (Z.setCell ⟨b0, 1, none⟩ (.int .i64 1)).cell? ⟨g, 1, none⟩ = some (.slice (some ⟨b1, 0, none⟩) D1 q1) :=
    (World.cell?_of_block (Below.heap_setCell Z ⟨b0, 1, none⟩ _ g (fun e => pg e.symm))).trans (by rw [← hZ]; exact R1.out)
  obtain ⟨b3, q3, y1, y2, y3, y4, y5, -, y6⟩ := s1z.poke3 1 0 D1 (by omega) (by omega)
  rw [r1z] at y1
  injection y1 with y1
  injection y1 with y1a y1b y1c
  injection y1a with y1a
  injection y1a with y1a
  subst y1a y1c
  have hs2 := y6 Pl.xyF 1 (by show ((if (1 : Nat) = 0 ∧ (0 : Nat) = 1 then (1 : Int) else 0) + (if (1 : Nat) = 1 ∧ (0 : Nat) = 0 then 1 else 0)) % W = 1; exact E11.out) (fun i j _ h => by
    show ((if i = 0 ∧ j = 1 then (1 : Int) else 0) + (if i = 1 ∧ j = 0 then 1 else 0)) % W = _
    rw [if_neg h, Int.add_zero])
  obtain ⟨Y1, hY1⟩ : ∃ Y1, Z.setCell ⟨b0, 1, none⟩ (.int .i64 1) = Y1 := ⟨_, rfl⟩
  rw [hY1] at y2 y3 hs2
  have hsp1 : Span w2.heap.size w3.heap.size w3 Y1 := by rw [← hY1]; exact (Span.ofB hbz).trans (Span.set3 _ _ _ _ p4 p5)
  obtain ⟨Y2, hY2⟩ : ∃ Y2, Y1.setCell ⟨b1, 0, none⟩ (.int .i64 1) = Y2 := ⟨_, rfl⟩
  rw [hY2] at hs2
  have hsp2 : Span w2.heap.size w3.heap.size w3 Y2 := by rw [← hY2]; exact hsp1.trans (Span.set3 _ _ _ _ y4 y5)
  have OX := Lib.hid hs2
  have SX := Lib.hid hsp2
  have HY1 := Lib.hid hY1
  have HY2 := Lib.hid hY2
  rw [hZ]
  clear hZ hbz s1z r1z y6 hs2 hY1 hY2 hsp1 hsp2 S1 R1 P2 p1 p2 p3 r1 HB33 y1b
  go_upto_region 7 with fail
  rw [HY1.out]
  clear HY1 p2z p3z
  go_upto_region 8 with fail
  rw [HY2.out]
  clear HY2 y2 y3
  go_wp2
  go_loopw [16, 17, 18, 19] (fun s16 _ _ _ wr => ∃ k : Nat, k + 1 ≤ D1 ∧ s16 = .int .i64 ((k : Int) + 2) ∧ OwnR wr w2.heap.size w3.heap.size (.slice (some ⟨g, 0, none⟩) (D1 + 1) cv) (Pl.tab W D1 (Pl.lwF p N T W (Nmr.num p (Ser.co l)) k)) ∧ Span w2.heap.size w3.heap.size w3 wr) (fun s16 _ _ _ _ => D1 + 3 - (intOf s16).toNat)
  case atStart => exact ⟨0, by omega, by go_num, OX.out, SX.out⟩
  case round =>
    clear OX SX
    obtain ⟨wo, hwo⟩ : ∃ wo, wo = wr := ⟨_, rfl⟩
    subst hwo
    obtain ⟨k, hk, rfl, ho, hs⟩ := hrel
    have HO := Lib.hid ho
    have HS := Lib.hid hs
    clear ho hs
    by_cases hlt : k + 2 ≤ D1
    · have i1 : (k : Int) + 2 ≤ (D1 : Int) := by omega
      have HCK := Lib.hid (fun A1 c1 W0 h => by have := HCU.out k hlt A1 c1 W0 h; rw [show ((k + 2 : Nat) : Int) = (k : Int) + 2 by omega] at this; exact this)
      have HRK := Lib.hid (fun A0 c0 A1 c1 W0 h0 h => HRE.out k hlt A0 c0 A1 c1 W0 h0 h)
      have hz3o := HS.out.size
      go_wp2_with fail
      refine (HCK.out _ _ wo HO.out.rp).mono ?_
      rintro e w4 ⟨u, rfl, ho4, hb4⟩
      obtain ⟨A4, c4, hu, -⟩ := ho4.len
      subst hu
      rw [Pl.tab_length] at ho4 ⊢
      have hn4 := ((HN3.out.far HS.out (fun b hb => .inl (HNB.out b hb))).keep hb4).ri
      go_wp2_with fail
      refine (HRK.out _ _ _ _ w4 hn4 ho4.rp).mono ?_
      rintro e w5 ⟨u, rfl, ho5, hb5⟩
      obtain ⟨g5, cv5, e5⟩ := ho5.openv (by rw [Pl.tab_length]; omega)
      subst e5
      rw [Pl.tab_length] at ho5 ⊢
      have hz34 : w3.heap.size ≤ w4.heap.size := Nat.le_trans hz3o hb4.size
      have HO5 := Lib.hid ho5
      have H25 := Lib.hid (below_step hb4 hb5)
      have HOO := Lib.hid ((HO.out.keep (hb4.mono hz3o)).keep (hb5.mono hz34))
      rw [← Pl.lwP_one] at HOO
      clear hn4 ho4 ho5 hb4 hb5 HCK HRK HO
      go_wp2
      go_loopw [18, 19] (fun s18 _ wx => ∃ i : Nat, 1 ≤ i ∧ i ≤ k + 2 ∧ s18 = .int .i64 i ∧ OwnR wx w2.heap.size w3.heap.size (.slice (some ⟨g, 0, none⟩) (D1 + 1) cv) (Pl.tab W D1 (Pl.lwP p N T W (Nmr.num p (Ser.co l)) k i)) ∧ Span w2.heap.size w3.heap.size w5 wx) (fun s18 _ _ => k + 3 - (intOf s18).toNat)
      case atStart => exact ⟨1, by omega, by omega, rfl, HOO.out, Span.refl _ _ _⟩
      case round =>
        clear HOO
        obtain ⟨i, hi1, hi2, rfl, ho, hs⟩ := hrel
        by_cases hil : i < k + 2
        · obtain ⟨J, hJ⟩ : ∃ J, k + 2 - i = J := ⟨_, rfl⟩
          obtain ⟨M, hM⟩ : ∃ M, D1 - i + 1 = M := ⟨_, rfl⟩
          obtain ⟨b1', q1', p1, p2, p3, p4, p5, -, p6⟩ := ho.poke3 i J M (by omega) hM.symm
          obtain ⟨b2', q2', r1, r2, -, -, -, -, -⟩ := (HO5.out.far hs (.inr hz34)).poke3 i J (J + 1) (by omega) (by omega)
          have hrb : 0 ≤ Pl.restF p N (Nmr.num p (Ser.co l)) (Pl.lwF p N T W (Nmr.num p (Ser.co l)) k) (N + 1) i J % W ∧ Pl.restF p N (Nmr.num p (Ser.co l)) (Pl.lwF p N T W (Nmr.num p (Ser.co l)) k) (N + 1) i J % W < W := ⟨Int.emod_nonneg _ (by omega), Int.emod_lt_of_pos _ (by omega)⟩
          have hd := p6 (Pl.lwP p N T W (Nmr.num p (Ser.co l)) k (i + 1)) (Pl.dueF p N T W (Nmr.num p (Ser.co l)) (Pl.lwF p N T W (Nmr.num p (Ser.co l)) k) i J) (by
            rw [← hJ, Pl.lwP_at p N T W _ k i hi1 hil]
            exact Int.emod_emod _ _) (fun a b _ h => by rw [Pl.lwP_ne p N T W _ k i a b (by rw [hJ]; exact h)])
          unfold Pl.dueF at hd
          obtain ⟨R, hR⟩ : ∃ R, Pl.restF p N (Nmr.num p (Ser.co l)) (Pl.lwF p N T W (Nmr.num p (Ser.co l)) k) (N + 1) i J % W = R := ⟨_, rfl⟩
          rw [hR] at hrb hd r2
          have hq3 : R ≤ 700000 := by omega
          have hq1 : 0 ≤ R / (T : Int) := Int.ediv_nonneg hrb.1 (by omega)
          have hq2 : R / (T : Int) ≤ R := Int.ediv_le_self _ hrb.1
          have HMQ := Lib.hid (fun W0 => HMD.out (-(R / (T : Int))) W0 (by omega))
          have hTQ : R.tdiv (T : Int) = R / (T : Int) := Int.tdiv_eq_ediv_of_nonneg hrb.1
          obtain ⟨Q, hQ⟩ : ∃ Q, R / (T : Int) = Q := ⟨_, rfl⟩
          rw [hQ] at hd hq1 hq2 HMQ hTQ
          obtain ⟨X, hX⟩ : ∃ X, (Pl.lwP p N T W (Nmr.num p (Ser.co l)) k i) i J % W = X := ⟨_, rfl⟩
          rw [hX] at p2
          have HD := Lib.hid hd
          have HSS := Lib.hid (hs.trans (Span.set3 wr b1' J (.int .i64 (-Q % W)) p4 p5))
          have j1 : (i : Int) < (k : Int) + 2 := by omega
          have j2 : (0 : Int) ≤ (i : Int) := by omega
          have j3 : (i : Int) < (D1 : Int) + 1 := by omega
          have j4 : (k : Int) + 2 - (i : Int) = (J : Int) := by omega
          have j5 : (0 : Int) ≤ (J : Int) := by omega
          have j6 : (J : Int) < (M : Int) := by omega
          have j7 : (J : Int) < (J : Int) + 1 := by omega
          have j8 : (i : Int) < (k : Int) + 2 + 1 := by omega
          clear p6 hd hR hQ hX ho hs hJ hM p4 p5 hrb HMD HRE HCU HRS
          go_wp2_with fail
          refine (HMQ.out _).mono ?_
          rintro e w' ⟨rfl, rfl⟩
          obtain ⟨Y, hY⟩ : ∃ Y, wr.setCell ⟨b1', J, none⟩ (.int .i64 (-Q % W)) = Y := ⟨_, rfl⟩
          have HY := Lib.hid hY
          rw [hY] at HD HSS
          clear hY HMQ
          go_wp2
          rw [HY.out]
          go_roundw
          case rel => exact ⟨i + 1, by omega, by omega, by go_num, HD.out, HSS.out⟩
          case measure => simp only [intOf]; omega
        · obtain rfl : i = k + 2 := by omega
          rw [Pl.lwP_all] at ho
          have j1 : ¬ (((k + 2 : Nat) : Int) < (k : Int) + 2) := by omega
          have NO := Lib.hid ho
          have NS := Lib.hid ((HS.out.trans (Span.ofB H25.out)).trans hs)
          clear ho hs
          go_wp2
          go_roundw
          case rel => exact ⟨k + 1, by omega, by go_num, NO.out, NS.out⟩
          case measure => simp only [intOf]; omega
    · have hkD : k = D1 - 1 := by omega
      subst hkD
      have i1 : ¬ (((D1 - 1 : Nat) : Int) + 2 ≤ (D1 : Int)) := by omega
      have ho := HO.out
      obtain ⟨f, hf⟩ : ∃ f, Pl.lwF p N T W (Nmr.num p (Ser.co l)) (D1 - 1) = f := ⟨_, rfl⟩
      rw [hf] at ho
      have HFQ := Lib.hid hf
      rw [← Pl.mixT_zero m W D1 f] at ho
      have hz3o := HS.out.size
      have HO1 := Lib.hid (ho.more hz3o)
      have HBW := Lib.hid (HB3.out.trans ((HS.out.below hz23).mono (by have := HB2.out.size; exact this)))
      clear ho HO hf HCU HRE HMD
      go_wp2
      go_loopw [20] (fun s20 wx => ∃ j : Nat, j ≤ D1 + 1 ∧ s20 = .int .i64 j ∧ OwnR wx w2.heap.size wx.heap.size (.slice (some ⟨g, 0, none⟩) (D1 + 1) cv) (Pl.mixT m W D1 f j) ∧ Below w.heap.size w wx) (fun s20 _ => D1 + 2 - (intOf s20).toNat)
      case atStart => exact ⟨0, Nat.zero_le _, rfl, HO1.out, HBW.out⟩
      case round =>
        clear HO1 HBW
        obtain ⟨j, hj, rfl, ho, hb⟩ := hrel
        have HO1 := Lib.hid ho
        have HBW := Lib.hid hb
        by_cases hjl : j < D1 + 1
        · have hml := Pl.mixT_length m W D1 f j
          obtain ⟨b, off, A7, c7, e7, hb7, hc7, hcap7, hri7⟩ := ho.rp.at j (by rw [hml]; exact hjl)
          injection e7 with e7
          injection e7 with e7a e7b
          subst e7a e7b
          rw [Pl.mixT_row m W D1 f j (by omega)] at hc7 hri7
          rw [Ser.cut_length, Nat.zero_add] at hc7
          have hrs := HRS.out j (by omega) A7 c7 f wr hri7
          obtain ⟨M, hM⟩ : ∃ M, D1 - j + 1 = M := ⟨_, rfl⟩
          rw [hM] at hc7 hrs
          have HRQ := Lib.hid hrs
          have hrl : (Ser.cut m (D1 - j) (f j)).length = M := by rw [Ser.cut_length, hM]
          have HST := Lib.hid (Pl.mixT_set m W D1 f j (by omega))
          obtain ⟨row, hrow⟩ : ∃ row, Ser.cut m (D1 - j) (f j) = row := ⟨_, rfl⟩
          rw [hrow] at HRQ HST hrl
          have HRL := Lib.hid hrl
          have j1 : (j : Int) < (D1 : Int) + 1 := by omega
          have j2 : (0 : Int) ≤ (j : Int) := by omega
          have HML := Lib.hid hml
          clear hrs hM hrow hri7 hcap7 ho hb hrl hml
          go_wp2_with fail
          refine HRQ.out.mono ?_
          rintro e w8 ⟨u, rfl, ho8, hb8⟩
          obtain ⟨A8, c8, hu8, -⟩ := ho8.form
          subst hu8
          rw [HRL.out] at ho8 ⊢
          have ho9 := HO1.out.keep hb8
          obtain ⟨hg1, hg2, hg3, hfz, A9, c9, hcl, -, -, -⟩ := ho9.cell j (by rw [HML.out]; exact hjl)
          have hput := ho9.put j (by rw [HML.out]; exact hjl) (.slice A8 M c8) row (ho8.more (show w2.heap.size ≤ wr.heap.size by have := hcl; have := HBW.out.size; omega)) (hi' := w8.heap.size) (fun b hb => ⟨(ho8.lt b hb).1, (ho8.lt b hb).2⟩) hb8.size
          rw [HST.out] at hput
          obtain ⟨Y, hY⟩ : ∃ Y, w8.setCell ⟨g, j, none⟩ (.slice A8 M c8) = Y := ⟨_, rfl⟩
          have hyz : Y.heap.size = w8.heap.size := by rw [← hY]; simp [World.setCell]
          have nb : Below w.heap.size w Y := by
            rw [← hY]
            exact (below_step HBW.out hb8).setCell (p := ⟨g, j, none⟩) (Nat.le_trans HB2.out.size hg1) _
          rw [hY, ← hyz] at hput
          have HPUT := Lib.hid hput
          have NB := Lib.hid nb
          have HY := Lib.hid hY
          clear hput hyz nb hY ho8 hb8 hg1 hg2 hg3 HRQ HST ho9
          go_wp2
          rw [HY.out]
          go_roundw
          case rel => exact ⟨j + 1, by omega, by go_num, HPUT.out, NB.out⟩
          case measure => simp only [intOf]; omega
        · obtain rfl : j = D1 + 1 := by omega
          have i9 : ¬ (((D1 + 1 : Nat) : Int) < (D1 : Int) + 1) := by omega
          rw [Pl.mixT_all] at ho
          have HF := Lib.hid ho
          clear ho hb
          have hww : w.heap.size ≤ w2.heap.size := HB2.out.size
          go_wp2
          go_ret
          exact ⟨_, rfl, by rw [HFQ.out]; exact HF.out.low hww, HBW.out⟩

end Go.Proofs.Ytfhdgcndiljjcab

/- Plain facts on standard laws: monomials, the laws of the tangent and of Euler as quotients: no program in sight. -/
namespace Go.Proofs.Ytfhdgcndiljjcab
namespace Pl
open Ser (psum)

/-- x^a y^b -/
def mon2 (a b : Nat) : Nat → Nat → Int := fun i j => if i = a ∧ j = b then 1 else 0
theorem psum_one (g : Nat → Int) (a : Nat) : ∀ n, (∀ i, i < n → i ≠ a → g i = 0) → psum g n = if a < n then g a else 0 := by
  intro n
  induction n with
  | zero => intro _; rfl
  | succ n ih =>
    intro h
    rw [Ser.psum, ih (fun i hi => h i (by omega))]
    by_cases h1 : a < n
    · rw [if_pos h1, if_pos (by omega), h n (by omega) (by omega), Int.add_zero]
    · by_cases h2 : a = n
      · rw [if_neg h1, if_pos (by omega), h2, Int.zero_add]
      · rw [if_neg h1, if_neg (by omega), h n (by omega) (fun e => h2 e.symm), Int.add_zero]
theorem mon2_mul2 (a b : Nat) (F : Nat → Nat → Int) (p q : Nat) : mul2 (mon2 a b) F p q = if a ≤ p ∧ b ≤ q then F (p - a) (q - b) else 0 := by
  unfold mul2
  rw [psum_one _ a _ (fun i _ hi => Ser.psum_low _ _ (fun j _ => by unfold mon2; rw [if_neg (fun e => hi e.1), Int.zero_mul]))]
  by_cases h : a ≤ p
  · rw [if_pos (by omega), psum_one _ b _ (fun j _ hj => by unfold mon2; rw [if_neg (fun e => hj e.2), Int.zero_mul])]
    by_cases k : b ≤ q
    · rw [if_pos (by omega), if_pos ⟨h, k⟩]
      unfold mon2
      rw [if_pos ⟨rfl, rfl⟩, Int.one_mul]
    · rw [if_neg (by omega), if_neg (fun e => k e.2)]
  · rw [if_neg (by omega), if_neg (fun e => h e.1)]
theorem mul2_mon2 (a b : Nat) (F : Nat → Nat → Int) (p q : Nat) : mul2 F (mon2 a b) p q = if a ≤ p ∧ b ≤ q then F (p - a) (q - b) else 0 := by rw [mul2_comm, mon2_mul2]
theorem mon2_mon2 (a b c e : Nat) : mul2 (mon2 a b) (mon2 c e) = mon2 (a + c) (b + e) := by
  funext p q
  rw [mon2_mul2]
  unfold mon2
  by_cases h : p = a + c ∧ q = b + e
  · rw [if_pos (by omega), if_pos (by omega), if_pos h]
  · rw [if_neg h]
    by_cases k : a ≤ p ∧ b ≤ q
    · rw [if_pos k, if_neg (by omega)]
    · rw [if_neg k]
theorem mon2_zero : mon2 0 0 = one2 1 := rfl
theorem pw2_y : ∀ k, pw2 (mon2 0 1) k = mon2 0 k := by
  intro k
  induction k with
  | zero => rfl
  | succ k ih => show mul2 (pw2 (mon2 0 1) k) (mon2 0 1) = _; rw [ih, mon2_mon2]
theorem pw2_x : ∀ k, pw2 (mon2 1 0) k = mon2 k 0 := by
  intro k
  induction k with
  | zero => rfl
  | succ k ih => show mul2 (pw2 (mon2 1 0) k) (mon2 1 0) = _; rw [ih, mon2_mon2]
theorem pw2_congr {m : Int} {d : Nat} {F G : Nat → Nat → Int} (h : Eq m d F G) : ∀ k, Eq m d (pw2 F k) (pw2 G k) := by
  intro k
  induction k with
  | zero => exact Eq.refl _ _ _
  | succ k ih => exact mul2_congr ih h
/-- a series put upon a table: the sum of powers -/
def aft (l : Nat → Int) (F : Nat → Nat → Int) (n : Nat) : Nat → Nat → Int := fun p q => psum (fun i => l i * pw2 F i p q) n
theorem aft_congr {m : Int} {d : Nat} {l l' : Nat → Int} {F G : Nat → Nat → Int} (n : Nat) (hl : ∀ i, i < n → l i % m = l' i % m) (h : Eq m d F G) : Eq m d (aft l F n) (aft l' G n) :=
  fun p q hpq => Ser.psum_congr _ (fun i hi => Ser.mul_cong (hl i hi) (pw2_congr h i p q hpq))
theorem horq_aft {m : Int} {d : Nat} {l : List Int} (hl : l.length = d + 1) (F : Nat → Nat → Int) : Eq m d (pc (horq m d l F (d + 1))) (aft (Ser.co l) F (d + 1)) := by
  have h := horq_pw (m := m) (d := d) l F (d + 1) (by omega)
  refine h.trans (Eq.of m d (fun p q _ => ?_))
  refine Ser.psum_ext _ (fun i _ => ?_)
  rw [hl, Nat.sub_self, Nat.zero_add]
theorem aft_y (l : Nat → Int) (n p q : Nat) (h : q < n) : aft l (mon2 0 1) n p q = if p = 0 then l q else 0 := by
  unfold aft
  rw [psum_one _ q _ (fun i _ hi => by rw [pw2_y]; unfold mon2; rw [if_neg (fun e => hi e.2.symm), Int.mul_zero]), if_pos h, pw2_y]
  unfold mon2
  by_cases hp : p = 0
  · rw [if_pos ⟨hp, rfl⟩, if_pos hp, Int.mul_one]
  · rw [if_neg (fun e => hp e.1), if_neg hp, Int.mul_zero]
theorem aft_x (l : Nat → Int) (n p q : Nat) (h : p < n) : aft l (mon2 1 0) n p q = if q = 0 then l p else 0 := by
  unfold aft
  rw [psum_one _ p _ (fun i _ hi => by rw [pw2_x]; unfold mon2; rw [if_neg (fun e => hi e.1.symm), Int.mul_zero]), if_pos h, pw2_x]
  unfold mon2
  by_cases hq : q = 0
  · rw [if_pos ⟨rfl, hq⟩, if_pos hq, Int.mul_one]
  · rw [if_neg (fun e => hq e.2), if_neg hq, Int.mul_zero]

/-! the multiplicative law -/
def muF (c : Int) : Nat → Nat → Int := fun i j => if (i = 1 ∧ j = 0) ∨ (i = 0 ∧ j = 1) then 1 else if i = 1 ∧ j = 1 then c else 0
theorem mu_eq (c : Int) : pl (pl (mon2 1 0) (mon2 0 1)) (sm c (mul2 (mon2 1 0) (mon2 0 1))) = muF c := by
  funext i j
  rw [mon2_mon2]
  unfold pl sm mon2 muF
  by_cases h1 : i = 1 ∧ j = 0
  · rw [if_pos h1, if_neg (by omega), if_neg (by omega), if_pos (.inl h1)]; omega
  · by_cases h2 : i = 0 ∧ j = 1
    · rw [if_neg h1, if_pos h2, if_neg (by omega), if_pos (.inr h2)]; omega
    · rw [if_neg h1, if_neg h2, if_neg (show ¬ ((i = 1 ∧ j = 0) ∨ (i = 0 ∧ j = 1)) from fun e => e.elim h1 h2)]
      by_cases h3 : i = 1 ∧ j = 1
      · rw [if_pos (by omega), if_pos h3]; omega
      · rw [if_neg (by omega), if_neg h3]; omega
theorem mu_zero : pl (mon2 1 0) (mon2 0 1) = muF 0 := by
  rw [← mu_eq]
  funext i j
  unfold pl sm
  rw [Int.zero_mul, Int.add_zero]

/-! the law of the tangent -/
def taF (e : Int) : Nat → Nat → Int := fun i j => if i = j + 1 then e ^ j else if j = i + 1 then e ^ i else 0
theorem ta_fix (e : Int) : pl (pl (mon2 1 0) (mon2 0 1)) (mul2 (taF e) (sm e (mon2 1 1))) = taF e := by
  funext i j
  rw [mul2_sm]
  show mon2 1 0 i j + mon2 0 1 i j + e * mul2 (taF e) (mon2 1 1) i j = taF e i j
  rw [mul2_mon2]
  unfold mon2 taF
  by_cases h0 : 1 ≤ i ∧ 1 ≤ j
  · rw [if_neg (by omega), if_neg (by omega), if_pos h0]
    by_cases h1 : i = j + 1
    · rw [if_pos (by omega), if_pos h1, Int.zero_add, Int.zero_add]
      obtain ⟨j, rfl⟩ : ∃ j', j = j' + 1 := ⟨j - 1, by omega⟩
      rw [Nat.add_sub_cancel, Int.pow_succ, Int.mul_comm]
    · by_cases h2 : j = i + 1
      · rw [if_neg (by omega), if_pos (by omega), if_neg h1, if_pos h2, Int.zero_add, Int.zero_add]
        obtain ⟨i, rfl⟩ : ∃ i', i = i' + 1 := ⟨i - 1, by omega⟩
        rw [Nat.add_sub_cancel, Int.pow_succ, Int.mul_comm]
      · rw [if_neg (by omega), if_neg (by omega), if_neg h1, if_neg h2]; omega
  · rw [if_neg h0]
    by_cases h1 : i = 1 ∧ j = 0
    · rw [if_pos h1, if_neg (by omega), if_pos (by omega), h1.2, Int.pow_zero]; omega
    · by_cases h2 : i = 0 ∧ j = 1
      · rw [if_neg h1, if_pos h2, if_neg (by omega), if_pos (by omega), h2.1, Int.pow_zero]; omega
      · rw [if_neg h1, if_neg h2, if_neg (by omega), if_neg (by omega)]; omega

/-! the law of Euler -/
/-- x r(y) + y r(x) -/
def euT (r : Nat → Int) : Nat → Nat → Int := fun i j => (if i = 1 then r j else 0) + (if j = 1 then r i else 0)
/-- the sum of e^k x^2k y^2k -/
def euG (e : Int) : Nat → Nat → Int := fun i j => if i = j ∧ i % 2 = 0 then e ^ (i / 2) else 0
theorem eug_fix (e : Int) : pl (one2 1) (mul2 (euG e) (sm e (mon2 2 2))) = euG e := by
  funext i j
  rw [mul2_sm]
  show one2 1 i j + e * mul2 (euG e) (mon2 2 2) i j = euG e i j
  rw [mul2_mon2]
  unfold one2 euG
  by_cases h0 : 2 ≤ i ∧ 2 ≤ j
  · rw [if_neg (by omega), if_pos h0]
    by_cases h1 : i = j ∧ i % 2 = 0
    · rw [if_pos (by omega), if_pos h1, Int.zero_add, show i / 2 = (i - 2) / 2 + 1 by omega, Int.pow_succ, Int.mul_comm]
    · rw [if_neg (by omega), if_neg h1]; omega
  · rw [if_neg h0]
    by_cases h1 : i = 0 ∧ j = 0
    · rw [if_pos h1, if_pos (by omega), h1.1]; simp
    · rw [if_neg h1, if_neg (by omega)]; omega
theorem eu_fix (r : Nat → Int) (e : Int) : pl (euT r) (mul2 (mul2 (euT r) (euG e)) (sm e (mon2 2 2))) = mul2 (euT r) (euG e) := by
  rw [mul2_assoc]
  have h := eug_fix e
  have : mul2 (euT r) (pl (one2 1) (mul2 (euG e) (sm e (mon2 2 2)))) = mul2 (euT r) (euG e) := by rw [h]
  rw [mul2_pl, mul2_one2, one_sm] at this
  exact this
theorem eut_eq (r : Nat → Int) (d : Nat) (i j : Nat) (h : i + j ≤ d) : pl (mul2 (mon2 1 0) (aft r (mon2 0 1) (d + 1))) (mul2 (mon2 0 1) (aft r (mon2 1 0) (d + 1))) i j = euT r i j := by
  show mul2 _ _ i j + mul2 _ _ i j = _
  rw [mon2_mul2, mon2_mul2]
  unfold euT
  congr 1
  · by_cases h1 : i = 1
    · rw [if_pos (by omega), aft_y _ _ _ _ (by omega), if_pos (by omega), if_pos h1]; rfl
    · rw [if_neg h1]
      by_cases h2 : 1 ≤ i ∧ 0 ≤ j
      · rw [if_pos h2, aft_y _ _ _ _ (by omega), if_neg (by omega)]
      · rw [if_neg h2]
  · by_cases h1 : j = 1
    · rw [if_pos (by omega), aft_x _ _ _ _ (by omega), if_pos (by omega), if_pos h1]; rfl
    · rw [if_neg h1]
      by_cases h2 : 0 ≤ i ∧ 1 ≤ j
      · rw [if_pos h2, aft_x _ _ _ _ (by omega), if_neg (by omega)]
      · rw [if_neg h2]
/-- quotients by 1 + c t', where 1 - (1 + G) is taken for R -/
theorem rest_eq {m : Int} {d : Nat} (t : List (List Int)) {G : Nat → Nat → Int} (h : Eq m d (pc t) (pl (one2 1) G)) : Eq m d (pc (polT m d (pc t) [1, -1])) (sm (-1) G) := by
  have h1 := polF_tab (pc t) h [1, -1]
  rw [polF_two] at h1
  refine h1.trans (Eq.fn ?_)
  funext i j
  show -1 * (one2 1 i j + G i j) + one2 1 i j = -1 * G i j
  omega
end Pl
end Go.Proofs.Ytfhdgcndiljjcab

/- Contract of the model's greatest common divisor. -/
namespace Go.Proofs.Ytfhdgcndiljjcab
open Go.RowKit Go.WideShapes Go.ChangeShapes Go.ChangeAt

/-- the greatest common divisor, at integers of any sign -/
def gcdI (a b : Int) : Int := (Nat.gcd a.natAbs b.natAbs : Nat)
theorem emod_nat (G H : Nat) : (G : Int) % (H : Int) = ((G % H : Nat) : Int) := (Int.natCast_emod G H).symm
end Go.Proofs.Ytfhdgcndiljjcab

/- Plain facts: systems of linear equations modulo m, kept in a triangle, and their least solutions. -/
namespace Go.Proofs.Ytfhdgcndiljjcab
open Go.RowKit

namespace Sys
open Ser
/-- an equation's value at x; x 0 stands for 1 -/
def val (e : List Int) (x : Nat → Int) : Int := psum (fun i => co e i * x i) 11
def low (e : List Int) (k : Nat) (x : Nat → Int) : Int := psum (fun i => co e i * x i) k
def Sat (m : Int) (x : Nat → Int) (e : List Int) : Prop := val e x % m = 0
def lessE (m q : Int) (e f : List Int) : List Int := cut m 10 fun k => co e k - q * co f k
def timesE (m c : Int) (e : List Int) : List Int := cut m 10 fun k => c * co e k
/-- an equation as the program has them: eleven reduced numbers -/
structure Ok (m : Int) (e : List Int) : Prop where
  len : e.length = 11
  red : Red m e
def lastF (e : List Int) : Nat → Nat
  | 0 => 0
  | k + 1 => if co e (k + 1) = 0 then lastF e k else k + 1
def lastE (e : List Int) : Nat := lastF e 10
theorem lastF_le (e : List Int) : ∀ k, lastF e k ≤ k
  | 0 => Nat.le_refl _
  | k + 1 => by unfold lastF; split
                · have := lastF_le e k; omega
                · omega
theorem lastF_ne (e : List Int) : ∀ k, lastF e k ≠ 0 → co e (lastF e k) ≠ 0
  | 0, h => absurd rfl h
  | k + 1, h => by
    unfold lastF at h ⊢
    split
    · rename_i h0
      rw [if_pos h0] at h
      exact lastF_ne e k h
    · assumption
theorem lastF_over (e : List Int) : ∀ k j, lastF e k < j → j ≤ k → co e j = 0
  | 0, j, h1, h2 => by unfold lastF at h1; omega
  | k + 1, j, h1, h2 => by
    unfold lastF at h1
    split at h1
    · rename_i h0
      by_cases hj : j = k + 1
      · rw [hj]; exact h0
      · exact lastF_over e k j h1 (by omega)
    · omega
theorem lastE_over {m : Int} {e : List Int} (h : Ok m e) (j : Nat) (hj : lastE e < j) : co e j = 0 := by
  by_cases h10 : j ≤ 10
  · exact lastF_over e 10 j hj h10
  · exact co_over (by rw [h.len]; omega)
theorem lastE_le_of {e : List Int} {k : Nat} (h : ∀ j, k < j → co e j = 0) : lastE e ≤ k := by
  apply Classical.byContradiction
  intro hn
  have h0 : lastE e ≠ 0 := by omega
  exact lastF_ne e 10 h0 (h _ (by unfold lastE at hn; omega))
theorem Ok.cut {m : Int} (hm : 0 < m) (f : Nat → Int) : Ok m (Ser.cut m 10 f) := ⟨cut_length _ _ _, cut_red hm _ _⟩
theorem val_cut (m : Int) (f x : Nat → Int) : val (Ser.cut m 10 f) x % m = psum (fun i => f i * x i) 11 % m := by
  unfold val
  refine psum_congr 11 (fun i hi => ?_)
  rw [co_cut (by omega), Int.mul_emod, Int.emod_emod, ← Int.mul_emod]
theorem val_less (m q : Int) (e f : List Int) (x : Nat → Int) : val (lessE m q e f) x % m = (val e x - q * val f x) % m := by
  unfold lessE
  rw [val_cut]
  congr 1
  unfold val
  rw [← psum_mul, show psum (fun i => co e i * x i) 11 - psum (fun i => q * (co f i * x i)) 11 = psum (fun i => co e i * x i) 11 + (-1) * psum (fun i => q * (co f i * x i)) 11 by omega, ← psum_mul, ← psum_add]
  exact psum_ext 11 (fun i _ => by grind)
theorem val_times (m c : Int) (e : List Int) (x : Nat → Int) : val (timesE m c e) x % m = c * val e x % m := by
  unfold timesE
  rw [val_cut]
  congr 1
  unfold val
  rw [← psum_mul]
  exact psum_ext 11 (fun i _ => by grind)
theorem sat_less {m q : Int} {e f : List Int} {x : Nat → Int} (he : Sat m x e) (hf : Sat m x f) : Sat m x (lessE m q e f) := by
  unfold Sat at *
  rw [val_less, Int.sub_emod, he, Int.mul_emod, hf]
  simp
theorem sat_of_less {m q : Int} {e f : List Int} {x : Nat → Int} (he : Sat m x (lessE m q e f)) (hf : Sat m x f) : Sat m x e := by
  unfold Sat at *
  rw [val_less] at he
  have h1 : m ∣ val e x - q * val f x := Int.dvd_of_emod_eq_zero he
  have h2 : m ∣ val f x := Int.dvd_of_emod_eq_zero hf
  have h3 : m ∣ q * val f x := Int.dvd_mul_of_dvd_right h2
  have := Int.dvd_add h1 h3
  rw [show val e x - q * val f x + q * val f x = val e x by omega] at this
  exact Int.emod_eq_zero_of_dvd this
theorem sat_times {m c : Int} {e : List Int} {x : Nat → Int} (he : Sat m x e) : Sat m x (timesE m c e) := by
  unfold Sat at *
  rw [val_times, Int.mul_emod, he]
  simp
/-- Euclid's algorithm on two equations -/
def euc (m : Int) (k : Nat) : Nat → List Int → List Int → List Int × List Int
  | 0, row, e => (row, e)
  | n + 1, row, e => if co e k = 0 then (row, e) else euc m k n e (lessE m (co row k / co e k) row e)
theorem less_at {m : Int} {row e : List Int} {k : Nat} (hk : k ≤ 10) (he : Ok m e) (h0 : co e k ≠ 0) : co (lessE m (co row k / co e k) row e) k = co row k % co e k := by
  unfold lessE
  rw [co_cut hk]
  have h1 := he.red k
  have h2 := Int.emod_add_mul_ediv (co row k) (co e k)
  have h3 := Int.emod_nonneg (co row k) h0
  have h4 := Int.emod_lt_of_pos (co row k) (show 0 < co e k by omega)
  rw [show co row k - co row k / co e k * co e k = co row k % co e k by rw [Int.mul_comm (co row k / co e k)]; omega]
  exact Int.emod_eq_of_lt h3 (by omega)
structure EucOk (m : Int) (k : Nat) (row e : List Int) (r : List Int × List Int) : Prop where
  ok1 : Ok m r.1
  ok2 : Ok m r.2
  z : co r.2 k = 0
  ne : co e k ≠ 0 → co r.1 k ≠ 0
  over : (∀ j, k < j → co row j = 0) → (∀ j, k < j → co e j = 0) → (∀ j, k < j → co r.1 j = 0) ∧ ∀ j, k < j → co r.2 j = 0
  sat : ∀ x, (Sat m x row ∧ Sat m x e) ↔ (Sat m x r.1 ∧ Sat m x r.2)
theorem euc_ok {m : Int} {k : Nat} (hm : 0 < m) (hk : k ≤ 10) : ∀ (n : Nat) (row e : List Int), Ok m row → Ok m e → (co e k).toNat < n → EucOk m k row e (euc m k n row e)
  | 0, _, _, _, _, h => by omega
  | n + 1, row, e, hr, he, h => by
    unfold euc
    by_cases h0 : co e k = 0
    · rw [if_pos h0]
      exact ⟨hr, he, h0, fun h => absurd h0 h, fun a b => ⟨a, b⟩, fun x => Iff.rfl⟩
    · rw [if_neg h0]
      have h1 := he.red k
      have hat := less_at (row := row) hk he h0
      have h4 := Int.emod_lt_of_pos (co row k) (show 0 < co e k by omega)
      have h5 := Int.emod_nonneg (co row k) h0
      have ih := euc_ok hm hk n e (lessE m (co row k / co e k) row e) he (Ok.cut hm _) (by rw [hat]; omega)
      refine ⟨ih.ok1, ih.ok2, ih.z, fun _ => ?_, fun a b => ih.over b (fun j hj => ?_), fun x => ?_⟩
      · by_cases hz : co (lessE m (co row k / co e k) row e) k = 0
        · cases n with
          | zero => unfold euc; exact h0
          | succ n => unfold euc; rw [if_pos hz]; exact h0
        · exact ih.ne hz
      · by_cases h10 : j ≤ 10
        · unfold lessE
          rw [co_cut h10, a j hj, b j hj]; simp
        · exact co_over (by unfold lessE; rw [cut_length]; omega)
      · rw [← ih.sat x]
        exact ⟨fun ⟨a, b⟩ => ⟨b, sat_less a b⟩, fun ⟨a, b⟩ => ⟨sat_of_less b a, a⟩⟩
def upd (rows : Nat → List Int) (k : Nat) (r : List Int) : Nat → List Int := fun j => if j = k then r else rows j
/-- a system with one equation more: rows below or at L alone are touched -/
def addS (m : Int) : Nat → (Nat → List Int) → List Int → Option (Nat → List Int)
  | 0, rows, e => if co e 0 = 0 then some rows else none
  | L + 1, rows, e =>
    if lastE e = L + 1 then
      match addS m L (upd rows (L + 1) (euc m (L + 1) 20000 (rows (L + 1)) e).1) (timesE m (m / gcdI m (co (euc m (L + 1) 20000 (rows (L + 1)) e).1 (L + 1))) (euc m (L + 1) 20000 (rows (L + 1)) e).1) with
      | none => none
      | some r2 => addS m L r2 (euc m (L + 1) 20000 (rows (L + 1)) e).2
    else addS m L rows e
/-- what fits the rows below k can be carried on to k -/
def Clo (m : Int) (rows : Nat → List Int) (k : Nat) : Prop :=
  ∀ x : Nat → Int, x 0 = 1 → (∀ j, 0 < j → j < k → Sat m x (rows j)) → m / gcdI m (co (rows k) k) * low (rows k) k x % m = 0
structure Tri (m : Int) (rows : Nat → List Int) : Prop where
  ok : ∀ k, Ok m (rows k)
  tri : ∀ k, 0 < k → ∀ j, k < j → co (rows k) j = 0
theorem low_val {e : List Int} {k : Nat} (hk : k ≤ 10) (h : ∀ j, k < j → co e j = 0) (x : Nat → Int) : val e x = low e k x + co e k * x k := by
  unfold val low
  rw [Pl.psum_cut (fun i => co e i * x i) (k + 1) 11 (by omega) (fun i hi _ => by simp [h i (by omega)])]
  rfl
structure AddOk (m : Int) (L : Nat) (rows : Nat → List Int) (e : List Int) (r : Nat → List Int) : Prop where
  tri : Tri m r
  over : ∀ k, L < k → r k = rows k
  sat : ∀ x, x 0 = 1 → ((∀ j, 0 < j → j ≤ L → Sat m x (r j)) ↔ ((∀ j, 0 < j → j ≤ L → Sat m x (rows j)) ∧ Sat m x e))
  clo : (∀ k, 0 < k → k ≤ L → Clo m rows k) → ∀ k, 0 < k → k ≤ L → Clo m r k
theorem times_zero {m c g : Int} (hg : 1 ≤ g) (h1 : g ∣ m) (h2 : g ∣ c) : m / g * c % m = 0 := by
  obtain ⟨a, rfl⟩ := h1
  obtain ⟨b, rfl⟩ := h2
  rw [Int.mul_ediv_cancel_left _ (by omega), show a * (g * b) = g * a * b by grind]
  exact Int.mul_emod_right _ _
theorem gcd_facts {m : Int} (hm : 2 ≤ m) (c : Int) : 1 ≤ gcdI m c ∧ gcdI m c ∣ m ∧ gcdI m c ∣ c := by
  refine ⟨?_, ?_, ?_⟩
  · have : 0 < Nat.gcd m.natAbs c.natAbs := Nat.gcd_pos_of_pos_left _ (by omega)
    unfold gcdI; omega
  · unfold gcdI; exact Int.ofNat_dvd_left.2 (Nat.gcd_dvd_left _ _)
  · unfold gcdI; exact Int.ofNat_dvd_left.2 (Nat.gcd_dvd_right _ _)
theorem Tri.upd {m : Int} {rows : Nat → List Int} (h : Tri m rows) (k : Nat) {r : List Int} (hr : Ok m r) (h0 : ∀ j, k < j → co r j = 0) : Tri m (upd rows k r) := by
  refine ⟨fun j => ?_, fun j hj i hi => ?_⟩
  · unfold Sys.upd; split
    · exact hr
    · exact h.ok j
  · unfold Sys.upd; split
    · rename_i e; subst e; exact h0 i hi
    · exact h.tri j hj i hi
theorem upd_at (rows : Nat → List Int) (k : Nat) (r : List Int) : upd rows k r k = r := by unfold upd; rw [if_pos rfl]
theorem upd_ne (rows : Nat → List Int) {k j : Nat} (r : List Int) (h : j ≠ k) : upd rows k r j = rows j := by unfold upd; rw [if_neg h]
theorem Clo.congr {m : Int} {r r' : Nat → List Int} {k : Nat} (h : ∀ j, 0 < j → j ≤ k → r' j = r j) (h0 : 0 < k) (hc : Clo m r k) : Clo m r' k := by
  intro x hx hs
  rw [h k h0 (Nat.le_refl _)]
  exact hc x hx (fun j hj hjk => by rw [← h j hj (by omega)]; exact hs j hj hjk)
theorem addS_ok {m : Int} (m1 : 2 ≤ m) (m2 : m ≤ 10000) : ∀ (L : Nat) (rows : Nat → List Int) (e : List Int), Tri m rows → Ok m e → lastE e ≤ L → L ≤ 10 →
    (∀ r, addS m L rows e = some r → AddOk m L rows e r) ∧ (addS m L rows e = none → ∀ x : Nat → Int, x 0 = 1 → ¬ ((∀ j, 0 < j → j ≤ L → Sat m x (rows j)) ∧ Sat m x e))
  | 0, rows, e, hT, he, hl, _ => by
    have hz : ∀ x : Nat → Int, x 0 = 1 → val e x = co e 0 := fun x hx => by
      rw [low_val (k := 0) (by omega) (fun j hj => lastE_over he j (by omega)), hx]
      show (0 : Int) + co e 0 * 1 = co e 0
      omega
    have hr := he.red 0
    unfold addS
    by_cases h0 : co e 0 = 0
    · rw [if_pos h0]
      refine ⟨fun r h => ?_, fun h => (by cases h)⟩
      injection h with h
      subst h
      exact ⟨hT, fun _ _ => rfl, fun x hx => ⟨fun _ => ⟨fun j hj hj2 => absurd hj2 (by omega), by unfold Sat; rw [hz x hx, h0]; exact Int.zero_emod m⟩, fun h => h.1⟩, fun h => h⟩
    · rw [if_neg h0]
      refine ⟨fun r h => (by cases h), fun _ x hx h => h0 ?_⟩
      have hs := h.2
      unfold Sat at hs
      rw [hz x hx, Int.emod_eq_of_lt hr.1 hr.2] at hs
      exact hs
  | L + 1, rows, e, hT, he, hl, h10 => by
    unfold addS
    by_cases hlast : lastE e = L + 1
    · rw [if_pos hlast]
      have hred := he.red (L + 1)
      have E := euc_ok (m := m) (k := L + 1) (by omega) h10 20000 (rows (L + 1)) e (hT.ok _) he (by omega)
      generalize euc m (L + 1) 20000 (rows (L + 1)) e = P at E ⊢
      obtain ⟨row, e'⟩ := P
      obtain ⟨o1, o2, z, -, ov, sat⟩ := E
      dsimp only at o1 o2 z ov sat ⊢
      obtain ⟨v1, v2⟩ := ov (fun j hj => hT.tri (L + 1) (by omega) j hj) (fun j hj => lastE_over he j (by omega))
      obtain ⟨g1, g2, g3⟩ := gcd_facts m1 (co row (L + 1))
      have hz := times_zero g1 g2 g3
      have hTo : Ok m (timesE m (m / gcdI m (co row (L + 1))) row) := Ok.cut (by omega) _
      have hTl : lastE (timesE m (m / gcdI m (co row (L + 1))) row) ≤ L := lastE_le_of (fun j hj => by
        by_cases hj10 : j ≤ 10
        · unfold timesE
          rw [co_cut hj10]
          by_cases hjk : j = L + 1
          · rw [hjk]; exact hz
          · rw [v1 j (by omega)]; simp
        · exact co_over (by rw [hTo.len]; omega))
      have hel : lastE e' ≤ L := lastE_le_of (fun j hj => by
        by_cases hjk : j = L + 1
        · rw [hjk]; exact z
        · exact v2 j (by omega))
      have hvT : ∀ x, val (timesE m (m / gcdI m (co row (L + 1))) row) x % m = m / gcdI m (co row (L + 1)) * low row (L + 1) x % m := fun x => by
        rw [val_times, low_val h10 v1 x, Int.mul_add, Int.add_emod, show m / gcdI m (co row (L + 1)) * (co row (L + 1) * x (L + 1)) = m / gcdI m (co row (L + 1)) * co row (L + 1) * x (L + 1) by grind, Int.mul_emod (m / gcdI m (co row (L + 1)) * co row (L + 1)), hz]
        simp
      obtain ⟨s1, n1⟩ := addS_ok m1 m2 L (upd rows (L + 1) row) (timesE m (m / gcdI m (co row (L + 1))) row) (hT.upd (L + 1) o1 v1) hTo hTl (by omega)
      generalize timesE m (m / gcdI m (co row (L + 1))) row = T at *
      have hlow : ∀ x, (∀ j, 0 < j → j ≤ L → Sat m x (rows j)) → ∀ j, 0 < j → j ≤ L → Sat m x (upd rows (L + 1) row j) := fun x h j h0 hj => by rw [upd_ne _ _ (by omega)]; exact h j h0 hj
      have hlow' : ∀ x, (∀ j, 0 < j → j ≤ L → Sat m x (upd rows (L + 1) row j)) → ∀ j, 0 < j → j ≤ L → Sat m x (rows j) := fun x h j h0 hj => by have := h j h0 hj; rwa [upd_ne _ _ (by omega)] at this
      have hsT : ∀ x, Sat m x row → (∀ j, 0 < j → j ≤ L → Sat m x (rows j)) → Sat m x row := fun x h _ => h
      cases h1 : addS m L (upd rows (L + 1) row) T with
      | none =>
        refine ⟨fun r h => (by cases h), fun _ x hx h => ?_⟩
        have hre := (sat x).1 ⟨h.1 (L + 1) (by omega) (Nat.le_refl _), h.2⟩
        refine n1 h1 x hx ⟨hlow x (fun j h0 hj => h.1 j h0 (by omega)), ?_⟩
        unfold Sat
        rw [hvT x]
        have hv := hre.1
        unfold Sat at hv
        rw [low_val h10 v1 x] at hv
        have : m / gcdI m (co row (L + 1)) * (low row (L + 1) x + co row (L + 1) * x (L + 1)) % m = 0 := by rw [Int.mul_emod, hv]; simp
        rw [Int.mul_add, Int.add_emod, show m / gcdI m (co row (L + 1)) * (co row (L + 1) * x (L + 1)) = m / gcdI m (co row (L + 1)) * co row (L + 1) * x (L + 1) by grind, Int.mul_emod (m / gcdI m (co row (L + 1)) * co row (L + 1)), hz] at this
        simpa using this
      | some r2 =>
        dsimp only
        have A1 := s1 r2 h1
        have hTsat : ∀ x, Sat m x row → Sat m x T := fun x h => by
          unfold Sat at h ⊢
          rw [hvT x]
          rw [low_val h10 v1 x] at h
          have : m / gcdI m (co row (L + 1)) * (low row (L + 1) x + co row (L + 1) * x (L + 1)) % m = 0 := by rw [Int.mul_emod, h]; simp
          rw [Int.mul_add, Int.add_emod, show m / gcdI m (co row (L + 1)) * (co row (L + 1) * x (L + 1)) = m / gcdI m (co row (L + 1)) * co row (L + 1) * x (L + 1) by grind, Int.mul_emod (m / gcdI m (co row (L + 1)) * co row (L + 1)), hz] at this
          simpa using this
        obtain ⟨s2, n2⟩ := addS_ok m1 m2 L r2 e' A1.tri o2 hel (by omega)
        constructor
        · intro r3 h2
          have A2 := s2 r3 h2
          have hK : r3 (L + 1) = row := by rw [A2.over _ (by omega), A1.over _ (by omega), upd_at]
          refine ⟨A2.tri, fun k hk => ?_, fun x hx => ⟨fun h => ?_, fun h => ?_⟩, fun hc k h0 hk => ?_⟩
          · rw [A2.over k (by omega), A1.over k (by omega), upd_ne _ _ (by omega)]
          · have a := (A2.sat x hx).1 (fun j h0 hj => h j h0 (by omega))
            have b := (A1.sat x hx).1 a.1
            have c := h (L + 1) (by omega) (Nat.le_refl _)
            rw [hK] at c
            have d := (sat x).2 ⟨c, a.2⟩
            refine ⟨fun j h0 hj => ?_, d.2⟩
            by_cases hjk : j = L + 1
            · rw [hjk]; exact d.1
            · exact hlow' x b.1 j h0 (by omega)
          · have d := (sat x).1 ⟨h.1 (L + 1) (by omega) (Nat.le_refl _), h.2⟩
            have b := (A1.sat x hx).2 ⟨hlow x (fun j h0 hj => h.1 j h0 (by omega)), hTsat x d.1⟩
            have a := (A2.sat x hx).2 ⟨b, d.2⟩
            intro j h0 hj
            by_cases hjk : j = L + 1
            · rw [hjk, hK]; exact d.1
            · exact a j h0 (by omega)
          · by_cases hkL : k = L + 1
            · subst hkL
              intro x hx hs
              rw [hK]
              have a := (A2.sat x hx).1 (fun j h0 hj => hs j h0 (by omega))
              have b := (A1.sat x hx).1 a.1
              have := b.2
              unfold Sat at this
              rw [hvT x] at this
              exact this
            · exact A2.clo (A1.clo (fun q q0 hq => Clo.congr (fun j _ hj => upd_ne _ _ (by omega)) q0 (hc q q0 (by omega)))) k h0 (by omega)
        · intro h2 x hx h
          have d := (sat x).1 ⟨h.1 (L + 1) (by omega) (Nat.le_refl _), h.2⟩
          have b := (A1.sat x hx).2 ⟨hlow x (fun j h0 hj => h.1 j h0 (by omega)), hTsat x d.1⟩
          exact n2 h2 x hx ⟨b, d.2⟩
    · rw [if_neg hlast]
      obtain ⟨s1, n1⟩ := addS_ok m1 m2 L rows e hT he (by omega) (by omega)
      refine ⟨fun r h => ?_, fun h x hx hh => n1 h x hx ⟨fun j h0 hj => hh.1 j h0 (by omega), hh.2⟩⟩
      have A := s1 r h
      have hK : r (L + 1) = rows (L + 1) := A.over _ (by omega)
      refine ⟨A.tri, fun k hk => A.over k (by omega), fun x hx => ⟨fun h => ?_, fun h => ?_⟩, fun hc k h0 hk => ?_⟩
      · have a := (A.sat x hx).1 (fun j h0 hj => h j h0 (by omega))
        refine ⟨fun j h0 hj => ?_, a.2⟩
        by_cases hjk : j = L + 1
        · subst hjk
          rw [← hK]
          exact h (L + 1) h0 hj
        · exact a.1 j h0 (by omega)
      · have a := (A.sat x hx).2 ⟨fun j h0 hj => h.1 j h0 (by omega), h.2⟩
        intro j h0 hj
        by_cases hjk : j = L + 1
        · subst hjk
          rw [hK]
          exact h.1 (L + 1) h0 hj
        · exact a j h0 (by omega)
      · by_cases hkL : k = L + 1
        · subst hkL
          intro x hx hs
          rw [hK]
          exact hc (L + 1) h0 hk x hx (fun j h0 hj => ((A.sat x hx).1 (fun q q0 hq => hs q q0 (by omega))).1 j h0 (by omega))
        · exact A.clo (fun q q0 hq => hc q q0 (by omega)) k h0 (by omega)
end Sys
end Go.Proofs.Ytfhdgcndiljjcab

/- Contracts of RemainderOf, AddModulo and MultiplyModulo, of the program and of the model. -/
namespace Go.Proofs.Ytfhdgcndiljjcab
open Go.RowKit Go.WideShapes Go.ChangeShapes Go.ChangeAt

theorem RI_nil (w : World) : RI w none [] := fun h => absurd rfl h
theorem RI_one (w : World) (a : Int) (t : TypeId) : RI (w.alloc (.cells #[.int .i64 a] t)) (some ⟨w.heap.size, 0, none⟩) [a] := by
  refine fun _ => ⟨w.heap.size, 0, rfl, by simp, fun k hk => ?_⟩
  obtain rfl : k = 0 := by simp at hk; omega
  simp
theorem RI_two (w : World) (a b : Int) (t : TypeId) : RI (w.alloc (.cells #[.int .i64 a, .int .i64 b] t)) (some ⟨w.heap.size, 0, none⟩) [a, b] := by
  refine fun _ => ⟨w.heap.size, 0, rfl, by simp, fun k hk => ?_⟩
  rcases (show k = 0 ∨ k = 1 by simp at hk; omega) with rfl | rfl <;> simp

theorem codeN_one (m a : Int) : codeN m [a] = 0 ↔ 2 ≤ m ∧ m ≤ 10000 ∧ 0 ≤ a ∧ a < m := by
  unfold codeN
  by_cases hm : isM m = true
  · rw [if_pos hm]
    have := (isM_iff m).1 hm
    by_cases ha : allIn 0 (m - 1) [a] = true
    · rw [if_pos ha]; simp [allIn, inB] at ha; simp; omega
    · rw [if_neg ha]; simp [allIn, inB] at ha; simp; omega
  · rw [if_neg hm]
    have : ¬ (2 ≤ m ∧ m ≤ 10000) := fun h => hm ((isM_iff m).2 h)
    simp; omega
theorem codeN_nil (m : Int) : codeN m [] = 0 ↔ 2 ≤ m ∧ m ≤ 10000 := by
  unfold codeN
  by_cases hm : isM m = true
  · rw [if_pos hm]
    have := (isM_iff m).1 hm
    simp [allIn]; omega
  · rw [if_neg hm]
    have : ¬ (2 ≤ m ∧ m ≤ 10000) := fun h => hm ((isM_iff m).2 h)
    simp; omega
theorem codeN_two (m a b : Int) : codeN m [a, b] = 0 ↔ 2 ≤ m ∧ m ≤ 10000 ∧ 0 ≤ a ∧ a < m ∧ 0 ≤ b ∧ b < m := by
  unfold codeN
  by_cases hm : isM m = true
  · rw [if_pos hm]
    have := (isM_iff m).1 hm
    by_cases ha : allIn 0 (m - 1) [a, b] = true
    · rw [if_pos ha]; simp [allIn, inB] at ha; simp; omega
    · rw [if_neg ha]; simp [allIn, inB] at ha; simp; omega
  · rw [if_neg hm]
    have : ¬ (2 ≤ m ∧ m ≤ 10000) := fun h => hm ((isM_iff m).2 h)
    simp; omega
theorem mul_small {a b m : Int} (h1 : 0 ≤ a) (h2 : a < m) (h3 : 0 ≤ b) (h4 : b < m) (hm : m ≤ 10000) : 0 ≤ a * b ∧ a * b ≤ 100000000 := by
  refine ⟨Int.mul_nonneg h1 h3, ?_⟩
  have e1 : a * b ≤ 10000 * b := Int.mul_le_mul_of_nonneg_right (by omega) h3
  omega




end Go.Proofs.Ytfhdgcndiljjcab

/- Contracts of the two Euclids with a factor, of the greatest common divisor, and of what looks at units. -/
namespace Go.Proofs.Ytfhdgcndiljjcab
open Go.RowKit Go.WideShapes Go.ChangeShapes Go.ChangeAt

/-- the divisor and the factor of a number -/
def egI (m a : Int) : Int × Int := (((Num.eg m.toNat a.toNat 0 1).1 : Int), (Num.eg m.toNat a.toNat 0 1).2 % m)

theorem div_cast (G H : Nat) : (G : Int) / (H : Int) = ((G / H : Nat) : Int) := (Int.natCast_ediv G H).symm
theorem sub_mod_cast (G H : Nat) : (G : Int) - (G : Int) / (H : Int) * (H : Int) = ((G % H : Nat) : Int) := by
  have h := Nat.div_add_mod G H
  have h2 : ((G / H : Nat) : Int) * (H : Int) = ((H * (G / H) : Nat) : Int) := by rw [Int.natCast_mul, Int.mul_comm]
  rw [div_cast, h2]; omega

end Go.Proofs.Ytfhdgcndiljjcab

/- Contracts of IsUnit, InverseModulo and PowerModulo, of the program and of the model. -/
namespace Go.Proofs.Ytfhdgcndiljjcab
open Go.RowKit Go.WideShapes Go.ChangeShapes Go.ChangeAt

theorem eg_fact (m a : Int) (h0 : 0 ≤ a) (h1 : a < m) : (egI m a).1 = gcdI a m ∧ m ∣ a * (egI m a).2 - gcdI a m ∧ 0 ≤ (egI m a).2 ∧ (egI m a).2 < m := by
  obtain ⟨A, rfl⟩ := Int.eq_ofNat_of_zero_le h0
  obtain ⟨M, rfl⟩ := Int.eq_ofNat_of_zero_le (show 0 ≤ m by omega)
  obtain ⟨e1, e2⟩ := Num.eg_spec A M 0 1 (Num.EInv.start (show A < M by omega))
  have hg : (((Num.eg M A 0 1).1 : Nat) : Int) = gcdI A M := by rw [e1, gcdI, Int.natAbs_natCast, Int.natAbs_natCast, Nat.gcd_comm]
  refine ⟨hg, ?_, Int.emod_nonneg _ (by omega), Int.emod_lt_of_pos _ (by omega)⟩
  simp only [egI, Int.toNat_natCast]
  rw [hg] at e2
  generalize (Num.eg M A 0 1).2 = x at *
  have h := Int.emod_add_mul_ediv x (M : Int)
  generalize x % (M : Int) = r at *
  generalize x / (M : Int) = q at *
  obtain ⟨u, hu⟩ := e2
  exact ⟨u - A * q, by grind⟩

end Go.Proofs.Ytfhdgcndiljjcab

/- Plain number theory: the least solution of a linear equation. No program in sight. -/
namespace Go.Proofs.Ytfhdgcndiljjcab
namespace Num

theorem sol_none {m a b g : Int} (h1 : g ∣ a) (h2 : g ∣ m) (hb : ¬ g ∣ b) (y : Int) : ¬ a * y % m = b := by
  intro h
  apply hb
  have h3 := Int.emod_add_mul_ediv (a * y) m
  rw [h] at h3
  obtain ⟨p, rfl⟩ := h1
  obtain ⟨q, rfl⟩ := h2
  exact ⟨p * y - q * (g * p * y / (g * q)), by grind⟩

theorem sol_some {m a b g x : Int} (hg : 0 < g) (hm : 0 < m) (h1 : g ∣ a) (h2 : g ∣ m) (hx : m ∣ a * x - g) (hb0 : 0 ≤ b) (hb1 : b < m) (hb : g ∣ b) :
    0 < m / g ∧ 0 ≤ b / g * x % (m / g) ∧ b / g * x % (m / g) < m / g ∧ m / g ≤ m ∧ a * (b / g * x % (m / g)) % m = b ∧ (∀ y, 0 ≤ y → y < b / g * x % (m / g) → ¬ a * y % m = b) := by
  obtain ⟨a', rfl⟩ := h1
  obtain ⟨m', rfl⟩ := h2
  obtain ⟨b', rfl⟩ := hb
  rw [Int.mul_ediv_cancel_left _ (by omega), Int.mul_ediv_cancel_left _ (by omega)]
  have hm' : 0 < m' := by
    apply Classical.byContradiction
    intro h
    have := Int.mul_nonpos_of_nonneg_of_nonpos (show 0 ≤ g by omega) (show m' ≤ 0 by omega)
    omega
  have hle : m' ≤ g * m' := by
    have := Int.mul_le_mul_of_nonneg_right (show 1 ≤ g by omega) (show 0 ≤ m' by omega)
    omega
  have r1 := Int.emod_nonneg (b' * x) (show m' ≠ 0 by omega)
  have r2 := Int.emod_lt_of_pos (b' * x) hm'
  have r3 := Int.emod_add_mul_ediv (b' * x) m'
  obtain ⟨u, hu⟩ := hx
  have hu' : a' * x - 1 = m' * u := by
    have : g * (a' * x - 1) = g * (m' * u) := by grind
    exact Int.eq_of_mul_eq_mul_left (by omega) this
  generalize b' * x % m' = y0 at *
  generalize b' * x / m' = q at *
  refine ⟨hm', r1, r2, hle, ?_, fun y hy0 hy1 hy => ?_⟩
  · have e : g * a' * y0 = g * b' + g * m' * (b' * u - a' * q) := by
      have : a' * y0 = b' + m' * (b' * u - a' * q) := by grind
      grind
    rw [e, Int.add_mul_emod_self_left, Int.emod_eq_of_lt hb0 hb1]
  · have h3 := Int.emod_add_mul_ediv (g * a' * y) (g * m')
    rw [hy] at h3
    generalize g * a' * y / (g * m') = v at *
    have h4 : b' + m' * v = a' * y := by
      have : g * (b' + m' * v) = g * (a' * y) := by grind
      exact Int.eq_of_mul_eq_mul_left (by omega) this
    have h5 : y0 - y = m' * (u * y - v * x - q) := by grind
    have h6 : m' ∣ y0 - y := ⟨_, h5⟩
    have := Int.le_of_dvd (by omega) h6
    omega

end Num
end Go.Proofs.Ytfhdgcndiljjcab

/- Contracts of SolveModulo, of the program and of the model. -/
namespace Go.Proofs.Ytfhdgcndiljjcab
open Go.RowKit Go.WideShapes Go.ChangeShapes Go.ChangeAt

/-- the least solution, and the code -/
def solM (m a b : Int) : Int × Int :=
  if codeN m [a, b] = 0 then (if gcdI a m ∣ b then (b / gcdI a m * (egI m a).2 % (m / gcdI a m), 0) else (0, 4)) else (0, codeN m [a, b])

theorem gcdI_facts {m a : Int} (h1 : 2 ≤ m) (h2 : m ≤ 10000) : 1 ≤ gcdI a m ∧ gcdI a m ≤ m ∧ gcdI a m ∣ a ∧ gcdI a m ∣ m := by
  have hd : gcdI a m ∣ m := by
    unfold gcdI; exact Int.ofNat_dvd_left.2 (Nat.gcd_dvd_right _ _)
  refine ⟨?_, Int.le_of_dvd (by omega) hd, ?_, hd⟩
  · have : 0 < Nat.gcd a.natAbs m.natAbs := Nat.gcd_pos_of_pos_right _ (by omega)
    unfold gcdI; omega
  · unfold gcdI; exact Int.ofNat_dvd_left.2 (Nat.gcd_dvd_left _ _)

end Go.Proofs.Ytfhdgcndiljjcab

/- Plain facts: the least solution of a triangular system, number by number. -/
namespace Go.Proofs.Ytfhdgcndiljjcab
open Go.RowKit

namespace Sys
open Ser
/-- the least number with c times it equal to b, and whether there is one -/
theorem sol_facts {m c b : Int} (m1 : 2 ≤ m) (m2 : m ≤ 10000) (c0 : 0 ≤ c) (c1 : c < m) (b0 : 0 ≤ b) (b1 : b < m) :
    (gcdI m c ∣ b → (solM m c b).2 = 0 ∧ 0 ≤ (solM m c b).1 ∧ (solM m c b).1 < m ∧ c * (solM m c b).1 % m = b ∧ ∀ y, 0 ≤ y → y < (solM m c b).1 → ¬ c * y % m = b) ∧
    (¬ gcdI m c ∣ b → (solM m c b).2 = 4 ∧ ∀ y, ¬ c * y % m = b) := by
  have hg : gcdI c m = gcdI m c := by unfold gcdI; rw [Nat.gcd_comm]
  obtain ⟨g1, g2, g3, g4⟩ := gcdI_facts (a := c) m1 m2
  obtain ⟨-, e2, -, -⟩ := eg_fact m c c0 c1
  have h0 : codeN m [c, b] = 0 := (codeN_two m c b).2 ⟨m1, m2, c0, c1, b0, b1⟩
  rw [← hg]
  constructor
  · intro hd
    obtain ⟨s1, s2, s3, s4, s5, s6⟩ := Num.sol_some (by omega) (by omega) g3 g4 e2 b0 b1 hd
    unfold solM
    rw [if_pos h0, if_pos hd]
    exact ⟨rfl, s2, by dsimp only; omega, s5, s6⟩
  · intro hd
    unfold solM
    rw [if_pos h0, if_neg hd]
    exact ⟨rfl, fun y => Num.sol_none g3 g4 hd y⟩
def want (m : Int) (e : List Int) (k : Nat) (x : Nat → Int) : Int := -(low e k x) % m
def pick (m : Int) (e : List Int) (k : Nat) (x : Nat → Int) : Int := (solM m (co e k) (want m e k x)).1
/-- the numbers found up to k -/
def grd (m : Int) (rows : Nat → List Int) : Nat → Nat → Int
  | 0 => fun i => if i = 0 then 1 else 0
  | k + 1 => fun i => if i = k + 1 then pick m (rows (k + 1)) (k + 1) (grd m rows k) else grd m rows k i
theorem grd_keep (m : Int) (rows : Nat → List Int) {k i : Nat} (h : i ≤ k) : grd m rows (k + 1) i = grd m rows k i := if_neg (by omega)
theorem grd_zero (m : Int) (rows : Nat → List Int) : ∀ k, grd m rows k 0 = 1
  | 0 => rfl
  | k + 1 => (grd_keep m rows (Nat.zero_le k)).trans (grd_zero m rows k)
theorem grd_over (m : Int) (rows : Nat → List Int) : ∀ k i, k < i → grd m rows k i = 0
  | 0, i, h => if_neg (by omega)
  | k + 1, i, h => (show grd m rows (k + 1) i = grd m rows k i from if_neg (by omega)).trans (grd_over m rows k i (by omega))
theorem grd_at (m : Int) (rows : Nat → List Int) (k : Nat) : grd m rows (k + 1) (k + 1) = pick m (rows (k + 1)) (k + 1) (grd m rows k) := if_pos rfl
theorem low_congr {e : List Int} {k : Nat} {x y : Nat → Int} (h : ∀ i, i < k → x i = y i) : low e k x = low e k y := psum_ext k (fun i hi => by rw [h i hi])
theorem want_bd {m : Int} (hm : 0 < m) (e : List Int) (k : Nat) (x : Nat → Int) : 0 ≤ want m e k x ∧ want m e k x < m := ⟨Int.emod_nonneg _ (by omega), Int.emod_lt_of_pos _ hm⟩
theorem sat_iff {m : Int} {e : List Int} {k : Nat} (hk : k ≤ 10) (h : ∀ j, k < j → co e j = 0) (x : Nat → Int) : Sat m x e ↔ co e k * x k % m = want m e k x := by
  unfold Sat want
  rw [low_val hk h x]
  constructor
  · intro hs
    have h1 : m ∣ low e k x + co e k * x k := Int.dvd_of_emod_eq_zero hs
    obtain ⟨t, ht⟩ := h1
    rw [show co e k * x k = -low e k x + m * t by omega, Int.add_mul_emod_self_left]
  · intro hs
    rw [Int.add_emod, hs, ← Int.add_emod, show low e k x + -low e k x = 0 by omega]
    exact Int.zero_emod m
theorem clo_dvd {m c l : Int} (m1 : 2 ≤ m) (h : m / gcdI m c * l % m = 0) : gcdI m c ∣ l := by
  obtain ⟨g1, ⟨q, hq⟩, -⟩ := gcd_facts m1 c
  obtain ⟨G, hG⟩ : ∃ G, gcdI m c = G := ⟨_, rfl⟩
  rw [hG] at h hq g1 ⊢
  subst hq
  rw [Int.mul_ediv_cancel_left _ (by omega)] at h
  obtain ⟨t, ht⟩ := Int.dvd_of_emod_eq_zero h
  have hq0 : q ≠ 0 := by rintro rfl; omega
  exact ⟨t, Int.eq_of_mul_eq_mul_left hq0 (by rw [ht]; grind)⟩
theorem dvd_want {m c l : Int} (h1 : gcdI m c ∣ m) (h : gcdI m c ∣ l) : gcdI m c ∣ -l % m := by
  have h2 := Int.emod_add_mul_ediv (-l) m
  have h3 : gcdI m c ∣ m * (-l / m) := Int.dvd_trans h1 (Int.dvd_mul_right _ _)
  rw [show -l % m = -l - m * (-l / m) by omega]
  exact Int.dvd_sub (Int.dvd_neg.2 h) h3
structure Least (m : Int) (S : (Nat → Int) → Prop) (x : Nat → Int) : Prop where
  one : x 0 = 1
  bd : ∀ k, 0 < k → k ≤ 10 → 0 ≤ x k ∧ x k < m
  sat : S x
  least : ∀ y : Nat → Int, y 0 = 1 → S y → ∀ k, 0 < k → k ≤ 10 → (∀ j, j < k → y j = x j) → 0 ≤ y k → x k ≤ y k
/-- the numbers found fit, and are the least ones -/
theorem grd_ok {m : Int} (m1 : 2 ≤ m) (m2 : m ≤ 10000) {rows : Nat → List Int} (hT : Tri m rows) (hC : ∀ k, 0 < k → k ≤ 10 → Clo m rows k) :
    ∀ k, k ≤ 10 → (∀ j, 0 < j → j ≤ k → 0 ≤ grd m rows k j ∧ grd m rows k j < m ∧ Sat m (grd m rows k) (rows j) ∧ (solM m (co (rows j) j) (want m (rows j) j (grd m rows k))).2 = 0)
  | 0, _ => fun j h0 hj => absurd hj (by omega)
  | k + 1, hk => by
    have ih := grd_ok m1 m2 hT hC k (by omega)
    have hc := hC (k + 1) (by omega) hk (grd m rows k) (grd_zero m rows k) (fun j h0 hj => (ih j h0 (by omega)).2.2.1)
    have hr := (hT.ok (k + 1)).red (k + 1)
    obtain ⟨g1, g2, g3⟩ := gcd_facts m1 (co (rows (k + 1)) (k + 1))
    have hd : gcdI m (co (rows (k + 1)) (k + 1)) ∣ want m (rows (k + 1)) (k + 1) (grd m rows k) := dvd_want g2 (clo_dvd m1 hc)
    obtain ⟨w1, w2⟩ := want_bd (m := m) (by omega) (rows (k + 1)) (k + 1) (grd m rows k)
    obtain ⟨s0, s1, s2, s3, -⟩ := (sol_facts m1 m2 hr.1 hr.2 w1 w2).1 hd
    have hlow : ∀ j, j ≤ k + 1 → low (rows j) j (grd m rows (k + 1)) = low (rows j) j (grd m rows k) := fun j hj => low_congr (fun i hi => grd_keep m rows (by omega))
    intro j h0 hj
    by_cases hjk : j = k + 1
    · subst hjk
      rw [grd_at]
      refine ⟨s1, s2, ?_, ?_⟩
      · rw [sat_iff hk (hT.tri _ h0), grd_at]
        unfold want at s3 ⊢
        rw [hlow _ (Nat.le_refl _)]
        exact s3
      · unfold want at s0 ⊢
        rw [hlow _ (Nat.le_refl _)]
        exact s0
    · obtain ⟨i1, i2, i3, i4⟩ := ih j h0 (by omega)
      rw [grd_keep m rows (by omega)]
      refine ⟨i1, i2, ?_, ?_⟩
      · rw [sat_iff (by omega) (hT.tri _ h0)] at i3 ⊢
        rw [grd_keep m rows (by omega)]
        unfold want at i3 ⊢
        rw [hlow _ (by omega)]
        exact i3
      · unfold want at i4 ⊢
        rw [hlow _ (by omega)]
        exact i4
theorem grd_least {m : Int} (m1 : 2 ≤ m) (m2 : m ≤ 10000) {rows : Nat → List Int} (hT : Tri m rows) (hC : ∀ k, 0 < k → k ≤ 10 → Clo m rows k) :
    Least m (fun x => ∀ j, 0 < j → j ≤ 10 → Sat m x (rows j)) (grd m rows 10) := by
  have h10 := grd_ok m1 m2 hT hC 10 (Nat.le_refl _)
  refine ⟨grd_zero m rows 10, fun k h0 hk => ⟨(h10 k h0 hk).1, (h10 k h0 hk).2.1⟩, fun j h0 hj => (h10 j h0 hj).2.2.1, fun y hy hS k h0 hk he h => ?_⟩
  have hs := hS k h0 hk
  rw [sat_iff hk (hT.tri _ h0)] at hs
  have hr := (hT.ok k).red k
  obtain ⟨w1, w2⟩ := want_bd (m := m) (by omega) (rows k) k y
  have hw : want m (rows k) k y = want m (rows k) k (grd m rows 10) := by unfold want; rw [low_congr he]
  apply Classical.byContradiction
  intro hlt
  have hd : gcdI m (co (rows k) k) ∣ want m (rows k) k y := by
    apply Classical.byContradiction
    intro hn
    exact ((sol_facts m1 m2 hr.1 hr.2 w1 w2).2 hn).2 (y k) hs
  have hx : grd m rows 10 k = (solM m (co (rows k) k) (want m (rows k) k y)).1 := by
    have key : ∀ n, k ≤ n → n ≤ 10 → grd m rows n k = grd m rows k k := by
      intro n hn _
      obtain ⟨q, rfl⟩ : ∃ q, n = k + q := ⟨n - k, by omega⟩
      induction q with
      | zero => rfl
      | succ q ih => rw [← Nat.add_assoc, grd_keep m rows (by omega)]; exact ih (by omega) (by omega)
    have key2 : ∀ i, i < k → grd m rows 10 i = grd m rows (k - 1) i := by
      intro i hi
      have : ∀ q, k - 1 + q ≤ 10 → grd m rows (k - 1 + q) i = grd m rows (k - 1) i := by
        intro q
        induction q with
        | zero => intro _; rfl
        | succ q ih => intro h; rw [← Nat.add_assoc, grd_keep m rows (by omega)]; exact ih (by omega)
      have h2 := this (10 - (k - 1)) (by omega)
      rw [show k - 1 + (10 - (k - 1)) = 10 by omega] at h2
      exact h2
    rw [key 10 hk (Nat.le_refl _)]
    obtain ⟨q, rfl⟩ : ∃ q, k = q + 1 := ⟨k - 1, by omega⟩
    rw [grd_at, hw]
    unfold pick want
    rw [low_congr (x := grd m rows 10) (y := grd m rows q) (fun i hi => key2 i hi)]
  obtain ⟨-, -, -, -, s4⟩ := (sol_facts m1 m2 hr.1 hr.2 w1 w2).1 hd
  exact s4 (y k) h (by rw [← hx]; omega) hs
/-- least solutions of one and the same are equal -/
theorem Least.unique {m : Int} {S : (Nat → Int) → Prop} {x y : Nat → Int} (hx : Least m S x) (hy : Least m S y) : ∀ k, k ≤ 10 → x k = y k := by
  intro k
  induction k using Nat.strongRecOn with
  | _ k ih =>
    intro hk
    by_cases h0 : k = 0
    · rw [h0, hx.one, hy.one]
    · have a := hx.least y hy.one hy.sat k (by omega) hk (fun j hj => (ih j hj (by omega)).symm) (hy.bd k (by omega) hk).1
      have b := hy.least x hx.one hx.sat k (by omega) hk (fun j hj => ih j hj (by omega)) (hx.bd k (by omega) hk).1
      omega
theorem Least.congr {m : Int} {S S' : (Nat → Int) → Prop} {x : Nat → Int} (h : ∀ y : Nat → Int, y 0 = 1 → (S y ↔ S' y)) (hx : Least m S x) : Least m S' x :=
  ⟨hx.one, hx.bd, (h x hx.one).1 hx.sat, fun y hy hS k h0 hk he => hx.least y hy ((h y hy).2 hS) k h0 hk he⟩
/-- all equations of a list put into an empty system -/
def addAll (m : Int) (rows : Nat → List Int) : List (List Int) → Option (Nat → List Int)
  | [] => some rows
  | e :: es => match addS m 10 rows e with
    | none => none
    | some r => addAll m r es
def none0 : Nat → List Int := fun _ => List.replicate 11 0
theorem tri0 {m : Int} (hm : 0 < m) : Tri m none0 := ⟨fun _ => ⟨by unfold none0; rw [List.length_replicate], fun i => by unfold none0; rw [co_zeros]; omega⟩, fun _ _ _ _ => by unfold none0; rw [co_zeros]⟩
theorem sat0 (m : Int) (x : Nat → Int) (k : Nat) : Sat m x (none0 k) := by
  unfold Sat val none0
  rw [show psum (fun i => co (List.replicate 11 0) i * x i) 11 = psum (fun _ => 0) 11 from psum_ext 11 (fun i _ => by rw [co_zeros]; omega), psum_zero]
  exact Int.zero_emod m
theorem clo0 (m : Int) (k : Nat) : Clo m none0 k := by
  intro x _ _
  rw [show low (none0 k) k x = 0 by
    unfold low none0
    rw [show psum (fun i => co (List.replicate 11 0) i * x i) k = psum (fun _ => 0) k from psum_ext k (fun i _ => by rw [co_zeros]; omega), psum_zero]]
  simp
theorem addAll_ok {m : Int} (m1 : 2 ≤ m) (m2 : m ≤ 10000) : ∀ (es : List (List Int)) (rows : Nat → List Int), Tri m rows → (∀ k, 0 < k → k ≤ 10 → Clo m rows k) → (∀ e ∈ es, Ok m e) →
    (∀ r, addAll m rows es = some r → Tri m r ∧ (∀ k, 0 < k → k ≤ 10 → Clo m r k) ∧ ∀ x : Nat → Int, x 0 = 1 → ((∀ j, 0 < j → j ≤ 10 → Sat m x (r j)) ↔ ((∀ j, 0 < j → j ≤ 10 → Sat m x (rows j)) ∧ ∀ e ∈ es, Sat m x e))) ∧
    (addAll m rows es = none → ∀ x : Nat → Int, x 0 = 1 → ¬ ((∀ j, 0 < j → j ≤ 10 → Sat m x (rows j)) ∧ ∀ e ∈ es, Sat m x e))
  | [], rows, hT, hC, _ => by
    unfold addAll
    refine ⟨fun r h => ?_, fun h => (by cases h)⟩
    injection h with h
    subst h
    exact ⟨hT, hC, fun x _ => ⟨fun h => ⟨h, fun e he => by cases he⟩, fun h => h.1⟩⟩
  | e :: es, rows, hT, hC, hO => by
    have hO' := fun f hf => hO f (List.mem_cons_of_mem _ hf)
    obtain ⟨s1, n1⟩ := addS_ok m1 m2 10 rows e hT (hO e (List.mem_cons_self)) (lastF_le e 10) (Nat.le_refl _)
    unfold addAll
    cases h1 : addS m 10 rows e with
    | none =>
      exact ⟨fun r h => (by cases h), fun _ x hx h => n1 h1 x hx ⟨h.1, h.2 e (List.mem_cons_self)⟩⟩
    | some r1 =>
      have A := s1 r1 h1
      obtain ⟨s2, n2⟩ := addAll_ok m1 m2 es r1 A.tri (A.clo hC) hO'
      dsimp only
      refine ⟨fun r h => ?_, fun h x hx hh => n2 h x hx ⟨(A.sat x hx).2 ⟨hh.1, hh.2 e (List.mem_cons_self)⟩, fun f hf => hh.2 f (List.mem_cons_of_mem _ hf)⟩⟩
      obtain ⟨t1, t2, t3⟩ := s2 r h
      refine ⟨t1, t2, fun x hx => ?_⟩
      rw [t3 x hx, A.sat x hx]
      constructor
      · rintro ⟨⟨a, b⟩, c⟩
        refine ⟨a, fun f hf => ?_⟩
        rcases List.mem_cons.1 hf with rfl | hf
        · exact b
        · exact c f hf
      · rintro ⟨a, b⟩
        exact ⟨⟨a, b e (List.mem_cons_self)⟩, fun f hf => b f (List.mem_cons_of_mem _ hf)⟩
/-- the model of leastSolution: the numbers at 1 to 10, if there are any -/
def leastS (m : Int) (es : List (List Int)) : Option (Nat → Int) := (addAll m none0 es).map fun r => grd m r 10
theorem leastS_some {m : Int} (m1 : 2 ≤ m) (m2 : m ≤ 10000) {es : List (List Int)} (hO : ∀ e ∈ es, Ok m e) {x : Nat → Int} (h : leastS m es = some x) : Least m (fun y => ∀ e ∈ es, Sat m y e) x := by
  unfold leastS at h
  cases h1 : addAll m none0 es with
  | none => rw [h1] at h; cases h
  | some r =>
    rw [h1] at h
    injection h with h
    subst h
    obtain ⟨t1, t2, t3⟩ := (addAll_ok m1 m2 es none0 (tri0 (by omega)) (fun k _ _ => clo0 m k) hO).1 r h1
    exact (grd_least m1 m2 t1 t2).congr (fun y hy => by
      rw [t3 y hy]
      exact ⟨fun h => h.2, fun h => ⟨fun j _ _ => sat0 m y j, h⟩⟩)
theorem leastS_none {m : Int} (m1 : 2 ≤ m) (m2 : m ≤ 10000) {es : List (List Int)} (hO : ∀ e ∈ es, Ok m e) (h : leastS m es = none) (y : Nat → Int) (hy : y 0 = 1) : ¬ ∀ e ∈ es, Sat m y e := by
  unfold leastS at h
  cases h1 : addAll m none0 es with
  | none => exact fun hh => (addAll_ok m1 m2 es none0 (tri0 (by omega)) (fun k _ _ => clo0 m k) hO).2 h1 y hy ⟨fun j _ _ => sat0 m y j, hh⟩
  | some r => rw [h1] at h; cases h
end Sys
end Go.Proofs.Ytfhdgcndiljjcab

/- Plain number theory: numbers of choices. No program in sight. -/
namespace Go.Proofs.Ytfhdgcndiljjcab
namespace Num

/-- the number of ways to choose k of n things -/
def bin : Nat → Nat → Nat
  | _, 0 => 1
  | 0, _ + 1 => 0
  | n + 1, k + 1 => bin n k + bin n (k + 1)
theorem bin_zero (n : Nat) : bin n 0 = 1 := by cases n <;> rfl
theorem bin_succ (n k : Nat) : bin (n + 1) (k + 1) = bin n k + bin n (k + 1) := rfl
theorem bin_mul (n : Nat) : ∀ k, (k + 1) * bin n (k + 1) + k * bin n k = n * bin n k := by
  induction n with
  | zero =>
    intro k
    cases k <;> simp [bin]
  | succ n ih =>
    intro k
    cases k with
    | zero =>
      have h := ih 0
      rw [bin_zero] at h ⊢
      rw [bin_succ, bin_zero]
      omega
    | succ k =>
      have h1 := ih k
      have h2 := ih (k + 1)
      rw [bin_succ, bin_succ]
      generalize bin n k = b0 at *
      generalize bin n (k + 1) = b1 at *
      generalize bin n (k + 1 + 1) = b2 at *
      grind
theorem bin_over (n : Nat) : ∀ k, n < k → bin n k = 0 := by
  induction n with
  | zero => intro k h; cases k with
    | zero => omega
    | succ k => rfl
  | succ n ih => intro k h; cases k with
    | zero => omega
    | succ k => rw [bin_succ, ih k (by omega), ih (k + 1) (by omega)]
theorem bin_self (n : Nat) : bin n n = 1 := by
  induction n with
  | zero => rfl
  | succ n ih => rw [bin_succ, ih, bin_over n (n + 1) (by omega)]
theorem bin_pos (n : Nat) : ∀ k, k ≤ n → 0 < bin n k := by
  induction n with
  | zero => intro k h; obtain rfl : k = 0 := by omega
            exact Nat.one_pos
  | succ n ih => intro k h; cases k with
    | zero => rw [bin_zero]; omega
    | succ k => rw [bin_succ]; have := ih k (by omega); omega
theorem bin_mono (n k : Nat) : bin n k ≤ bin (n + 1) k := by
  cases k with
  | zero => rw [bin_zero, bin_zero]; omega
  | succ k => rw [bin_succ]; omega
theorem bin_mono' (n k : Nat) : ∀ d, bin n k ≤ bin (n + d) k
  | 0 => Nat.le_refl _
  | d + 1 => Nat.le_trans (bin_mono' n k d) (bin_mono (n + d) k)

/-- a row of the triangle, quickly -/
def rowL : Nat → List Nat
  | 0 => [1]
  | n + 1 => List.zipWith (· + ·) (0 :: rowL n) (rowL n ++ [0])
theorem rowL_length : ∀ n, (rowL n).length = n + 1
  | 0 => rfl
  | n + 1 => by simp [rowL, rowL_length n]
theorem rowL_get : ∀ n k, k ≤ n → (rowL n)[k]? = some (bin n k)
  | 0, k, h => by obtain rfl : k = 0 := by omega
                  rfl
  | n + 1, k, h => by
    have hl := rowL_length n
    rw [rowL, List.getElem?_zipWith]
    cases k with
    | zero =>
      have h0 := rowL_get n 0 (by omega)
      rw [List.getElem?_append_left (by omega), h0, bin_zero, bin_zero]
      rfl
    | succ k =>
      rw [List.getElem?_cons_succ, rowL_get n k (by omega)]
      by_cases hk : k + 1 ≤ n
      · rw [List.getElem?_append_left (by omega), rowL_get n (k + 1) hk, bin_succ]
      · obtain rfl : k = n := by omega
        rw [List.getElem?_append_right (by omega), hl, Nat.sub_self, bin_succ, bin_over k (k + 1) (by omega)]
        rfl
theorem row60 : (rowL 60).all (fun x => decide (x ≤ 118264581564861424)) = true := by decide +kernel
theorem bin_le (n k : Nat) (hn : n ≤ 60) : bin n k ≤ 118264581564861424 := by
  by_cases hk : k ≤ 60
  · have h1 := bin_mono' n k (60 - n)
    rw [show n + (60 - n) = 60 by omega] at h1
    have h2 := rowL_get 60 k hk
    have h3 := List.all_eq_true.1 row60 _ (List.mem_of_getElem? h2)
    have h4 := of_decide_eq_true h3
    omega
  · rw [bin_over n k (by omega)]; omega
/-- a step of the product -/
theorem bin_next {n k : Nat} (h : k < n) : bin n k * (n - k) = bin n (k + 1) * (k + 1) := by
  have h1 := bin_mul n k
  have h2 : n * bin n k = (n - k) * bin n k + k * bin n k := by rw [← Nat.add_mul]; congr 1; omega
  rw [Nat.mul_comm (bin n k), Nat.mul_comm (bin n (k + 1))]
  omega
theorem bin_step {n k : Nat} (h : k < n) : bin n k * (n - k) / (k + 1) = bin n (k + 1) := by
  rw [bin_next h, Nat.mul_div_cancel _ (by omega)]
theorem bin_prod {n k : Nat} (hn : n ≤ 60) : bin n k * (n - k) ≤ 118264581564861424 * 60 := Nat.mul_le_mul (bin_le n k hn) (by omega)

end Num
end Go.Proofs.Ytfhdgcndiljjcab

/- Contracts of the two binomial functions. -/
namespace Go.Proofs.Ytfhdgcndiljjcab
open Go.RowKit Go.WideShapes Go.ChangeShapes Go.ChangeAt

/-- the number of ways to choose k of n things -/
def binI (n k : Int) : Int := (Num.bin n.toNat k.toNat : Nat)
theorem binI_bd {n k : Int} (hn : n ≤ 60) : 0 ≤ binI n k ∧ binI n k ≤ 118264581564861424 := by
  have := Num.bin_le n.toNat k.toNat (by omega)
  unfold binI; omega

/-- the beginning of a row of the triangle -/
def rowI (n j : Nat) : List Int := (List.range j).map fun i => ((Num.bin n i : Nat) : Int)
theorem rowI_length (n j : Nat) : (rowI n j).length = j := by simp [rowI]
theorem rowI_succ (n j : Nat) : rowI n (j + 1) = rowI n j ++ [((Num.bin n j : Nat) : Int)] := by simp [rowI, List.range_succ]
theorem rowI_one (n : Nat) : rowI n 1 = [1] := by simp [rowI, Num.bin_zero]
theorem rowI_get (n j i : Nat) (h : i < j) : (rowI n j)[i]?.getD 0 = ((Num.bin n i : Nat) : Int) := by simp [rowI, h]

end Go.Proofs.Ytfhdgcndiljjcab

/- Contracts of greatestDivisor and CommonDivisor, of the program and of the model. -/
namespace Go.Proofs.Ytfhdgcndiljjcab
open Go.RowKit Go.WideShapes Go.ChangeShapes Go.ChangeAt

end Go.Proofs.Ytfhdgcndiljjcab

