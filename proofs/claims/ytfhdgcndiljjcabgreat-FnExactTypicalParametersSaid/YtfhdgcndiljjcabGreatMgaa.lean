/- Texts of contracts, joined. -/
import Derived.WalkKit
import Derived.WalkSpells
import Derived.WalkLawsBesides
import Derived.ProofKit
import Derived.OpenShut
import Derived.Lib.Hide
import Derived.Test.YtfhdgcndiljjcabGreatProg
import Derived.RegionTactic
import Derived.Deep.RegionHeld3
import Derived.Deep.OwnRows
import Derived.Deep.QuietTactic
import Derived.BigQuiet
import Derived.Laws.CopyOwn
/- Plain facts about worlds that the walks share: nothing here names the program. -/
namespace Go.Proofs.YtfhdgcndiljjcabGreat
open Go.RowKit Go.WideShapes Go.ChangeShapes Go.ChangeAt
theorem ret_int {a b : Int} (h : a = b) : Ending.returned (.int .i64 a) = .returned (.int .i64 b) := by rw [h]
theorem ret_bool {a b : Bool} (h : a = b) : Ending.returned (.bool a) = .returned (.bool b) := by rw [h]
theorem ret_ii {a b c d : Int} (h : a = c) (k : b = d) : Ending.returned (.tuple #[.int .i64 a, .int .i64 b]) = .returned (.tuple #[.int .i64 c, .int .i64 d]) := by rw [h, k]
theorem ne_facts {c : Int} (h : ¬ c = 0) : (c == 0) = false ∧ (c != 0) = true := ⟨by simpa using h, by simpa using h⟩
end Go.Proofs.YtfhdgcndiljjcabGreat

/- Contracts of the functions that look at a modulus and at numbers, of the program and of the model. -/
namespace Go.Proofs.YtfhdgcndiljjcabGreat
open Go.RowKit Go.WideShapes Go.ChangeShapes Go.ChangeAt
/-- n lies in lo..hi -/
def inB (n lo hi : Int) : Bool := decide (lo ≤ n) && decide (n ≤ hi)
theorem inB_iff (n lo hi : Int) : inB n lo hi = true ↔ lo ≤ n ∧ n ≤ hi := by simp [inB]
theorem inB_yes {n lo hi : Int} (h1 : lo ≤ n) (h2 : n ≤ hi) : inB n lo hi = true := (inB_iff _ _ _).2 ⟨h1, h2⟩
theorem inB_no {n lo hi : Int} (h : ¬ (lo ≤ n ∧ n ≤ hi)) : inB n lo hi = false := by
  rw [← Bool.not_eq_true, inB_iff]; exact h
theorem isWithin_any (n lo hi : Int) (w : World) :
    Calls Tryz.prog 103 #[.int .i64 n, .int .i64 lo, .int .i64 hi] w fun e w' => e = .returned (.bool (inB n lo hi)) ∧ w = w' := by
  by_cases h1 : lo ≤ n
  · go_enter Tryz.func103, Tryz.ntmps103
    go_wp2
    go_ret
    exact ⟨by simp [inB, h1], rfl⟩
  · have h2 : inB n lo hi = false := inB_no (fun h => h1 h.1)
    have H := Lib.hid h2
    clear h2
    go_enter Tryz.func103, Tryz.ntmps103
    go_wp2
    go_ret
    exact ⟨ret_bool H.out.symm, rfl⟩
theorem l01In_any (n lo hi : Int) (w : World) :
    Calls Tryz.prog 147 #[.int .i64 n, .int .i64 lo, .int .i64 hi] w fun e w' => e = .returned (.bool (inB n lo hi)) ∧ w = w' := by
  by_cases h1 : lo ≤ n
  · go_enter Tryz.func147, Tryz.ntmps147
    go_wp2
    go_ret
    exact ⟨by simp [inB, h1], rfl⟩
  · have h2 : inB n lo hi = false := inB_no (fun h => h1 h.1)
    have H := Lib.hid h2
    clear h2
    go_enter Tryz.func147, Tryz.ntmps147
    go_wp2
    go_ret
    exact ⟨ret_bool H.out.symm, rfl⟩
/-- m is a modulus -/
def isM (m : Int) : Bool := inB m 2 10000
theorem IsModulus_any (m : Int) (w : World) :
    Calls Tryz.prog 141 #[.int .i64 m] w fun e w' => e = .returned (.bool (isM m)) ∧ w = w' := by
  go_enter Tryz.func141, Tryz.ntmps141
  go_wp2_with (go_at_call 103; refine (isWithin_any _ _ _ _).mono ?_; rintro e w' ⟨rfl, rfl⟩)
  go_ret
  exact ⟨rfl, rfl⟩
theorem l01Modulus_any (m : Int) (w : World) :
    Calls Tryz.prog 118 #[.int .i64 m] w fun e w' => e = .returned (.bool (isM m)) ∧ w = w' := by
  go_enter Tryz.func118, Tryz.ntmps118
  go_wp2_with (go_at_call 147; refine (l01In_any _ _ _ _).mono ?_; rintro e w' ⟨rfl, rfl⟩)
  go_ret
  exact ⟨rfl, rfl⟩
/-- all numbers of the list lie in lo..hi -/
def allIn (lo hi : Int) (l : List Int) : Bool := l.all fun n => inB n lo hi
/-- the code of a modulus and numbers -/
def codeN (m : Int) (l : List Int) : Int := if isM m then (if allIn 0 (m - 1) l then 0 else 2) else 1
end Go.Proofs.YtfhdgcndiljjcabGreat

/- Contracts of the functions that take numbers as variadics, of the program and of the model. -/
namespace Go.Proofs.YtfhdgcndiljjcabGreat
open Go.RowKit Go.WideShapes Go.ChangeShapes Go.ChangeAt
theorem isM_iff (m : Int) : isM m = true ↔ 2 ≤ m ∧ m ≤ 10000 := inB_iff _ _ _
/-- the slice at A holds the integers of l -/
def RI (w : World) (A : Option Addr) (l : List Int) : Prop :=
  l ≠ [] → ∃ b off, A = some ⟨b, off, none⟩ ∧ b < w.heap.size ∧ ∀ k, k < l.length → w.cell? ⟨b, off + k, none⟩ = some (.int .i64 (l[k]?.getD 0))
theorem RI.below {w w' : World} {A : Option Addr} {l : List Int} (h : RI w A l) (hb : Below w.heap.size w w') : RI w' A l := by
  intro hl
  obtain ⟨b, off, e, hlt, hc⟩ := h hl
  exact ⟨b, off, e, Nat.lt_of_lt_of_le hlt hb.size, fun k hk => (hb.cell (p := ⟨b, off + k, none⟩) hlt).trans (hc k hk)⟩
theorem allIn_split (lo hi : Int) (l : List Int) (k : Nat) (hk : k < l.length) : allIn lo hi l = (allIn lo hi (l.take k) && (inB (l[k]?.getD 0) lo hi && allIn lo hi (l.drop (k + 1)))) := by
  have e : l = l.take k ++ l[k] :: l.drop (k + 1) := by rw [List.getElem_cons_drop, List.take_append_drop]
  have e2 : l[k]?.getD 0 = l[k] := by rw [List.getElem?_eq_getElem hk]; rfl
  have e3 : allIn lo hi l = allIn lo hi (l.take k ++ l[k] :: l.drop (k + 1)) := congrArg _ e
  rw [e2, e3]
  unfold allIn
  rw [List.all_append, List.all_cons]
theorem allIn_take_succ (lo hi : Int) (l : List Int) (k : Nat) (hk : k < l.length) : allIn lo hi (l.take (k + 1)) = (allIn lo hi (l.take k) && inB (l[k]?.getD 0) lo hi) := by
  have e2 : l[k]?.getD 0 = l[k] := by rw [List.getElem?_eq_getElem hk]; rfl
  rw [List.take_succ_eq_append_getElem hk, e2]
  unfold allIn
  rw [List.all_append, List.all_cons, List.all_nil, Bool.and_true]
set_option maxHeartbeats 400000 in
theorem codeOfNumbers_any (m : Int) (A : Option Addr) (c : Nat) (l : List Int) (w : World) (hl : l.length ≤ 9223372036854775807) (hr : RI w A l) :
    Calls Tryz.prog 106 #[.int .i64 m, .slice A l.length c] w fun e w' => e = .returned (.int .i64 (codeN m l)) ∧ w = w' := by
  by_cases hm : isM m = true
  · obtain ⟨hm2, hm3⟩ := (isM_iff m).1 hm
    have hfin : codeN m l = if allIn 0 (m - 1) l then 0 else 2 := by rw [codeN, if_pos hm]
    have HF := Lib.hid hfin
    clear hfin
    go_enter Tryz.func106, Tryz.ntmps106
    go_wp2_with (go_at_call 141; refine (IsModulus_any _ _).mono ?_; rintro e w' ⟨rfl, rfl⟩)
    go_loop [12] (fun i => ∃ k : Nat, k ≤ l.length ∧ i = .int .i64 k ∧ allIn 0 (m - 1) (l.take k) = true) (fun i => l.length - (intOf i).toNat)
    case atStart => exact ⟨0, Nat.zero_le _, rfl, rfl⟩
    case round =>
      obtain ⟨k, hk, rfl, hall⟩ := hrel
      have HA := Lib.hid hall
      clear hall
      by_cases hlt : k < l.length
      · obtain ⟨b, off, rfl, hb, hc⟩ := hr (by rintro rfl; simp at hlt)
        have hck := hc k hlt
        clear hc hr
        obtain ⟨x, hx⟩ : ∃ x, l[k]?.getD 0 = x := ⟨_, rfl⟩
        rw [hx] at hck
        have HX := Lib.hid hx
        clear hx
        by_cases hin : inB x 0 (m - 1) = true
        · go_wp2_with (go_at_call 103; refine (isWithin_any _ _ _ _).mono ?_; rintro e w' ⟨rfl, rfl⟩)
          go_round
          case rel => exact ⟨k + 1, by omega, by go_num, by rw [allIn_take_succ _ _ _ _ hlt, HA.out, HX.out, hin]; rfl⟩
          case measure => simp [intOf]; omega
        · have hin' : inB x 0 (m - 1) = false := by simpa using hin
          clear hin
          go_wp2_with (go_at_call 103; refine (isWithin_any _ _ _ _).mono ?_; rintro e w' ⟨rfl, rfl⟩)
          go_ret
          exact ⟨ret_int (by rw [HF.out, allIn_split _ _ _ _ hlt, HX.out, hin']; simp), rfl⟩
      · go_wp2
        go_ret
        exact ⟨ret_int (by rw [HF.out]; have := HA.out; rw [List.take_of_length_le (by omega)] at this; rw [this]; rfl), rfl⟩
  · have hm' : isM m = false := by simpa using hm
    have hfin : codeN m l = 1 := by rw [codeN, if_neg hm]
    have HF := Lib.hid hfin
    clear hfin hm
    go_enter Tryz.func106, Tryz.ntmps106
    go_wp2_with (go_at_call 141; refine (IsModulus_any _ _).mono ?_; rintro e w' ⟨rfl, rfl⟩)
    go_ret
    exact ⟨ret_int HF.out.symm, rfl⟩
set_option maxHeartbeats 400000 in
theorem l01Numbers_any (m : Int) (A : Option Addr) (c : Nat) (l : List Int) (w : World) (hm2 : 2 ≤ m) (hm3 : m ≤ 10000) (hl : l.length ≤ 9223372036854775807) (hr : RI w A l) :
    Calls Tryz.prog 119 #[.int .i64 m, .slice A l.length c] w fun e w' => e = .returned (.bool (allIn 0 (m - 1) l)) ∧ w = w' := by
  go_enter Tryz.func119, Tryz.ntmps119
  go_wp2
  go_loop [5] (fun i => ∃ k : Nat, k ≤ l.length ∧ i = .int .i64 k ∧ allIn 0 (m - 1) (l.take k) = true) (fun i => l.length - (intOf i).toNat)
  case atStart => exact ⟨0, Nat.zero_le _, rfl, rfl⟩
  case round =>
    obtain ⟨k, hk, rfl, hall⟩ := hrel
    have HA := Lib.hid hall
    clear hall
    by_cases hlt : k < l.length
    · obtain ⟨b, off, rfl, hb, hc⟩ := hr (by rintro rfl; simp at hlt)
      have hck := hc k hlt
      clear hc hr
      obtain ⟨x, hx⟩ : ∃ x, l[k]?.getD 0 = x := ⟨_, rfl⟩
      rw [hx] at hck
      have HX := Lib.hid hx
      clear hx
      by_cases hin : inB x 0 (m - 1) = true
      · go_wp2_with (go_at_call 147; refine (l01In_any _ _ _ _).mono ?_; rintro e w' ⟨rfl, rfl⟩)
        go_round
        case rel => exact ⟨k + 1, by omega, by go_num, by rw [allIn_take_succ _ _ _ _ hlt, HA.out, HX.out, hin]; rfl⟩
        case measure => simp [intOf]; omega
      · have hin' : inB x 0 (m - 1) = false := by simpa using hin
        clear hin
        go_wp2_with (go_at_call 147; refine (l01In_any _ _ _ _).mono ?_; rintro e w' ⟨rfl, rfl⟩)
        go_ret
        exact ⟨ret_bool (by rw [allIn_split _ _ _ _ hlt, HX.out, hin']; simp), rfl⟩
    · go_wp2
      go_ret
      exact ⟨ret_bool (by have := HA.out; rw [List.take_of_length_le (by omega)] at this; rw [this]), rfl⟩
theorem rem_neg (m n : Int) (hm : 0 < m) (hn : n < 0) : ∃ r, 0 ≤ r ∧ r < m ∧ n.tmod m = -r ∧ n % m = (if r = 0 then 0 else m - r) ∧ (-r) % m = n % m := by
  refine ⟨(-n) % m, Int.emod_nonneg _ (by omega), Int.emod_lt_of_pos _ hm, ?_, ?_, ?_⟩
  · rw [← Int.neg_neg n, Int.neg_tmod, Int.tmod_eq_emod_of_nonneg (by omega), Int.neg_neg]
  · have h := Int.emod_add_mul_ediv (-n) m
    have h1 := Int.emod_nonneg (-n) (show m ≠ 0 by omega)
    have h2 := Int.emod_lt_of_pos (-n) hm
    generalize (-n) % m = r at *
    generalize (-n) / m = q at *
    obtain rfl : n = -r + m * (-q) := by rw [Int.mul_neg]; omega
    rw [Int.add_mul_emod_self_left]
    by_cases hr : r = 0
    · subst hr; simp
    · rw [if_neg hr, ← Int.add_emod_right, Int.emod_eq_of_lt (by omega) (by omega)]; omega
  · have h := Int.emod_add_mul_ediv (-n) m
    generalize (-n) % m = r at *
    generalize (-n) / m = q at *
    obtain rfl : n = -r + m * (-q) := by rw [Int.mul_neg]; omega
    rw [Int.add_mul_emod_self_left]
theorem remainder_any (m n : Int) (w : World) (h1 : 1 ≤ m) (h2 : m ≤ 10000) (h3 : -1000000000000 ≤ n) (h4 : n ≤ 1000000000000) :
    Calls Tryz.prog 142 #[.int .i64 m, .int .i64 n] w fun e w' => e = .returned (.int .i64 (n % m)) ∧ w = w' := by
  by_cases hn : 0 ≤ n
  · have h5 := Int.emod_nonneg n (show m ≠ 0 by omega)
    have h6 := Int.emod_lt_of_pos n (show 0 < m by omega)
    go_enter Tryz.func142, Tryz.ntmps142
    go_wp2
    go_ret
    exact ⟨rfl, rfl⟩
  · obtain ⟨r, a1, a2, a3, a4, a5⟩ := rem_neg m n (by omega) (by omega)
    have H4 := Lib.hid a4
    clear a4 a5
    by_cases hr : r = 0
    · subst hr
      go_enter Tryz.func142, Tryz.ntmps142
      go_wp2
      go_ret
      exact ⟨ret_int (by rw [H4.out]; simp), rfl⟩
    · have hr' : 0 < r := by omega
      clear hr
      go_enter Tryz.func142, Tryz.ntmps142
      go_wp2
      go_ret
      exact ⟨ret_int (by rw [H4.out, if_neg (by omega)]; omega), rfl⟩
end Go.Proofs.YtfhdgcndiljjcabGreat

/- Slices of integers that a call has made itself: appending one number, reading. -/
namespace Go.Proofs.YtfhdgcndiljjcabGreat
open Go.RowKit Go.WideShapes Go.ChangeShapes Go.ChangeAt
/-- v is a slice of the call's own, from block base on, that holds the integers of l -/
def OwnI (w : World) (base : Nat) (v : Value) (l : List Int) : Prop := w.ownsRow base 2 1 v l.length (l.map (Value.int .i64))
theorem info64 : (Tryz.prog.info? 2).map (fun i => (i.zero, i.size, i.bytes)) = some (some (.int .i64 0), 1, 8) := by kernel_rfl
theorem OwnI.nil (w : World) (base : Nat) : OwnI w base (.slice none 0 0) [] := World.ownsRow_nil _ _ _ _
theorem OwnI.form {w : World} {base : Nat} {v : Value} {l : List Int} (h : OwnI w base v l) : ∃ A c, v = .slice A l.length c ∧ RI w A l := by
  unfold OwnI at h
  rcases h.2 with ⟨rfl, h0⟩ | ⟨g, cap, cur, rfl, hb, hg, h1, h2, h3, h4⟩
  · obtain rfl : l = [] := List.eq_nil_of_length_eq_zero h0
    exact ⟨none, 0, rfl, fun h => absurd rfl h⟩
  · refine ⟨_, _, rfl, fun _ => ⟨g, 0, rfl, (Array.getElem?_eq_some_iff.1 hg).1, fun k hk => ?_⟩⟩
    have hc := h.cells (g := g) rfl k (.int .i64 (l[k]?.getD 0)) (by
      rw [List.getElem?_map, List.getElem?_eq_getElem hk]; rfl)
    have e : (⟨g, 0, none⟩ : Addr).add k = ⟨g, 0 + k, none⟩ := by unfold Addr.add; split <;> simp_all
    rw [← e]; exact hc
theorem OwnI.below {w w' : World} {base B : Nat} {v : Value} {l : List Int} (h : OwnI w base v l) (hb : Below B w w') (hB : ∀ g, v.ownBlock = some g → g < B) : OwnI w' base v l := by
  unfold OwnI at h ⊢
  refine ⟨h.1, ?_⟩
  rcases h.2 with hn | ⟨g, cap, cur, rfl, hg, hh, rest⟩
  · exact .inl hn
  · exact .inr ⟨g, cap, cur, rfl, hg, (hb.block g (hB g rfl)).trans hh, rest⟩
theorem OwnI.keep {w w' : World} {base : Nat} {v : Value} {l : List Int} (h : OwnI w base v l) (hb : Below w.heap.size w w') : OwnI w' base v l :=
  h.below hb (fun g hg => (World.ownsRow.lt h g hg).2)
theorem OwnI.lt {w : World} {base : Nat} {v : Value} {l : List Int} (h : OwnI w base v l) : ∀ g, v.ownBlock = some g → base ≤ g ∧ g < w.heap.size := World.ownsRow.lt h
theorem OwnI.more {w : World} {base b' : Nat} {v : Value} {l : List Int} (h : OwnI w base v l) (hb : b' ≤ base) : OwnI w b' v l := by
  unfold OwnI at h ⊢
  refine ⟨h.1, ?_⟩
  rcases h.2 with hn | ⟨g, cap, cur, hv, hg, hh, rest⟩
  · exact .inl hn
  · exact .inr ⟨g, cap, cur, hv, Nat.le_trans hb hg, hh, rest⟩
theorem OwnI.one (w : World) (x : Int) : OwnI (w.alloc (.cells #[.int .i64 x] 2)) w.heap.size (.slice (some ⟨w.heap.size, 0, none⟩) 1 1) [x] :=
  ⟨rfl, .inr ⟨w.heap.size, 1, #[.int .i64 x], rfl, Nat.le_refl _, heap_alloc_new w _, Nat.le_refl _, by unfold maxLen; omega, rfl, rfl⟩⟩
/-- appending one number, which lies in a new block of its own -/
theorem wp_push {ops : Array Oper} {rest : List Oper} {o : Oper} {a : Act} {Q : Exit → Act → World → Prop} {w : World} (s x : Operand) (t : TypeId)
    (hgd : o.guard = none) (ho : o.op = .call { callee := .builtin .append, args := #[s, x], argTypes := #[t, t] })
    (ht : Tryz.prog.underlying t = some (.slice 2)) (base : Nat) (v : Value) (l : List Int) (hs : a.eval s = v) (hown : OwnI w base v l)
    (y : Int) (hx : a.eval x = .slice (some ⟨w.heap.size, 0, none⟩) 1 1) (hlen : l.length ≤ 1000000000000) (hbase : base ≤ w.heap.size)
    (h : ∀ v' w', OwnI w' base v' (l ++ [y]) → Below base w w' → wpList Tryz.prog ops Q rest (a.put o.dst v') w') :
    wpList Tryz.prog ops Q (o :: rest) a (w.alloc (.cells #[.int .i64 y] 2)) := by
  obtain ⟨i0, hi, hz0, hz1, hz2⟩ := info_parts info64
  refine wpList_append_own _ hgd s x t ho base 2 i0 (.int .i64 0) 1 8 ht hi hz0 hz1 hz2 rfl (by decide) v l.length (l.map (Value.int .i64)) hs (hown.alloc _)
    ⟨w.heap.size, 0, none⟩ 1 1 [.int .i64 y] hx rfl ?_ ?_ ?_ ?_ ?_ ?_
  · intro j u hj
    match j, hj with
    | 0, hj => simp at hj; subst hj; simp [Addr.add]
  · intro u hu; simp at hu; subst hu; rfl
  · unfold maxLen; omega
  · omega
  · simp; omega
  · intro v' w' h1 h2 _
    refine h v' w' ?_ ?_
    · unfold OwnI; rw [List.map_append, List.length_append]; exact h1
    · exact ((Below.refl base w).alloc hbase _).grown h2 (by simp; omega) (fun k hk => (World.ownsRow.lt hown k hk).1)
/-- the same at a step of a region that draws its order: the number lies in block g -/
theorem step_push {ops : Array Oper} {o : Oper} {a : Act} {K : Act → World → Prop} {Q : Exit → Act → World → Prop} {E : Prop} {w : World} (s x : Operand) (t : TypeId)
    (hgd : o.guard = none) (ho : o.op = .call { callee := .builtin .append, args := #[s, x], argTypes := #[t, t] })
    (ht : Tryz.prog.underlying t = some (.slice 2)) (base : Nat) (v : Value) (l : List Int) (hs : a.eval s = v) (hown : OwnI w base v l)
    (g : Nat) (y : Int) (hx : a.eval x = .slice (some ⟨g, 0, none⟩) 1 1) (hy : w.cell? ⟨g, 0, none⟩ = some (.int .i64 y)) (hlen : l.length ≤ 1000000000000) (hbase : base ≤ w.heap.size)
    (h : ∀ v' w', OwnI w' base v' (l ++ [y]) → Below base w w' → K (a.put o.dst v') w') :
    if Region.wanted o (yielded ops a.tmps) = true then Oper.wp Tryz.prog o a w K Q else E := by
  have hw : Region.wanted o (yielded ops a.tmps) = true := by simp [Region.wanted, hgd]
  rw [if_pos hw]
  obtain ⟨i0, hi, hz0, hz1, hz2⟩ := info_parts info64
  refine wp_append_own _ s x t ho base 2 i0 (.int .i64 0) 1 8 ht hi hz0 hz1 hz2 rfl (by decide) v l.length (l.map (Value.int .i64)) hs hown
    ⟨g, 0, none⟩ 1 1 [.int .i64 y] hx rfl ?_ ?_ ?_ ?_ hbase ?_
  · intro j u hj
    match j, hj with
    | 0, hj => simp at hj; subst hj; simp [Addr.add]; exact hy
  · intro u hu; simp at hu; subst hu; rfl
  · unfold maxLen; omega
  · omega
  · intro v' w' h1 h2 _
    refine h v' w' ?_ ?_
    · unfold OwnI; rw [List.map_append, List.length_append]; exact h1
    · exact (Below.refl base w).grown h2 hbase (fun k hk => (World.ownsRow.lt hown k hk).1)
theorem OwnI.alloc {w : World} {base : Nat} {v : Value} {l : List Int} (h : OwnI w base v l) (o : Obj) : OwnI (w.alloc o) base v l := World.ownsRow.alloc h o
theorem OwnI.drewN {w : World} {base : Nat} {v : Value} {l : List Int} (h : OwnI w base v l) (n : Nat) : OwnI (w.drewN n) base v l := h
theorem OwnI.drew {w : World} {base : Nat} {v : Value} {l : List Int} (h : OwnI w base v l) : OwnI w.drew base v l := h
end Go.Proofs.YtfhdgcndiljjcabGreat

/- Contracts of the exact laws' helpers on lists of integers: copying, comparing, marking, looking whether the marks still stand. -/
namespace Go.Proofs.YtfhdgcndiljjcabGreat
open Go.RowKit Go.WideShapes Go.ChangeShapes Go.ChangeAt
/-- the slice at A, wherever it begins, holds the integers of l -/
def RA (w : World) (A : Option Addr) (l : List Int) : Prop :=
  l ≠ [] → ∃ ad : Addr, A = some ad ∧ ad.block < w.heap.size ∧ ∀ k, k < l.length → w.cell? (ad.add k) = some (.int .i64 (l[k]?.getD 0))
theorem add_block (a : Addr) (n : Nat) : (a.add n).block = a.block := by unfold Addr.add; split <;> rfl
theorem add_plain (g o k : Nat) : (⟨g, o, none⟩ : Addr).add k = ⟨g, o + k, none⟩ := by unfold Addr.add; split <;> simp_all
theorem RI.ra {w : World} {A : Option Addr} {l : List Int} (h : RI w A l) : RA w A l := by
  intro hl
  obtain ⟨b, off, e, hlt, hc⟩ := h hl
  exact ⟨_, e, hlt, fun k hk => by rw [add_plain]; exact hc k hk⟩
theorem RA.below {w w' : World} {A : Option Addr} {l : List Int} (h : RA w A l) (hb : Below w.heap.size w w') : RA w' A l := by
  intro hl
  obtain ⟨ad, e, hlt, hc⟩ := h hl
  exact ⟨ad, e, Nat.lt_of_lt_of_le hlt hb.size, fun k hk => (hb.cell (p := ad.add k) (by rw [add_block]; exact hlt)).trans (hc k hk)⟩
theorem OwnI.made (w : World) (n : Nat) (hn : n ≤ maxLen) : OwnI (w.alloc (.cells (madeCells #[.int .i64 0] n) 2)) w.heap.size (.slice (some ⟨w.heap.size, 0, none⟩) n n) (List.replicate n 0) := by
  unfold OwnI
  rw [List.length_replicate]
  refine ⟨by simp, .inr ⟨w.heap.size, n, _, rfl, Nat.le_refl _, heap_alloc_new w _, Nat.le_refl _, hn, by rw [size_madeCells]; omega, ?_⟩⟩
  rw [toList_madeCells_one]; simp
theorem OwnI.cells {w : World} {base g n c : Nat} {l : List Int} (h : OwnI w base (.slice (some ⟨g, 0, none⟩) n c) l) :
    base ≤ g ∧ g < w.heap.size ∧ (∀ i, i < l.length → w.cell? ⟨g, i, none⟩ = some (.int .i64 (l[i]?.getD 0))) ∧ (∀ i, w.frozen? ⟨g, i, none⟩ = false) := by
  have hlt := h.lt g rfl
  unfold OwnI at h
  refine ⟨hlt.1, hlt.2, fun i hi => ?_, fun i => ?_⟩
  · have hc := World.ownsRow.cells h (g := g) rfl i (.int .i64 (l[i]?.getD 0)) (by rw [List.getElem?_map, List.getElem?_eq_getElem hi]; rfl)
    rw [add_plain, Nat.zero_add] at hc
    exact hc
  · rcases h.2 with ⟨hv, _⟩ | ⟨g', cap, cur, hv, _, hg, _⟩
    · cases hv
    · obtain rfl : g = g' := by injection hv with h1; injection h1 with h1; injection h1
      simp [World.frozen?, hg]
theorem OwnI.openv {w : World} {base : Nat} {v : Value} {l : List Int} (h : OwnI w base v l) (hl : l ≠ []) : ∃ g c, v = .slice (some ⟨g, 0, none⟩) l.length c := by
  unfold OwnI at h
  rcases h.2 with ⟨_, h0⟩ | ⟨g, cap, cur, rfl, _⟩
  · exact absurd (List.eq_nil_of_length_eq_zero h0) hl
  · exact ⟨g, cap, rfl⟩
theorem OwnI.set {w : World} {base g n c : Nat} {l : List Int} (h : OwnI w base (.slice (some ⟨g, 0, none⟩) n c) l) (i : Nat) (y : Int) :
    OwnI (w.setCell ⟨g, i, none⟩ (.int .i64 y)) base (.slice (some ⟨g, 0, none⟩) n c) (l.set i y) := by
  unfold OwnI at h ⊢
  rw [List.length_set]
  refine ⟨by simp, .inr ?_⟩
  rcases h.2 with ⟨hv, _⟩ | ⟨g', cap, cur, hv, hb, hg, h1, h2, h3, h4⟩
  · cases hv
  · have e0 := hv
    injection hv with h5 h6 h7
    injection h5 with h5
    injection h5 with h5
    subst h5 h7
    refine ⟨g, c, cur.setIfInBounds i (.int .i64 y), e0, hb, ?_, h1, h2, by simpa using h3, ?_⟩
    · simp [World.setCell, Array.getElem?_modify, hg]
    · rw [Array.toList_setIfInBounds, List.take_set, h4, List.map_set]
theorem grown_setCell (w : World) (g i : Nat) (u : Value) : w.grownBy (w.setCell ⟨g, i, none⟩ u) (some g) :=
  ⟨rfl, rfl, rfl, by simp [World.setCell], fun k _ hne => Below.heap_setCell w ⟨g, i, none⟩ u k (fun e => hne (by rw [e]))⟩
theorem grown_refl (w : World) (r : Option Nat) : w.grownBy w r := ⟨rfl, rfl, rfl, Nat.le_refl _, fun _ _ _ => rfl⟩
theorem grown_trans {a b c : World} {r : Option Nat} (h : a.grownBy b r) (k : b.grownBy c r) : a.grownBy c r :=
  ⟨k.os.trans h.os, k.tape.trans h.tape, k.output.trans h.output, Nat.le_trans h.size k.size, fun i hi hne => (k.block i (Nat.lt_of_lt_of_le hi h.size) hne).trans (h.block i hi hne)⟩
theorem OwnI.other {w w' : World} {base : Nat} {v : Value} {l : List Int} {r : Option Nat} (h : OwnI w base v l) (hg : w.grownBy w' r) (hne : v.ownBlock = none ∨ v.ownBlock ≠ r) : OwnI w' base v l :=
  World.ownsRow.kept h hg hne
theorem fill_step (l : List Int) (k n : Nat) (hk : k < l.length) (hn : k < n) (y : Int) (hy : l[k]?.getD 0 = y) : (l.take k ++ List.replicate (n - k) 0).set k y = l.take (k + 1) ++ List.replicate (n - (k + 1)) 0 := by
  have e : n - k = (n - (k + 1)) + 1 := by omega
  have e2 : l[k] = y := by rw [← hy, List.getElem?_eq_getElem hk]; rfl
  rw [List.set_append_right _ _ (by simp; omega), e, List.replicate_succ, List.length_take, Nat.min_eq_left (by omega), Nat.sub_self, List.set_cons_zero, List.take_succ_eq_append_getElem hk, e2, List.append_assoc]
  rfl
set_option maxHeartbeats 1000000 in
theorem toInt64S_any (A : Option Addr) (c : Nat) (l : List Int) (w : World) (hl : l.length ≤ 1048576) (hr : RA w A l) :
    Calls Tryz.prog 56 #[.slice A l.length c] w fun e w' => ∃ v, e = .returned v ∧ OwnI w' w.heap.size v l ∧ Below w.heap.size w w' := by
  have hmk := fun W => run_make_row' (P := Tryz.prog) 26 2 (.int .i64 0) 8 Tryz.underlying26 info64 rfl .i64 .i64 l.length (by omega) (by omega) W
  go_enter Tryz.func56, Tryz.ntmps56
  go_wp2
  go_loopw [4] (fun i wr => ∃ k : Nat, k ≤ l.length ∧ i = .int .i64 k ∧ OwnI wr w.heap.size (.slice (some ⟨w.heap.size, 0, none⟩) l.length l.length) (l.take k ++ List.replicate (l.length - k) 0) ∧ Below w.heap.size w wr) (fun i _ => l.length - (intOf i).toNat)
  case atStart => exact ⟨0, Nat.zero_le _, rfl, by simpa using OwnI.made w l.length (by unfold maxLen; omega), (Below.refl _ _).alloc (Nat.le_refl _) _⟩
  case round =>
    obtain ⟨k, hk, rfl, hown, hbel⟩ := hrel
    have HB := Lib.hid hbel
    have HO := Lib.hid hown
    clear hown hbel
    by_cases hlt : k < l.length
    · obtain ⟨ad, rfl, hb, hc⟩ := hr (by rintro rfl; simp at hlt)
      have hck := (HB.out.cell (p := ad.add k) (by rw [add_block]; exact hb)).trans (hc k hlt)
      obtain ⟨_, _, o3, o4⟩ := HO.out.cells
      have hd := o3 k (by simp; omega)
      have hf := o4 k
      obtain ⟨x, hx⟩ : ∃ x, l[k]?.getD 0 = x := ⟨_, rfl⟩
      rw [hx] at hck
      obtain ⟨y, hy⟩ : ∃ y, (l.take k ++ List.replicate (l.length - k) 0)[k]?.getD 0 = y := ⟨_, rfl⟩
      rw [hy] at hd
      have HX := Lib.hid hx
      clear hx hy hc o3 o4 hr
      have hgk := HO.out.set k x
      rw [fill_step l k l.length hlt hlt x HX.out] at hgk
      have HK := Lib.hid hgk
      clear hgk
      go_wp2
      go_roundw
      case rel => exact ⟨k + 1, by omega, by go_num, HK.out, HB.out.setCell (Nat.le_refl _) _⟩
      case measure => simp only [intOf]; omega
    · obtain rfl : k = l.length := by omega
      have hfin := HO.out
      rw [Nat.sub_self, List.replicate_zero, List.append_nil, List.take_length] at hfin
      have HFin := Lib.hid hfin
      clear hfin
      go_wp2
      go_ret
      exact ⟨_, rfl, HFin.out, HB.out⟩
/-- n marks from k on -/
def marks (k : Int) (n : Nat) : List Int := (List.range n).map fun i => k + (i : Nat)
theorem marks_length (k : Int) (n : Nat) : (marks k n).length = n := by simp [marks]
theorem marks_get (k : Int) (n i : Nat) (h : i < n) : (marks k n)[i]?.getD 0 = k + (i : Nat) := by simp [marks, h]
theorem marks_succ (k : Int) (n : Nat) : marks k (n + 1) = marks k n ++ [k + (n : Nat)] := by simp [marks, List.range_succ]
theorem marks_step (l : List Int) (k : Int) (j : Nat) (h : j < l.length) : (marks k j ++ l.drop j).set j (k + (j : Nat)) = marks k (j + 1) ++ l.drop (j + 1) := by
  rw [List.set_append_right _ _ (by rw [marks_length]; exact Nat.le_refl _), marks_length, Nat.sub_self, List.drop_eq_getElem_cons h, List.set_cons_zero, marks_succ, List.append_assoc]
  rfl
set_option maxHeartbeats 1000000 in
theorem markInt64S_any (v : Value) (base : Nat) (l : List Int) (k : Int) (w : World) (hl : l.length ≤ 10485760) (hk : 0 ≤ k) (hk2 : k ≤ 1000000000000) (hown : OwnI w base v l) :
    Calls Tryz.prog 14 #[v, .int .i64 k] w fun e w' => e = .returned (.int .i64 (k + l.length)) ∧ OwnI w' base v (marks k l.length) ∧ w.grownBy w' v.ownBlock := by
  by_cases hnil : l = []
  · subst hnil
    have HO := Lib.hid hown
    obtain ⟨A, c, rfl, _⟩ := hown.form
    clear hown
    go_enter Tryz.func14, Tryz.ntmps14
    go_wp2
    refine wp_loop_rounds 1 ?_
    rw [rounds_succ]
    go_wp2
    go_ret
    exact ⟨ret_int (by simp), HO.out, grown_refl _ _⟩
  · obtain ⟨g, c, rfl⟩ := hown.openv hnil
    have HO := Lib.hid hown
    clear hown
    go_enter Tryz.func14, Tryz.ntmps14
    go_wp2
    go_loopw [5, 1] (fun i m wr => ∃ j : Nat, j ≤ l.length ∧ i = .int .i64 j ∧ m = .int .i64 (k + j) ∧ OwnI wr base (.slice (some ⟨g, 0, none⟩) l.length c) (marks k j ++ l.drop j) ∧ w.grownBy wr (some g)) (fun i _ _ => l.length - (intOf i).toNat)
    case atStart => exact ⟨0, Nat.zero_le _, rfl, by simp, HO.out, grown_refl _ _⟩
    case round =>
      obtain ⟨j, hj, rfl, rfl, ho, hg⟩ := hrel
      have HG := Lib.hid hg
      have HJ := Lib.hid ho
      clear ho hg
      by_cases hlt : j < l.length
      · obtain ⟨_, _, o3, o4⟩ := HJ.out.cells
        have hd := o3 j (by simp [marks_length]; omega)
        have hf := o4 j
        obtain ⟨y, hy⟩ : ∃ y, (marks k j ++ l.drop j)[j]?.getD 0 = y := ⟨_, rfl⟩
        rw [hy] at hd
        have hset := HJ.out.set j (k + (j : Nat))
        rw [marks_step l k j hlt] at hset
        have HS := Lib.hid hset
        clear hy o3 o4 hset
        go_wp2
        go_roundw
        case rel => exact ⟨j + 1, by omega, by go_num, by rw [show k + ((j + 1 : Nat) : Int) = k + j + 1 by omega], HS.out, grown_trans HG.out (grown_setCell _ _ _ _)⟩
        case measure => simp only [intOf]; omega
      · obtain rfl : j = l.length := by omega
        have hfin := HJ.out
        rw [List.drop_length, List.append_nil] at hfin
        have HFin := Lib.hid hfin
        clear hfin
        go_wp2
        go_ret
        exact ⟨rfl, HFin.out, HG.out⟩
set_option maxHeartbeats 1000000 in
theorem heldInt64S_any (A : Option Addr) (c n : Nat) (k : Int) (w : World) (hl : n ≤ 10485760) (hk : 0 ≤ k) (hk2 : k ≤ 1000000000000) (hr : RI w A (marks k n)) :
    Calls Tryz.prog 15 #[.slice A n c, .int .i64 k] w fun e w' => e = .returned (.int .i64 (k + n)) ∧ w = w' := by
  go_enter Tryz.func15, Tryz.ntmps15
  go_wp2
  go_loop [5, 1] (fun i m => ∃ j : Nat, j ≤ n ∧ i = .int .i64 j ∧ m = .int .i64 (k + j)) (fun i _ => n - (intOf i).toNat)
  case atStart => exact ⟨0, Nat.zero_le _, rfl, by simp⟩
  case round =>
    obtain ⟨j, hj, rfl, rfl⟩ := hrel
    by_cases hlt : j < n
    · obtain ⟨b, off, rfl, hb, hc⟩ := hr (by intro h; have := congrArg List.length h; rw [marks_length] at this; simp at this; omega)
      have hck := hc j (by rw [marks_length]; exact hlt)
      rw [marks_get _ _ _ hlt] at hck
      clear hc hr
      go_wp2
      go_round
      case rel => exact ⟨j + 1, by omega, by go_num, by rw [show k + ((j + 1 : Nat) : Int) = k + j + 1 by omega]⟩
      case measure => simp only [intOf]; omega
    · obtain rfl : j = n := by omega
      go_wp2
      go_ret
      exact ⟨rfl, rfl⟩
set_option maxHeartbeats 1000000 in
theorem eqInt64S_any (A B : Option Addr) (c d : Nat) (l : List Int) (w : World) (hl : l.length ≤ 10485760) (ha : RI w A l) (hb : RI w B l) :
    Calls Tryz.prog 11 #[.slice A l.length c, .slice B l.length d] w fun e w' => e = .returned (.bool true) ∧ Below w.heap.size w w' := by
  go_enter Tryz.func11, Tryz.ntmps11
  go_wp2
  go_loopw [5] (fun i wr => ∃ j : Nat, j ≤ l.length ∧ i = .int .i64 j ∧ Below w.heap.size w wr) (fun i _ => l.length - (intOf i).toNat)
  case atStart => exact ⟨0, Nat.zero_le _, rfl, Below.refl _ _⟩
  case round =>
    obtain ⟨j, hj, rfl, hbel⟩ := hrel
    have HB := Lib.hid hbel
    clear hbel
    by_cases hlt : j < l.length
    · obtain ⟨b, off, rfl, hb1, hc1⟩ := ha (by rintro rfl; simp at hlt)
      obtain ⟨b', off', rfl, hb2, hc2⟩ := hb (by rintro rfl; simp at hlt)
      have h1 := (HB.out.cell (p := ⟨b, off + j, none⟩) hb1).trans (hc1 j hlt)
      have h2 := (HB.out.cell (p := ⟨b', off' + j, none⟩) hb2).trans (hc2 j hlt)
      obtain ⟨x, hx⟩ : ∃ x, l[j]?.getD 0 = x := ⟨_, rfl⟩
      rw [hx] at h1 h2
      have j1 : (0 : Int) ≤ (j : Int) := by omega
      have j2 : (j : Int) < (l.length : Int) := by omega
      clear hx hc1 hc2 ha hb
      go_wp2
      go_quiet (fail)
      go_wp2
      go_roundw
      case rel => exact ⟨j + 1, by omega, by go_num, below_drewN HB.out _⟩
      case measure => simp only [intOf]; omega
    · obtain rfl : j = l.length := by omega
      go_wp2
      go_ret
      exact ⟨rfl, HB.out⟩
end Go.Proofs.YtfhdgcndiljjcabGreat

/- Contracts of the functions that look at series, of the program. -/
namespace Go.Proofs.YtfhdgcndiljjcabGreat
open Go.RowKit Go.WideShapes Go.ChangeShapes Go.ChangeAt
theorem below_alloc {w w' : World} (o : Obj) (h : Below w.heap.size w w') : Below w.heap.size w (w'.alloc o) := h.alloc h.size o
theorem below_one (w : World) (o : Obj) : Below w.heap.size w (w.alloc o) := (Below.refl _ _).alloc (Nat.le_refl _) o
theorem degree_any (m : Int) (A : Option Addr) (n c : Nat) (w : World) (hn : n ≤ 9223372036854775807) :
    Calls Tryz.prog 76 #[.agg #[.int .i64 m, .slice A n c]] w fun e w' => e = .returned (.int .i64 ((n : Int) - 1)) ∧ Below w.heap.size w w' := by
  go_enter Tryz.func76, Tryz.ntmps76
  go_wp2
  go_ret
  exact ⟨rfl, below_one _ _⟩
/-- the block of a series in a variable of its own -/
def Box (w : World) (g : Nat) (m : Int) (A : Option Addr) (n c : Nat) : Prop := w.cell? ⟨g, 0, none⟩ = some (.int .i64 m) ∧ w.cell? ⟨g, 1, none⟩ = some (.slice A n c) ∧ g < w.heap.size
theorem Box.new (w : World) (m : Int) (A : Option Addr) (n c : Nat) : Box (w.alloc (.cells #[.int .i64 m, .slice A n c] 39)) w.heap.size m A n c := by
  refine ⟨?_, ?_, by simp⟩ <;> rw [World.cell?_alloc_at _ _ _ _ rfl] <;> rfl
theorem Box.keep {w w' : World} {g : Nat} {m : Int} {A : Option Addr} {n c : Nat} (h : Box w g m A n c) (hb : Below w.heap.size w w') : Box w' g m A n c :=
  ⟨(hb.cell (p := ⟨g, 0, none⟩) h.2.2).trans h.1, (hb.cell (p := ⟨g, 1, none⟩) h.2.2).trans h.2.1, Nat.lt_of_lt_of_le h.2.2 hb.size⟩
theorem box_in {W w' : World} {g : Nat} {m : Int} {A : Option Addr} {n c : Nat} (h : Box W g m A n c) (hb : Below W.heap.size W w') : w'.cell? ⟨g, 0, none⟩ = some (.int .i64 m) ∧ w'.cell? ⟨g, 1, none⟩ = some (.slice A n c) :=
  ⟨(h.keep hb).1, (h.keep hb).2.1⟩
theorem box2_in {W w' : World} {g g' : Nat} {m m' : Int} {A A' : Option Addr} {n c n' c' : Nat} (h : Box W g m A n c) (h' : Box W g' m' A' n' c') (hb : Below W.heap.size W w') :
    (w'.cell? ⟨g, 0, none⟩ = some (.int .i64 m) ∧ w'.cell? ⟨g, 1, none⟩ = some (.slice A n c)) ∧ (w'.cell? ⟨g', 0, none⟩ = some (.int .i64 m') ∧ w'.cell? ⟨g', 1, none⟩ = some (.slice A' n' c')) ∧ Below W.heap.size W w' :=
  ⟨box_in h hb, box_in h' hb, hb⟩
theorem box2_next {W w w' : World} {g g' : Nat} {m m' : Int} {A A' : Option Addr} {n c n' c' : Nat} {p q : Prop} (h : Box W g m A n c) (h' : Box W g' m' A' n' c') (hb : Below w.heap.size w w') (hs : p ∧ q ∧ Below W.heap.size W w) :
    (w'.cell? ⟨g, 0, none⟩ = some (.int .i64 m) ∧ w'.cell? ⟨g, 1, none⟩ = some (.slice A n c)) ∧ (w'.cell? ⟨g', 0, none⟩ = some (.int .i64 m') ∧ w'.cell? ⟨g', 1, none⟩ = some (.slice A' n' c')) ∧ Below W.heap.size W w' :=
  box2_in h h' (hs.2.2.trans (hb.mono hs.2.2.size))
theorem box_call {w w' : World} {g : Nat} {m : Int} {A : Option Addr} {n c : Nat} (hb : Below w.heap.size w w') (h : w.cell? ⟨g, 0, none⟩ = some (.int .i64 m) ∧ w.cell? ⟨g, 1, none⟩ = some (.slice A n c) ∧ g < w.heap.size) :
    w'.cell? ⟨g, 0, none⟩ = some (.int .i64 m) ∧ w'.cell? ⟨g, 1, none⟩ = some (.slice A n c) ∧ g < w'.heap.size := Box.keep (show Box w g m A n c from h) hb
theorem box_store {w : World} {g b : Nat} {m : Int} {A : Option Addr} {n c : Nat} {x y : Value} (hne : b ≠ g) (h : w.cell? ⟨g, 0, none⟩ = some (.int .i64 m) ∧ w.cell? ⟨g, 1, none⟩ = some (.slice A n c) ∧ g < w.heap.size) :
    ((w.setCell ⟨b, 0, none⟩ x).setCell ⟨b, 1, none⟩ y).cell? ⟨g, 0, none⟩ = some (.int .i64 m) ∧ ((w.setCell ⟨b, 0, none⟩ x).setCell ⟨b, 1, none⟩ y).cell? ⟨g, 1, none⟩ = some (.slice A n c) ∧ g < ((w.setCell ⟨b, 0, none⟩ x).setCell ⟨b, 1, none⟩ y).heap.size := by
  refine ⟨?_, ?_, by simpa [World.setCell] using h.2.2⟩
  · rw [World.cell?_setCell_other _ _ _ _ (by intro e; injection e with e; exact hne e), World.cell?_setCell_other _ _ _ _ (by intro e; injection e with e; exact hne e)]; exact h.1
  · rw [World.cell?_setCell_other _ _ _ _ (by intro e; injection e with e; exact hne e), World.cell?_setCell_other _ _ _ _ (by intro e; injection e with e; exact hne e)]; exact h.2.1
theorem below_drew0 (w : World) : Below w.heap.size w w.drew := (Below.refl _ _).drew
theorem box2_new (w : World) (m m' : Int) (A A' : Option Addr) (n c n' c' : Nat) (W : World) (hW : ((w.alloc (.cells #[.int .i64 m, .slice A n c] 39)).alloc (.cells #[.int .i64 m', .slice A' n' c'] 39)) = W) :
    Box W w.heap.size m A n c ∧ Box W (w.heap.size + 1) m' A' n' c' ∧ Below w.heap.size w W := by
  subst hW
  have h1 := (Box.new w m A n c).keep (below_one _ (.cells #[.int .i64 m', .slice A' n' c'] 39))
  have h2 := Box.new (w.alloc (.cells #[.int .i64 m, .slice A n c] 39)) m' A' n' c'
  simp only [World.size_alloc] at h2
  exact ⟨h1, h2, below_alloc _ (below_one _ _)⟩
end Go.Proofs.YtfhdgcndiljjcabGreat

/- Contracts of the codes of series: one, two, one with a number. -/
namespace Go.Proofs.YtfhdgcndiljjcabGreat
open Go.RowKit Go.WideShapes Go.ChangeShapes Go.ChangeAt
/-- a list of two series in block g -/
def Box4 (w : World) (g : Nat) (m : Int) (A : Option Addr) (n c : Nat) (m' : Int) (A' : Option Addr) (n' c' : Nat) : Prop :=
  Box w g m A n c ∧ w.cell? ⟨g, 2, none⟩ = some (.int .i64 m') ∧ w.cell? ⟨g, 3, none⟩ = some (.slice A' n' c')
theorem Box4.keep {w w' : World} {g : Nat} {m : Int} {A : Option Addr} {n c : Nat} {m' : Int} {A' : Option Addr} {n' c' : Nat} (h : Box4 w g m A n c m' A' n' c') (hb : Below w.heap.size w w') : Box4 w' g m A n c m' A' n' c' :=
  ⟨h.1.keep hb, (hb.cell (p := ⟨g, 2, none⟩) h.1.2.2).trans h.2.1, (hb.cell (p := ⟨g, 3, none⟩) h.1.2.2).trans h.2.2⟩
theorem Box4.new (w : World) (m : Int) (A : Option Addr) (n c : Nat) (m' : Int) (A' : Option Addr) (n' c' : Nat) : Box4 (w.alloc (.cells #[.int .i64 m, .slice A n c, .int .i64 m', .slice A' n' c'] 39)) w.heap.size m A n c m' A' n' c' := by
  refine ⟨⟨?_, ?_, by simp⟩, ?_, ?_⟩ <;> rw [World.cell?_alloc_at _ _ _ _ rfl] <;> rfl
end Go.Proofs.YtfhdgcndiljjcabGreat

/- Plain theory of power series over the integers, and of congruence modulo m up to a degree: no program in sight. -/
namespace Go.Proofs.YtfhdgcndiljjcabGreat
namespace Ser
/-- the series behind its constant -/
def sh (a : Nat → Int) : Nat → Int := fun i => a (i + 1)
/-- the coefficient of t^n in a b -/
def cv : Nat → (Nat → Int) → (Nat → Int) → Int
  | 0, a, b => a 0 * b 0
  | n + 1, a, b => a 0 * b (n + 1) + cv n (sh a) b
/-- the product -/
def mul (a b : Nat → Int) : Nat → Int := fun n => cv n a b
theorem cv_zero (a b : Nat → Int) : cv 0 a b = a 0 * b 0 := rfl
theorem cv_succ (n : Nat) (a b : Nat → Int) : cv (n + 1) a b = a 0 * b (n + 1) + cv n (sh a) b := rfl
theorem mul_at (a b : Nat → Int) (n : Nat) : mul a b n = cv n a b := rfl
theorem cv_add (a a' : Nat → Int) (b : Nat → Int) : ∀ n, cv n (fun i => a i + a' i) b = cv n a b + cv n a' b := by
  intro n
  induction n generalizing a a' with
  | zero => simp only [cv_zero]; exact Int.add_mul _ _ _
  | succ n ih =>
    simp only [cv_succ]
    have := ih (sh a) (sh a')
    have e : (sh fun i => a i + a' i) = fun i => sh a i + sh a' i := rfl
    rw [e, this, Int.add_mul]
    omega
theorem cv_smul (c : Int) (a b : Nat → Int) : ∀ n, cv n (fun i => c * a i) b = c * cv n a b := by
  intro n
  induction n generalizing a with
  | zero => simp only [cv_zero]; exact Int.mul_assoc _ _ _
  | succ n ih =>
    simp only [cv_succ]
    have e : (sh fun i => c * a i) = fun i => c * sh a i := rfl
    rw [e, ih, Int.mul_assoc, Int.mul_add]
theorem cv_zero_left (b : Nat → Int) : ∀ n, cv n (fun _ => 0) b = 0 := by
  intro n
  induction n with
  | zero => simp [cv_zero]
  | succ n ih =>
    rw [cv_succ]
    have e : (sh fun _ => (0 : Int)) = fun _ => 0 := rfl
    rw [e, ih]; simp
/-- the same recursion from the other side -/
theorem cv_succ' (a b : Nat → Int) : ∀ n, cv (n + 1) a b = cv n a (sh b) + a (n + 1) * b 0 := by
  intro n
  induction n generalizing a with
  | zero => simp only [cv_succ, cv_zero, sh]
  | succ n ih =>
    rw [cv_succ (n + 1), ih (sh a), cv_succ n a (sh b)]
    simp only [sh]
    omega
theorem cv_comm (a b : Nat → Int) : ∀ n, cv n a b = cv n b a := by
  intro n
  induction n generalizing a with
  | zero => simp only [cv_zero]; exact Int.mul_comm _ _
  | succ n ih => rw [cv_succ, cv_succ' b a, ih, Int.mul_comm (a 0)]; omega
theorem mul_comm (a b : Nat → Int) : mul a b = mul b a := funext fun n => cv_comm a b n
theorem sh_mul (a b : Nat → Int) : sh (mul a b) = fun i => a 0 * sh b i + mul (sh a) b i := rfl
theorem cv_assoc (a b c : Nat → Int) : ∀ n, cv n (mul a b) c = cv n a (mul b c) := by
  intro n
  induction n generalizing a with
  | zero => simp only [cv_zero, mul_at]; exact Int.mul_assoc _ _ _
  | succ n ih =>
    rw [cv_succ, sh_mul, cv_add, cv_smul, ih, cv_succ n a, mul_at, mul_at, cv_zero, cv_succ, Int.mul_add, Int.mul_assoc]
    omega
theorem mul_assoc (a b c : Nat → Int) : mul (mul a b) c = mul a (mul b c) := funext fun n => cv_assoc a b c n
theorem add_mul (a a' b : Nat → Int) : mul (fun i => a i + a' i) b = fun i => mul a b i + mul a' b i := funext fun n => cv_add a a' b n
theorem mul_add (a b b' : Nat → Int) : mul a (fun i => b i + b' i) = fun i => mul a b i + mul a b' i := by
  rw [mul_comm, add_mul, mul_comm b, mul_comm b']
/-- c t^k -/
def mon (k : Nat) (c : Int) : Nat → Int := fun n => if n = k then c else 0
theorem sh_mon0 (c : Int) : sh (mon 0 c) = fun _ => 0 := by funext i; simp [sh, mon]
theorem cv_const (c : Int) (b : Nat → Int) : ∀ n, cv n (mon 0 c) b = c * b n := by
  intro n
  cases n with
  | zero => simp [cv_zero, mon]
  | succ n => rw [cv_succ, sh_mon0, cv_zero_left]; simp [mon]
theorem const_mul (c : Int) (b : Nat → Int) : mul (mon 0 c) b = fun i => c * b i := funext fun n => cv_const c b n
theorem one_mul (b : Nat → Int) : mul (mon 0 1) b = b := by rw [const_mul]; funext i; simp
theorem mul_one (b : Nat → Int) : mul b (mon 0 1) = b := by rw [mul_comm, one_mul]
/-- equal up to t^n -/
def Eq (m : Int) (n : Nat) (a b : Nat → Int) : Prop := ∀ i, i ≤ n → a i % m = b i % m
theorem Eq.refl (m : Int) (n : Nat) (a : Nat → Int) : Eq m n a a := fun _ _ => rfl
theorem Eq.of (m : Int) (n : Nat) {a b : Nat → Int} (h : ∀ i, i ≤ n → a i = b i) : Eq m n a b := fun i hi => by rw [h i hi]
theorem Eq.symm {m : Int} {n : Nat} {a b : Nat → Int} (h : Eq m n a b) : Eq m n b a := fun i hi => (h i hi).symm
theorem Eq.trans {m : Int} {n : Nat} {a b c : Nat → Int} (h : Eq m n a b) (k : Eq m n b c) : Eq m n a c := fun i hi => (h i hi).trans (k i hi)
theorem Eq.less {m : Int} {n k : Nat} {a b : Nat → Int} (h : Eq m n a b) (hk : k ≤ n) : Eq m k a b := fun i hi => h i (Nat.le_trans hi hk)
theorem add_cong {m x y z u : Int} (h : x % m = y % m) (k : z % m = u % m) : (x + z) % m = (y + u) % m := by
  rw [Int.add_emod, h, k, ← Int.add_emod]
theorem sub_cong {m x y z u : Int} (h : x % m = y % m) (k : z % m = u % m) : (x - z) % m = (y - u) % m := by
  rw [Int.sub_emod, h, k, ← Int.sub_emod]
theorem mul_cong {m x y z u : Int} (h : x % m = y % m) (k : z % m = u % m) : (x * z) % m = (y * u) % m := by
  rw [Int.mul_emod, h, k, ← Int.mul_emod]
theorem cv_congr {m : Int} {a a' b b' : Nat → Int} : ∀ n, Eq m n a a' → Eq m n b b' → cv n a b % m = cv n a' b' % m := by
  intro n
  induction n generalizing a a' with
  | zero => intro h k; exact mul_cong (h 0 (Nat.le_refl _)) (k 0 (Nat.le_refl _))
  | succ n ih =>
    intro h k
    exact add_cong (mul_cong (h 0 (Nat.zero_le _)) (k _ (Nat.le_refl _))) (ih (fun i hi => h (i + 1) (by omega)) (k.less (by omega)))
theorem Eq.mul {m : Int} {n : Nat} {a a' b b' : Nat → Int} (h : Eq m n a a') (k : Eq m n b b') : Eq m n (mul a b) (mul a' b') :=
  fun i hi => cv_congr i (h.less hi) (k.less hi)
theorem Eq.add {m : Int} {n : Nat} {a a' b b' : Nat → Int} (h : Eq m n a a') (k : Eq m n b b') : Eq m n (fun i => a i + b i) (fun i => a' i + b' i) :=
  fun i hi => add_cong (h i hi) (k i hi)
theorem Eq.smul {m : Int} {n : Nat} {b b' : Nat → Int} (c : Int) (k : Eq m n b b') : Eq m n (fun i => c * b i) (fun i => c * b' i) :=
  fun i hi => mul_cong rfl (k i hi)
/-- a product with a series without a constant asks one coefficient less of the other -/
theorem cv_congr_curve {m : Int} {f f' b b' : Nat → Int} {n : Nat} (hf : f 0 % m = 0) (hf' : f' 0 % m = 0) (h : Eq m n f f') (k : ∀ i, i < n → b i % m = b' i % m) : cv n f b % m = cv n f' b' % m := by
  cases n with
  | zero =>
    rw [cv_zero, cv_zero, Int.mul_emod, hf, Int.mul_emod (f' 0), hf']; simp
  | succ n =>
    rw [cv_succ, cv_succ]
    refine add_cong ?_ (cv_congr n (fun i hi => h (i + 1) (by omega)) (fun i hi => k i (by omega)))
    rw [Int.mul_emod, hf, Int.mul_emod (f' 0), hf']; simp
/-! sums of equal many terms -/
def psum (f : Nat → Int) : Nat → Int
  | 0 => 0
  | k + 1 => psum f k + f k
theorem psum_left (f : Nat → Int) : ∀ k, psum f (k + 1) = f 0 + psum (fun i => f (i + 1)) k := by
  intro k
  induction k with
  | zero => simp [psum]
  | succ k ih => rw [psum, ih, psum]; omega
theorem psum_ext {f g : Nat → Int} : ∀ k, (∀ i, i < k → f i = g i) → psum f k = psum g k := by
  intro k
  induction k with
  | zero => intro _; rfl
  | succ k ih => intro h; rw [psum, psum, ih (fun i hi => h i (by omega)), h k (by omega)]
theorem cv_psum : ∀ (n : Nat) (a b : Nat → Int), cv n a b = psum (fun i => a i * b (n - i)) (n + 1) := by
  intro n
  induction n with
  | zero => intro a b; simp [cv_zero, psum]
  | succ n ih =>
    intro a b
    rw [psum_left, cv_succ, ih]
    congr 1
    exact psum_ext _ (fun i hi => by simp [sh])
/-! composition, by Horner's rule -/
def hor : Nat → (Nat → Int) → (Nat → Int) → Nat → Int
  | 0, a, _ => mon 0 (a 0)
  | k + 1, a, f => fun i => mon 0 (a 0) i + mul f (hor k (sh a) f) i
def comp (a f : Nat → Int) : Nat → Int := fun n => hor n a f n
theorem hor_zero (a f : Nat → Int) : hor 0 a f = mon 0 (a 0) := rfl
theorem hor_succ (k : Nat) (a f : Nat → Int) : hor (k + 1) a f = fun i => mon 0 (a 0) i + mul f (hor k (sh a) f) i := rfl
theorem cv_ext {a a' b b' : Nat → Int} : ∀ n, (∀ i, i ≤ n → a i = a' i) → (∀ i, i ≤ n → b i = b' i) → cv n a b = cv n a' b' := by
  intro n
  induction n generalizing a a' with
  | zero => intro h k; rw [cv_zero, cv_zero, h 0 (Nat.le_refl _), k 0 (Nat.le_refl _)]
  | succ n ih =>
    intro h k
    rw [cv_succ, cv_succ, h 0 (Nat.zero_le _), k _ (Nat.le_refl _)]
    congr 1
    exact ih (fun i hi => h (i + 1) (by omega)) (fun i hi => k i (by omega))
theorem cv_ext_curve {f b b' : Nat → Int} {n : Nat} (hf : f 0 = 0) (k : ∀ i, i < n → b i = b' i) : cv n f b = cv n f b' := by
  cases n with
  | zero => rw [cv_zero, cv_zero, hf]; simp
  | succ n => rw [cv_succ, cv_succ, hf, cv_ext n (fun _ _ => rfl) (fun i hi => k i (by omega))]; simp
theorem hor_stable {f : Nat → Int} (hf : f 0 = 0) : ∀ (k : Nat) (a : Nat → Int) (i : Nat), i ≤ k → hor (k + 1) a f i = hor k a f i := by
  intro k
  induction k with
  | zero =>
    intro a i hi
    obtain rfl : i = 0 := by omega
    rw [hor_succ]
    simp [mul_at, cv_zero, hf, hor_zero]
  | succ k ih =>
    intro a i hi
    rw [hor_succ (k + 1), hor_succ k a]
    dsimp only
    rw [mul_at, mul_at, cv_ext_curve hf (fun j hj => ih (sh a) j (by omega))]
theorem hor_comp {f : Nat → Int} (hf : f 0 = 0) (a : Nat → Int) (k i : Nat) (h : i ≤ k) : hor k a f i = comp a f i := by
  induction k with
  | zero => obtain rfl : i = 0 := by omega
            rfl
  | succ k ih =>
    by_cases hi : i ≤ k
    · rw [hor_stable hf k a i hi, ih hi]
    · obtain rfl : i = k + 1 := by omega
      rfl
theorem comp_eq {f : Nat → Int} (hf : f 0 = 0) (a : Nat → Int) : comp a f = fun i => mon 0 (a 0) i + mul f (comp (sh a) f) i := by
  funext i
  rw [← hor_comp hf a (i + 1) i (by omega), hor_succ]
  dsimp only
  rw [mul_at, mul_at]
  congr 1
  exact cv_ext _ (fun _ _ => rfl) (fun j hj => hor_comp hf _ _ _ hj)
theorem comp_add {f : Nat → Int} (hf : f 0 = 0) : ∀ (n : Nat) (a b : Nat → Int), comp (fun i => a i + b i) f n = comp a f n + comp b f n := by
  intro n
  induction n using Nat.strongRecOn with
  | ind n ih =>
    intro a b
    rw [comp_eq hf (fun i => a i + b i), comp_eq hf a, comp_eq hf b]
    dsimp only
    have e : (sh fun i => a i + b i) = fun i => sh a i + sh b i := rfl
    rw [e, mul_at, mul_at, mul_at, cv_ext_curve (b' := fun i => comp (sh a) f i + comp (sh b) f i) hf (fun j hj => ih j hj _ _)]
    rw [cv_comm, cv_add, cv_comm _ f, cv_comm _ f]
    have : mon 0 (a 0 + b 0) n = mon 0 (a 0) n + mon 0 (b 0) n := by unfold mon; split <;> omega
    rw [this]; omega
theorem comp_smul {f : Nat → Int} (hf : f 0 = 0) (c : Int) : ∀ (n : Nat) (a : Nat → Int), comp (fun i => c * a i) f n = c * comp a f n := by
  intro n
  induction n using Nat.strongRecOn with
  | ind n ih =>
    intro a
    rw [comp_eq hf (fun i => c * a i), comp_eq hf a]
    dsimp only
    have e : (sh fun i => c * a i) = fun i => c * sh a i := rfl
    rw [e, mul_at, mul_at, cv_ext_curve (b' := fun i => c * comp (sh a) f i) hf (fun j hj => ih j hj _)]
    rw [cv_comm, cv_smul, cv_comm _ f, Int.mul_add]
    have : mon 0 (c * a 0) n = c * mon 0 (a 0) n := by unfold mon; split <;> simp
    rw [this]
theorem comp_mul {f : Nat → Int} (hf : f 0 = 0) : ∀ (n : Nat) (a b : Nat → Int), comp (mul a b) f n = cv n (comp a f) (comp b f) := by
  intro n
  induction n using Nat.strongRecOn with
  | ind n ih =>
    intro a b
    have e1 : comp (mul a b) f n = mon 0 (a 0 * b 0) n + cv n f (fun i => a 0 * comp (sh b) f i + mul (comp (sh a) f) (comp b f) i) := by
      rw [comp_eq hf (mul a b)]
      dsimp only
      rw [mul_at, sh_mul]
      congr 1
      refine cv_ext_curve hf (fun j hj => ?_)
      rw [comp_add hf, comp_smul hf, ih j hj]
      rfl
    have e2 : cv n (comp a f) (comp b f) = a 0 * comp b f n + cv n f (mul (comp (sh a) f) (comp b f)) := by
      rw [comp_eq hf a, cv_add, cv_const, cv_assoc]
    rw [e1, e2, cv_comm f, cv_add, cv_smul, cv_comm _ f, cv_comm _ f, comp_eq hf b]
    dsimp only
    rw [mul_at, Int.mul_add]
    have : mon 0 (a 0 * b 0) n = a 0 * mon 0 (b 0) n := by unfold mon; split <;> simp
    rw [this]; omega
/-- t is the unit of composition on both sides -/
theorem sh_t : sh (mon 1 1) = mon 0 1 := by funext i; simp [sh, mon]
theorem comp_const {f : Nat → Int} (hf : f 0 = 0) (c : Int) : comp (mon 0 c) f = mon 0 c := by
  rw [comp_eq hf, sh_mon0]
  have e : comp (fun _ => 0) f = fun _ => 0 := by
    funext i
    have := comp_smul hf 0 i (fun _ => 0)
    simpa using this
  funext i
  rw [e, mul_at, cv_comm, cv_zero_left]
  simp [mon]
theorem t_comp {f : Nat → Int} (hf : f 0 = 0) : comp (mon 1 1) f = f := by
  rw [comp_eq hf, sh_t, comp_const hf, mul_one]
  funext i
  simp [mon]
theorem cv_t (b : Nat → Int) (n : Nat) : cv n (mon 1 1) b = if n = 0 then 0 else b (n - 1) := by
  cases n with
  | zero => simp [cv_zero, mon]
  | succ n => rw [cv_succ, sh_t, cv_const]; simp [mon]
/-- composition respects congruence -/
theorem comp_congr {m : Int} {f f' : Nat → Int} (hf : f 0 = 0) (hf' : f' 0 = 0) : ∀ (n : Nat) (a a' : Nat → Int), Eq m n a a' → Eq m n f f' → comp a f n % m = comp a' f' n % m := by
  intro n
  induction n using Nat.strongRecOn with
  | ind n ih =>
    intro a a' ha h
    rw [comp_eq hf, comp_eq hf']
    dsimp only
    refine add_cong ?_ ?_
    · unfold mon
      split
      · exact ha 0 (Nat.zero_le _)
      · rfl
    · rw [mul_at, mul_at]
      exact cv_congr_curve (by simp [hf]) (by simp [hf']) h (fun i hi => ih i hi _ _ (fun j hj => ha (j + 1) (by omega)) (h.less (by omega)))
theorem Eq.comp {m : Int} {n : Nat} {f f' a a' : Nat → Int} (hf : f 0 = 0) (hf' : f' 0 = 0) (ha : Eq m n a a') (h : Eq m n f f') : Eq m n (comp a f) (comp a' f') :=
  fun i hi => comp_congr hf hf' i a a' (ha.less hi) (h.less hi)
/-! the derivative -/
end Ser
end Go.Proofs.YtfhdgcndiljjcabGreat

/- Lists of coefficients modulo m up to a degree: the steps of the algorithms on them, of the program and of the model. Plain: no program in sight. -/
namespace Go.Proofs.YtfhdgcndiljjcabGreat
namespace Ser
/-- the series with a list of coefficients -/
def co (l : List Int) : Nat → Int := fun i => l[i]?.getD 0
/-- the list of the coefficients up to a degree, modulo m -/
def cut (m : Int) (d : Nat) (a : Nat → Int) : List Int := (List.range (d + 1)).map fun n => a n % m
theorem cut_length (m : Int) (d : Nat) (a : Nat → Int) : (cut m d a).length = d + 1 := by simp [cut]
theorem co_cut {m : Int} {d : Nat} {a : Nat → Int} {i : Nat} (h : i ≤ d) : co (cut m d a) i = a i % m := by
  unfold co cut
  rw [List.getElem?_map, List.getElem?_range (by omega)]; rfl
theorem co_over {l : List Int} {i : Nat} (h : l.length ≤ i) : co l i = 0 := by
  unfold co
  rw [List.getElem?_eq_none h]; rfl
theorem co_cut_eq (m : Int) (d : Nat) (a : Nat → Int) : Eq m d (co (cut m d a)) a := by
  intro i hi; rw [co_cut hi, Int.emod_emod]
theorem cut_congr {m : Int} {d : Nat} {a b : Nat → Int} (h : Eq m d a b) : cut m d a = cut m d b := by
  unfold cut
  refine List.map_congr_left (fun i hi => h i ?_)
  have := List.mem_range.1 hi
  omega
theorem list_ext {l k : List Int} (h : l.length = k.length) (hc : ∀ i, i < l.length → co l i = co k i) : l = k := by
  refine List.ext_getElem h (fun i h1 h2 => ?_)
  have := hc i h1
  unfold co at this
  rw [List.getElem?_eq_getElem h1, List.getElem?_eq_getElem h2] at this
  exact this
/-- the numbers of l are remainders -/
def Red (m : Int) (l : List Int) : Prop := ∀ i, 0 ≤ co l i ∧ co l i < m
theorem cut_red {m : Int} (hm : 0 < m) (d : Nat) (a : Nat → Int) : Red m (cut m d a) := by
  intro i
  by_cases h : i ≤ d
  · rw [co_cut h]; exact ⟨Int.emod_nonneg _ (by omega), Int.emod_lt_of_pos _ hm⟩
  · rw [co_over (by rw [cut_length]; omega)]; omega
theorem cut_self {m : Int} {d : Nat} {l : List Int} (hl : l.length = d + 1) (h : Red m l) : cut m d (co l) = l := by
  refine list_ext (by rw [cut_length, hl]) (fun i hi => ?_)
  rw [cut_length] at hi
  rw [co_cut (by omega), Int.emod_eq_of_lt (h i).1 (h i).2]
theorem red_unique {m : Int} {d : Nat} {l k : List Int} (hl : l.length = d + 1) (hk : k.length = d + 1) (h1 : Red m l) (h2 : Red m k) (h : Eq m d (co l) (co k)) : l = k := by
  rw [← cut_self hl h1, ← cut_self hk h2]; exact cut_congr h
theorem co_set {l : List Int} {i : Nat} (h : i < l.length) (x : Int) (j : Nat) : co (l.set i x) j = if j = i then x else co l j := by
  unfold co
  rw [List.getElem?_set]
  by_cases hj : i = j
  · subst hj; simp [h]
  · rw [if_neg hj, if_neg (fun e => hj e.symm)]
theorem co_app {l k : List Int} (i : Nat) : co (l ++ k) i = if i < l.length then co l i else co k (i - l.length) := by
  unfold co
  rw [List.getElem?_append]
  split <;> rfl
theorem co_zeros (n i : Nat) : co (List.replicate n 0) i = 0 := by
  unfold co
  rw [List.getElem?_replicate]
  split <;> rfl
theorem co_nil (i : Nat) : co [] i = 0 := co_over (Nat.zero_le _)
theorem cut_take_succ (m : Int) (d : Nat) (a : Nat → Int) (k : Nat) (h : k ≤ d) : (cut m d a).take (k + 1) = (cut m d a).take k ++ [a k % m] := by
  rw [List.take_succ_eq_append_getElem (by rw [cut_length]; omega)]
  simp [cut]
theorem cut_take_all (m : Int) (d : Nat) (a : Nat → Int) : (cut m d a).take (d + 1) = cut m d a := List.take_of_length_le (by rw [cut_length]; omega)
theorem cut_zero (m : Int) (d : Nat) : cut m d (fun _ => 0) = List.replicate (d + 1) 0 := by
  refine list_ext (by rw [cut_length, List.length_replicate]) (fun i hi => ?_)
  rw [cut_length] at hi
  rw [co_cut (by omega), co_zeros, Int.zero_emod]
/-! the model's product: row by row -/
/-! the inverse, number by number -/
end Ser
end Go.Proofs.YtfhdgcndiljjcabGreat

/- Contract of seriesOf: the list of the remainders of what a function value tells. -/
namespace Go.Proofs.YtfhdgcndiljjcabGreat
open Go.RowKit Go.WideShapes Go.ChangeShapes Go.ChangeAt
theorem cut_step (m : Int) (d : Nat) (f : Nat → Int) (k : Nat) (h : k ≤ d) : ((Ser.cut m d f).take k ++ List.replicate (d + 1 - k) 0).set k (f k % m) = (Ser.cut m d f).take (k + 1) ++ List.replicate (d + 1 - (k + 1)) 0 := by
  have hl := Ser.cut_length m d f
  rw [Ser.cut_take_succ m d f k h, List.set_append_right _ _ (by simp; omega), List.length_take, hl, Nat.min_eq_left (by omega), Nat.sub_self, show d + 1 - k = (d + 1 - (k + 1)) + 1 by omega, List.replicate_succ, List.set_cons_zero, List.append_assoc]
  rfl
/-- a function with a Go body is entered, called by whatever value -/
theorem enters_fn {f : FuncId} {fn : Func} {c : Code} (h : Tryz.prog.funcs[f]? = some fn) (hn : fn.name ≠ "runtime.NumGoroutine") (hb : fn.body = some c) (args : Array Value) (W : World) :
    (callFunc f args).run Tryz.prog W = .ok (.enter f args) W := by
  simp [callFunc, h, hn, hb]
/-- block g holds a series' variable -/
def Var2 (w : World) (g : Nat) (x y : Value) : Prop := w.heap[g]? = some (.cells #[x, y] 39 (0, 0))
theorem Var2.new (w : World) (x y : Value) : Var2 (w.alloc (.cells #[x, y] 39)) w.heap.size x y := heap_alloc_new w _
theorem Var2.lt {w : World} {g : Nat} {x y : Value} (h : Var2 w g x y) : g < w.heap.size := (Array.getElem?_eq_some_iff.1 h).1
theorem Var2.keep {w w' : World} {g : Nat} {x y : Value} (h : Var2 w g x y) (hb : Below w.heap.size w w') : Var2 w' g x y := (hb.block g h.lt).trans h
theorem Var2.far {w : World} {g : Nat} {x y : Value} (h : Var2 w g x y) (b i : Nat) (u : Value) (hne : b ≠ g) : Var2 (w.setCell ⟨b, i, none⟩ u) g x y :=
  (Below.heap_setCell w ⟨b, i, none⟩ u g (fun e => hne e.symm)).trans h
theorem Var2.c0 {w : World} {g : Nat} {x y : Value} (h : Var2 w g x y) : w.cell? ⟨g, 0, none⟩ = some x := by unfold Var2 at h; simp [World.cell?, h]
theorem Var2.c1 {w : World} {g : Nat} {x y : Value} (h : Var2 w g x y) : w.cell? ⟨g, 1, none⟩ = some y := by unfold Var2 at h; simp [World.cell?, h]
theorem Var2.fz {w : World} {g : Nat} {x y : Value} (h : Var2 w g x y) (k : Nat) : w.frozen? ⟨g, k, none⟩ = false := by unfold Var2 at h; simp [World.frozen?, h]
theorem Var2.set0 {w : World} {g : Nat} {x y : Value} (h : Var2 w g x y) (u : Value) : Var2 (w.setCell ⟨g, 0, none⟩ u) g u y := by
  unfold Var2 at h ⊢; simp [World.setCell, Array.getElem?_modify, h]
theorem Var2.set1 {w : World} {g : Nat} {x y : Value} (h : Var2 w g x y) (u : Value) : Var2 (w.setCell ⟨g, 1, none⟩ u) g x u := by
  unfold Var2 at h ⊢; simp [World.setCell, Array.getElem?_modify, h]
/-- both cells stored -/
def set2 (w : World) (g : Nat) (x y : Value) : World := (w.setCell ⟨g, 0, none⟩ x).setCell ⟨g, 1, none⟩ y
theorem Var2.set2 {w : World} {g : Nat} {x y : Value} (h : Var2 w g x y) (x' y' : Value) : Var2 (set2 w g x' y') g x' y' := (h.set0 x').set1 y'
theorem below_set2 {B : Nat} {w w' : World} {g : Nat} (hb : Below B w w') (hg : B ≤ g) (x y : Value) : Below B w (set2 w' g x y) := (hb.setCell hg x).setCell hg y
theorem grown_set2 (w : World) (g : Nat) (x y : Value) : w.grownBy (set2 w g x y) (some g) := grown_trans (grown_setCell w g 0 x) (grown_setCell _ g 1 y)
/-- a result is stored into its variable: what the return reads -/
theorem fin_var {w w2 : World} {g base : Nat} {v x y : Value} {l : List Int} (hv : Var2 w2 g x y) (ho : OwnI w2 base v l) (hg : g < base) (hwg : w.heap.size ≤ g) (hb : Below w.heap.size w w2) (p q : Value) :
    ((w2.setCell ⟨g, 0, none⟩ p).setCell ⟨g, 1, none⟩ q).cell? ⟨g, 0, none⟩ = some p ∧ ((w2.setCell ⟨g, 0, none⟩ p).setCell ⟨g, 1, none⟩ q).cell? ⟨g, 1, none⟩ = some q ∧
    OwnI ((w2.setCell ⟨g, 0, none⟩ p).setCell ⟨g, 1, none⟩ q) w.heap.size v l ∧ Below w.heap.size w ((w2.setCell ⟨g, 0, none⟩ p).setCell ⟨g, 1, none⟩ q) := by
  have h := hv.set2 p q
  refine ⟨h.c0, h.c1, OwnI.more (base := base) (ho.other (grown_set2 w2 g p q) ?_) (by omega), below_set2 hb hwg p q⟩
  rcases hc : v.ownBlock with _ | b
  · exact .inl rfl
  · refine .inr (fun e => ?_)
    injection e with e
    have := (ho.lt b hc).1
    omega
set_option maxHeartbeats 2000000 in
set_option maxRecDepth 100000 in
theorem seriesOf_any (m : Int) (d fn : Nat) (cap : Array Value) (f : Nat → Int) (w : World) (h1 : 1 ≤ m) (h2 : m ≤ 10000) (hd : d ≤ 1000) (hlo : ∀ n, n ≤ d → -1000000000000 ≤ f n ∧ f n ≤ 1000000000000)
    (hen : ∀ (args : Array Value) (W : World), (callFunc fn args).run Tryz.prog W = .ok (.enter fn args) W)
    (hf : ∀ (n : Nat) (W : World), n ≤ d → Below w.heap.size w W → Calls Tryz.prog fn (#[.int .i64 n] ++ cap) W fun e w' => e = .returned (.int .i64 (f n)) ∧ Below W.heap.size W w') :
    Calls Tryz.prog 108 #[.int .i64 m, .int .i64 d, .func (.func fn) #[] cap] w fun e w' => ∃ v, e = .returned (.agg #[.int .i64 m, v]) ∧ OwnI w' w.heap.size v (Ser.cut m d f) ∧ Below w.heap.size w w' := by
  have HF := Lib.hid hf
  have HL := Lib.hid hlo
  clear hf hlo
  have hmk : ∀ W : World, (Instr.makeSlice 26 (.int .i64 ((d : Int) + 1)) (.int .i64 ((d : Int) + 1))).run Tryz.prog W = .ok (.slice (some ⟨W.heap.size, 0, none⟩) (d + 1) (d + 1)) (W.alloc (.cells (madeCells #[.int .i64 0] (d + 1)) 2)) := by
    intro W
    have := run_make_row' (P := Tryz.prog) 26 2 (.int .i64 0) 8 Tryz.underlying26 info64 rfl .i64 .i64 (d + 1) (by omega) (by omega) W
    rwa [show ((d + 1 : Nat) : Int) = (d : Int) + 1 by omega] at this
  go_enter Tryz.func108, Tryz.ntmps108
  go_wp2
  go_loopw [14] (fun i wr => ∃ k : Nat, k ≤ d + 1 ∧ i = .int .i64 k ∧ OwnI wr (w.heap.size + 1) (.slice (some ⟨w.heap.size + 1, 0, none⟩) (d + 1) (d + 1)) ((Ser.cut m d f).take k ++ List.replicate (d + 1 - k) 0) ∧ Var2 wr w.heap.size (.int .i64 0) (.slice none 0 0) ∧ Below w.heap.size w wr) (fun i _ => d + 1 - (intOf i).toNat)
  case atStart =>
    refine ⟨0, Nat.zero_le _, rfl, ?_, (Var2.new w _ _).keep (below_one _ _), below_alloc _ (below_one _ _)⟩
    have h := OwnI.made (w.alloc (.cells #[.int .i64 0, .slice none 0 0] 39)) (d + 1) (by unfold maxLen; omega)
    simpa using h
  case round =>
    clear hmk
    obtain ⟨k, hk, rfl, hown, hvar, hbel⟩ := hrel
    have HV := Lib.hid hvar
    have HB := Lib.hid hbel
    have HO := Lib.hid hown
    clear hown hbel hvar
    by_cases hlt : k < d + 1
    · obtain ⟨q1, q2⟩ := HL.out k (by omega)
      obtain ⟨F, hF⟩ : ∃ F, f k = F := ⟨_, rfl⟩
      have HC := HF.out k wr (by omega) HB.out
      rw [hF] at q1 q2 HC
      have HC' := Lib.hid HC
      have HFk := Lib.hid hF
      clear HC hF
      have hkd : (k : Int) < (d : Int) + 1 := by omega
      go_wp2_with fail
      refine HC'.out.mono ?_
      rintro e w1 ⟨rfl, hb1⟩
      have HO1 := Lib.hid (HO.out.keep hb1)
      have HV1 := Lib.hid (HV.out.keep hb1)
      obtain ⟨_, _, o3, o4⟩ := HO1.out.cells
      have hd1 := o3 k (by simp [Ser.cut_length]; omega)
      have hf1 := o4 k
      obtain ⟨y, hy⟩ : ∃ y, ((Ser.cut m d f).take k ++ List.replicate (d + 1 - k) 0)[k]?.getD 0 = y := ⟨_, rfl⟩
      rw [hy] at hd1
      have hs := HO1.out.set k (f k % m)
      rw [cut_step m d f k (by omega), HFk.out] at hs
      have HS := Lib.hid hs
      have HB1 := Lib.hid (HB.out.trans (hb1.mono HB.out.size))
      clear hy o3 o4 hs hb1
      go_wp2_with (first | (go_at_call 142; refine (remainder_any _ _ _ h1 h2 q1 q2).mono ?_; rintro e w' ⟨rfl, rfl⟩))
      go_roundw
      case rel => exact ⟨k + 1, by omega, by go_num, HS.out, HV1.out.far _ _ _ (by omega), HB1.out.setCell (by show w.heap.size ≤ w.heap.size + 1; omega) _⟩
      case measure => simp only [intOf]; omega
    · obtain rfl : k = d + 1 := by omega
      have ho := HO.out
      rw [Ser.cut_take_all, Nat.sub_self, List.replicate_zero, List.append_nil] at ho
      have HFin := Lib.hid ho
      clear ho
      have v0 := HV.out.c0
      have v1 := HV.out.c1
      have v2 := HV.out.fz 0
      have v3 := HV.out.fz 1
      obtain ⟨v4, v5⟩ : (set2 wr w.heap.size (.int .i64 m) (.slice (some ⟨w.heap.size + 1, 0, none⟩) (d + 1) (d + 1))).cell? ⟨w.heap.size, 0, none⟩ = some (.int .i64 m) ∧
        (set2 wr w.heap.size (.int .i64 m) (.slice (some ⟨w.heap.size + 1, 0, none⟩) (d + 1) (d + 1))).cell? ⟨w.heap.size, 1, none⟩ = some (.slice (some ⟨w.heap.size + 1, 0, none⟩) (d + 1) (d + 1)) := ⟨(HV.out.set2 _ _).c0, (HV.out.set2 _ _).c1⟩
      unfold set2 at v4 v5
      go_wp2
      refine bodyPost_ret (v := .agg #[.int .i64 m, .slice (some ⟨w.heap.size + 1, 0, none⟩) (d + 1) (d + 1)]) (by simp [results, Tryz.results108, go_sem, v4, v5]) rfl ⟨_, rfl, ?_, below_set2 HB.out (Nat.le_refl _) _ _⟩
      exact (HFin.out.other (grown_set2 wr w.heap.size _ _) (.inr (by simp [Value.ownBlock]))).more (by omega)
end Go.Proofs.YtfhdgcndiljjcabGreat

/- What the walks of exact laws over lists share: slices made one behind the other lie in blocks of their own. -/
namespace Go.Proofs.YtfhdgcndiljjcabGreat
open Go.RowKit Go.WideShapes Go.ChangeShapes Go.ChangeAt
theorem OwnI.ri {w : World} {base n c : Nat} {A : Option Addr} {l : List Int} (h : OwnI w base (.slice A n c) l) : RI w A l := by
  obtain ⟨A', c', e, hr⟩ := h.form
  injection e with e1 e2 e3
  rw [e1]; exact hr
/-- the blocks of two slices of the call's own differ, if the one was made behind the other -/
theorem apart {w1 w2 : World} {b1 b2 : Nat} {v u : Value} {l1 l2 : List Int} (hv : OwnI w1 b1 v l1) (hu : OwnI w2 b2 u l2) (h : w1.heap.size ≤ b2) : v.ownBlock = none ∨ v.ownBlock ≠ u.ownBlock := by
  rcases hc : v.ownBlock with _ | g
  · exact .inl rfl
  · refine .inr fun e => ?_
    have h1 := hv.lt g hc
    have h2 := hu.lt g e.symm
    omega
end Go.Proofs.YtfhdgcndiljjcabGreat

/- Contracts of the exact laws' helpers on series: size, copying, comparing, marking, looking at the marks. -/
namespace Go.Proofs.YtfhdgcndiljjcabGreat
open Go.RowKit Go.WideShapes Go.ChangeShapes Go.ChangeAt
theorem szInt64S_any (A : Option Addr) (n c : Nat) (left : Int) (w : World) (h1 : 0 ≤ left) (h2 : left ≤ 1048576) (hn : n ≤ 9223372036854775807) :
    Calls Tryz.prog 45 #[.slice A n c, .int .i64 left] w fun e w' => e = .returned (.int .i64 (if (n : Int) ≤ left then left - n else -1)) ∧ w = w' := by
  by_cases h : (n : Int) ≤ left
  · rw [if_pos h]
    go_enter Tryz.func45, Tryz.ntmps45
    go_wp2
    go_ret
    exact ⟨rfl, rfl⟩
  · rw [if_neg h]
    go_enter Tryz.func45, Tryz.ntmps45
    go_wp2
    go_ret
    exact ⟨rfl, rfl⟩
theorem Box.newT (t : TypeId) (w : World) (m : Int) (A : Option Addr) (n c : Nat) : Box (w.alloc (.cells #[.int .i64 m, .slice A n c] t)) w.heap.size m A n c := by
  refine ⟨?_, ?_, by simp⟩ <;> rw [World.cell?_alloc_at _ _ _ _ rfl] <;> rfl
theorem start1 (t : TypeId) (w : World) (m : Int) (A : Option Addr) (n c : Nat) : ∃ W, w.alloc (.cells #[.int .i64 m, .slice A n c] t) = W ∧ Box W w.heap.size m A n c ∧ Below w.heap.size w W :=
  ⟨_, rfl, Box.newT t w m A n c, below_one _ _⟩
theorem box22_call {w w' : World} {g g' : Nat} {m m' : Int} {A A' : Option Addr} {n c n' c' : Nat} (hb : Below w.heap.size w w')
    (h : (w.cell? ⟨g, 0, none⟩ = some (.int .i64 m) ∧ w.cell? ⟨g, 1, none⟩ = some (.slice A n c) ∧ g < w.heap.size) ∧ (w.cell? ⟨g', 0, none⟩ = some (.int .i64 m') ∧ w.cell? ⟨g', 1, none⟩ = some (.slice A' n' c') ∧ g' < w.heap.size)) :
    (w'.cell? ⟨g, 0, none⟩ = some (.int .i64 m) ∧ w'.cell? ⟨g, 1, none⟩ = some (.slice A n c) ∧ g < w'.heap.size) ∧ (w'.cell? ⟨g', 0, none⟩ = some (.int .i64 m') ∧ w'.cell? ⟨g', 1, none⟩ = some (.slice A' n' c') ∧ g' < w'.heap.size) :=
  ⟨box_call hb h.1, box_call hb h.2⟩
theorem below_step {w w1 w2 : World} (h : Below w.heap.size w w1) (hb : Below w1.heap.size w1 w2) : Below w.heap.size w w2 := h.trans (hb.mono h.size)
theorem grown_alloc (w : World) (o : Obj) (r : Option Nat) : w.grownBy (w.alloc o) r := ⟨rfl, rfl, rfl, by simp, fun k hk _ => (below_one w o).block k hk⟩
theorem trd {p q r : Prop} (h : p ∧ q ∧ r) : r := h.2.2
theorem reg_end {wk cur wd : World} {p q : Prop} (hs : p ∧ q ∧ Below wk.heap.size wk cur) (hb : Below cur.heap.size cur wd) : Below wk.heap.size wk wd ∧ wk.heap.size ≤ cur.heap.size :=
  ⟨below_step hs.2.2 hb, hs.2.2.size⟩
theorem var_keep {cur wd : World} {g : Nat} {x y : Value} (h : Var2 cur g x y) (hb : Below cur.heap.size cur wd) : Var2 wd g x y ∧ g < cur.heap.size := ⟨h.keep hb, h.lt⟩
theorem var_at {w : World} {g k : Nat} {x y : Value} (_h : Var2 w g x y) (hk : k ≤ g) : k ≤ g := hk
end Go.Proofs.YtfhdgcndiljjcabGreat

/- What a list of a series is; the model's looks at series. -/
namespace Go.Proofs.YtfhdgcndiljjcabGreat
open Go.RowKit Go.WideShapes Go.ChangeShapes Go.ChangeAt
/-- a list of numbers of a series: what a closure reads of it -/
theorem RI.at {w : World} {A : Option Addr} {l : List Int} (h : RI w A l) (n : Nat) (hn : n < l.length) : ∃ b off, A = some ⟨b, off, none⟩ ∧ b < w.heap.size ∧ w.cell? ⟨b, off + n, none⟩ = some (.int .i64 (Ser.co l n)) := by
  obtain ⟨b, off, e, hlt, hc⟩ := h (by rintro rfl; simp at hn)
  exact ⟨b, off, e, hlt, hc n hn⟩
theorem degree_nat (m : Int) (A : Option Addr) (n c d : Nat) (w : World) (hn : n = d + 1) (hd : d ≤ 1000) :
    Calls Tryz.prog 76 #[.agg #[.int .i64 m, .slice A n c]] w fun e w' => e = .returned (.int .i64 (d : Int)) ∧ Below w.heap.size w w' :=
  (degree_any m A n c w (by omega)).mono fun e w' ⟨h1, h2⟩ => ⟨by rw [h1, show (n : Int) - 1 = (d : Int) by omega], h2⟩
theorem spro1 (w : World) (m : Int) (A : Option Addr) (n c : Nat) : ∃ W, (w.alloc (.cells #[.int .i64 m, .slice A n c] 39)).alloc (.cells #[.int .i64 0, .slice none 0 0] 39) = W ∧
    Box W w.heap.size m A n c ∧ Var2 W (w.heap.size + 1) (.int .i64 0) (.slice none 0 0) ∧ Below w.heap.size w W := by
  refine ⟨_, rfl, (Box.new w m A n c).keep (below_one _ _), ?_, below_alloc _ (below_one _ _)⟩
  have := Var2.new (w.alloc (.cells #[.int .i64 m, .slice A n c] 39)) (.int .i64 0) (.slice none 0 0)
  simpa using this
/-- m and l are a series of degree d -/
structure SerOk (m : Int) (d : Nat) (l : List Int) : Prop where
  m1 : 2 ≤ m
  m2 : m ≤ 10000
  d1 : 1 ≤ d
  d2 : d ≤ 10
  len : l.length = d + 1
  red : Ser.Red m l
theorem SerOk.cut {m : Int} {d : Nat} {l : List Int} (h : SerOk m d l) (f : Nat → Int) : SerOk m d (Ser.cut m d f) :=
  ⟨h.m1, h.m2, h.d1, h.d2, Ser.cut_length _ _ _, Ser.cut_red (by have := h.m1; omega) _ _⟩
theorem take_cut_len (m : Int) (d : Nat) (f : Nat → Int) (k : Nat) : ((Ser.cut m d f).take k).length ≤ d + 1 := by
  rw [List.length_take, Ser.cut_length]; omega
theorem OwnI.empty (w : World) : OwnI (w.alloc (.cells #[] 2)) w.heap.size (.slice (some ⟨w.heap.size, 0, none⟩) 0 0) [] :=
  ⟨rfl, .inr ⟨w.heap.size, 0, #[], rfl, Nat.le_refl _, heap_alloc_new w _, Nat.le_refl _, Nat.zero_le _, rfl, rfl⟩⟩
end Go.Proofs.YtfhdgcndiljjcabGreat

/- Contracts of CutSeries, of the program and of the model. -/
namespace Go.Proofs.YtfhdgcndiljjcabGreat
open Go.RowKit Go.WideShapes Go.ChangeShapes Go.ChangeAt
theorem RI.take {w : World} {A : Option Addr} {l : List Int} (h : RI w A l) (n : Nat) : RI w A (l.take n) := by
  intro hl
  have hl2 : l ≠ [] := by rintro rfl; simp at hl
  obtain ⟨b, off, e, hlt, hc⟩ := h hl2
  refine ⟨b, off, e, hlt, fun k hk => ?_⟩
  rw [List.length_take] at hk
  rw [hc k (by omega), List.getElem?_take_of_lt (by omega)]
theorem OwnI.cap {w : World} {base : Nat} {A : Option Addr} {n c : Nat} {l : List Int} (h : OwnI w base (.slice A n c) l) : l.length ≤ c := by
  unfold OwnI at h
  rcases h.2 with ⟨hv, h0⟩ | ⟨g, cap, cur, hv, _, _, h1, _⟩
  · omega
  · injection hv with _ _ e
    subst e
    exact h1
theorem RI.news {w : World} {A : Option Addr} {l : List Int} (h : RI w A l) (hl : l ≠ []) : ∃ b off, A = some ⟨b, off, none⟩ ∧ ∀ j u, (l.map (Value.int .i64))[j]? = some u → w.cell? ((⟨b, off, none⟩ : Addr).add j) = some u := by
  obtain ⟨b, off, e, hlt, hc⟩ := h hl
  refine ⟨b, off, e, fun j u hj => ?_⟩
  rw [List.getElem?_map] at hj
  by_cases hjl : j < l.length
  · rw [List.getElem?_eq_getElem hjl] at hj
    simp only [Option.map_some, Option.some.injEq] at hj
    subst hj
    rw [add_plain, hc j hjl, List.getElem?_eq_getElem hjl]; rfl
  · rw [List.getElem?_eq_none (by omega)] at hj
    simp at hj
theorem cells1 (l : List Int) : ∀ v ∈ l.map (Value.int .i64), v.oneCell' = true := by
  intro v hv
  obtain ⟨x, _, rfl⟩ := List.mem_map.1 hv
  rfl
theorem OwnI.empty' (w : World) : World.ownsRow (w.alloc (.cells #[] 2)) w.heap.size 2 1 (.slice (some ⟨w.heap.size, 0, none⟩) 0 0) 0 [] := OwnI.empty w
set_option maxHeartbeats 2000000 in
theorem l01Own_any (A : Option Addr) (c : Nat) (l : List Int) (w : World) (hne : l ≠ []) (hl : l.length ≤ 1000) (hr : RI w A l) :
    Calls Tryz.prog 51 #[.slice A l.length c] w fun e w' => ∃ v, e = .returned v ∧ OwnI w' w.heap.size v l ∧ Below w.heap.size w w' := by
  obtain ⟨Z, hZ⟩ : ∃ Z, l.map (Value.int .i64) = Z := ⟨_, rfl⟩
  have hZl : Z.length = l.length := by rw [← hZ, List.length_map]
  have hZ1 : ∀ v ∈ Z, v.oneCell' = true := by rw [← hZ]; exact cells1 l
  obtain ⟨b, off, rfl, hn⟩ := (hr.below (below_one w (.cells #[] 2))).news hne
  rw [hZ] at hn
  obtain ⟨i0, hi, hz0, hz1, hz2⟩ := info_parts info64
  have HZ := Lib.hid hZ
  have HZL := Lib.hid hZl
  have HN := Lib.hid hn
  have HO := Lib.hid (OwnI.empty' w)
  clear hZ hZl hn hr
  go_enter Tryz.func51, Tryz.ntmps51
  go_wp2_with (at_builtin; refine wpList_append_own _ (by rfl) _ _ _ (by rfl) w.heap.size 2 i0 (.int .i64 0) 1 8 Tryz.underlying26 hi hz0 hz1 hz2 rfl (by decide) _ 0 [] (by rfl) HO.out _ l.length _ Z (by rfl) (by rw [HZL.out]; omega) HN.out hZ1 (by unfold maxLen; omega) (by omega) (by simp) ?_; intro v' w2 h2 h3 _)
  have HF : Hid (OwnI w2 w.heap.size v' l) := by
    refine Lib.hid ?_
    unfold OwnI
    rw [HZ.out]
    simpa using h2
  have HB := Lib.hid ((below_one w (.cells #[] 2)).grown h3 (by simp) (fun k hk => by simp [Value.ownBlock] at hk; omega))
  clear h2 h3
  go_wp2
  go_ret
  exact ⟨_, rfl, HF.out, HB.out⟩
end Go.Proofs.YtfhdgcndiljjcabGreat

/- Plain: Hazewinkel's numerators, as whole numbers and modulo m: no program in sight. -/
namespace Go.Proofs.YtfhdgcndiljjcabGreat
namespace Nmr
open Ser
theorem emod_pow (a m : Int) (k : Nat) : (a % m) ^ k % m = a ^ k % m := by
  induction k with
  | zero => rw [Int.pow_zero, Int.pow_zero]
  | succ k ih => rw [Int.pow_succ, Int.pow_succ]; exact mul_cong ih (Int.emod_emod _ _)
/-- Horner's rule: the sum of p^(n - 1 - i) f i -/
def hs (p : Int) (f : Nat → Int) : Nat → Int
  | 0 => 0
  | n + 1 => hs p f n * p + f n
theorem hs_ext {p : Int} {f g : Nat → Int} : ∀ n, (∀ i, i < n → f i = g i) → hs p f n = hs p g n
  | 0, _ => rfl
  | n + 1, h => by unfold hs; rw [hs_ext n (fun i hi => h i (by omega)), h n (by omega)]
theorem psum_mulr (f : Nat → Int) (c : Int) : ∀ n, psum (fun i => f i * c) n = psum f n * c
  | 0 => by simp [psum]
  | n + 1 => by rw [psum, psum, psum_mulr f c n, Int.add_mul]
theorem hs_psum (p : Int) (f : Nat → Int) : ∀ n, hs p f n = psum (fun i => p ^ (n - 1 - i) * f i) n
  | 0 => rfl
  | n + 1 => by
    unfold hs
    rw [hs_psum p f n, psum, ← psum_mulr]
    congr 1
    · refine psum_ext _ (fun i hi => ?_)
      rw [show n + 1 - 1 - i = (n - 1 - i) + 1 by omega, Int.pow_succ, Int.mul_assoc, Int.mul_comm (f i), ← Int.mul_assoc]
    · rw [show n + 1 - 1 - n = 0 by omega, Int.pow_zero, Int.one_mul]
/-- the numerators A(0), .., A(n) of the parameters v 0, v 1, .. -/
def numL (p : Nat) (v : Nat → Int) : Nat → List Int
  | 0 => [1]
  | n + 1 => numL p v n ++ [hs p (fun i => co (numL p v n) i * v (n - i) ^ (p ^ i)) (n + 1)]
theorem numL_length (p : Nat) (v : Nat → Int) : ∀ n, (numL p v n).length = n + 1
  | 0 => rfl
  | n + 1 => by rw [numL, List.length_append, numL_length p v n, List.length_singleton]
def num (p : Nat) (v : Nat → Int) (n : Nat) : Int := co (numL p v n) n
theorem numL_co (p : Nat) (v : Nat → Int) : ∀ n i, i ≤ n → co (numL p v n) i = num p v i
  | 0, i, h => by rw [show i = 0 by omega]; rfl
  | n + 1, i, h => by
    by_cases hi : i ≤ n
    · rw [numL, co_app, numL_length, if_pos (by omega)]; exact numL_co p v n i hi
    · rw [show i = n + 1 by omega]; rfl
theorem num_zero (p : Nat) (v : Nat → Int) : num p v 0 = 1 := rfl
theorem num_succ (p : Nat) (v : Nat → Int) (n : Nat) : num p v (n + 1) = hs p (fun i => num p v i * v (n - i) ^ (p ^ i)) (n + 1) := by
  show co (numL p v (n + 1)) (n + 1) = _
  rw [numL, co_app, numL_length, if_neg (by omega), show n + 1 - (n + 1) = 0 by omega]
  exact hs_ext _ (fun i hi => by rw [numL_co p v n i (by omega)])
/-- their remainders -/
def numR (m : Int) (p : Nat) (v : Nat → Int) (n : Nat) : List Int := (List.range n).map fun i => num p v i % m
theorem numR_length (m : Int) (p : Nat) (v : Nat → Int) (n : Nat) : (numR m p v n).length = n := by simp [numR]
theorem numR_co {m : Int} {p : Nat} {v : Nat → Int} {n i : Nat} (h : i < n) : co (numR m p v n) i = num p v i % m := by
  unfold numR co
  rw [List.getElem?_map, List.getElem?_range h]; rfl
theorem numR_succ (m : Int) (p : Nat) (v : Nat → Int) (n : Nat) : numR m p v (n + 1) = numR m p v n ++ [num p v n % m] := by
  unfold numR; rw [List.range_succ, List.map_append]; rfl
theorem num_ext {p : Nat} {v v' : Nat → Int} : ∀ n, (∀ i, i < n → v i = v' i) → ∀ i, i ≤ n → num p v i = num p v' i := by
  intro n
  induction n with
  | zero => intro _ i hi; rw [show i = 0 by omega, num_zero, num_zero]
  | succ n ih =>
    intro h i hi
    by_cases hn : i ≤ n
    · exact ih (fun j hj => h j (by omega)) i hn
    · rw [show i = n + 1 by omega, num_succ, num_succ]
      exact hs_ext _ (fun j hj => by rw [ih (fun k hk => h k (by omega)) j (by omega), h (n - j) (by omega)])
theorem hs_cong {m p : Int} {f g : Nat → Int} : ∀ n, (∀ i, i < n → f i % m = g i % m) → hs p f n % m = hs p g n % m
  | 0, _ => rfl
  | n + 1, h => by unfold hs; exact add_cong (mul_cong (hs_cong n (fun i hi => h i (by omega))) rfl) (h n (by omega))
theorem pow_cong {m a b : Int} (h : a % m = b % m) (k : Nat) : a ^ k % m = b ^ k % m := by rw [← emod_pow a, h, emod_pow]
/-- they depend on the remainders of the parameters alone -/
theorem num_cong {m : Int} {p : Nat} {v v' : Nat → Int} (h : ∀ i, v i % m = v' i % m) : ∀ n i, i ≤ n → num p v i % m = num p v' i % m := by
  intro n
  induction n with
  | zero => intro i hi; rw [show i = 0 by omega, num_zero, num_zero]
  | succ n ih =>
    intro i hi
    by_cases hn : i ≤ n
    · exact ih i hn
    · rw [show i = n + 1 by omega, num_succ, num_succ]
      exact hs_cong _ (fun j hj => mul_cong (ih j (by omega)) (pow_cong (h _) _))
/-- one step of the program's, of the model's -/
theorem hs_step (m p : Int) (f : Nat → Int) (a b : Int) (n : Nat) (h : a * b % m = f n % m) : (hs p f n % m * p % m + a * b % m) % m = hs p f (n + 1) % m := by
  show _ = (hs p f n * p + f n) % m
  exact add_cong ((Int.emod_emod _ _).trans (mul_cong (Int.emod_emod _ _) rfl)) ((Int.emod_emod _ _).trans h)
end Nmr
end Go.Proofs.YtfhdgcndiljjcabGreat

/- Plain number theory: no program in sight. Euclid with a factor; orders by the pigeonhole principle. -/
namespace Go.Proofs.YtfhdgcndiljjcabGreat
namespace Num
/-! Euclid's algorithm with a factor -/
def eg (g ng : Nat) (x nx : Int) : Nat × Int :=
  if _h : ng = 0 then (g, x) else eg ng (g % ng) nx (x - ((g / ng : Nat) : Int) * nx)
termination_by ng
decreasing_by exact Nat.mod_lt _ (by omega)
theorem eg_zero (g : Nat) (x nx : Int) : eg g 0 x nx = (g, x) := by rw [eg]; simp
theorem eg_step (g ng : Nat) (x nx : Int) (h : ng ≠ 0) : eg g ng x nx = eg ng (g % ng) nx (x - ((g / ng : Nat) : Int) * nx) := by rw [eg]; simp [h]
structure EInv (m a g ng : Nat) (x nx : Int) : Prop where
  lt : ng < g
  le : g ≤ m
  dx : (m : Int) ∣ a * x - g
  dn : (m : Int) ∣ a * nx - ng
  det : (0 ≤ x ∧ nx ≤ 0 ∧ x * ng - nx * g = m) ∨ (x ≤ 0 ∧ 0 ≤ nx ∧ nx * g - x * ng = m)
  gcd : Nat.gcd g ng = Nat.gcd m a
  sm : -(m : Int) ≤ x ∧ x ≤ m
theorem EInv.start {m a : Nat} (h : a < m) : EInv m a m a 0 1 :=
  ⟨h, Nat.le_refl _, ⟨-1, by omega⟩, ⟨0, by omega⟩, .inr ⟨by omega, by omega, by omega⟩, rfl, by omega⟩
theorem le_mul_pos {a b c : Int} (ha : 0 ≤ a) (hb : 1 ≤ b) (h : a * b ≤ c) : a ≤ c := by
  have : a * 1 ≤ a * b := Int.mul_le_mul_of_nonneg_left hb ha
  omega
theorem EInv.bn {m a g ng : Nat} {x nx : Int} (h : EInv m a g ng x nx) : -(m : Int) ≤ nx ∧ nx ≤ m := by
  have hg : 1 ≤ (g : Int) := by have := h.lt; omega
  rcases h.det with ⟨a1, a2, a3⟩ | ⟨a1, a2, a3⟩
  · have h1 : 0 ≤ x * ng := Int.mul_nonneg a1 (by omega)
    have := le_mul_pos (a := -nx) (b := g) (c := m) (by omega) hg (by rw [Int.neg_mul]; omega)
    omega
  · have h1 : 0 ≤ (-x) * ng := Int.mul_nonneg (by omega) (by omega)
    rw [Int.neg_mul] at h1
    have := le_mul_pos (a := nx) (b := g) (c := m) (by omega) hg (by omega)
    omega
theorem EInv.step {m a g ng : Nat} {x nx : Int} (h : EInv m a g ng x nx) (h0 : ng ≠ 0) : EInv m a ng (g % ng) nx (x - ((g / ng : Nat) : Int) * nx) := by
  have hd : g = ng * (g / ng) + g % ng := (Nat.div_add_mod g ng).symm
  have hdi : (g : Int) = (ng : Int) * ((g / ng : Nat) : Int) + ((g % ng : Nat) : Int) := by
    rw [← Int.natCast_mul, ← Int.natCast_add, ← hd]
  refine ⟨Nat.mod_lt _ (by omega), Nat.le_trans (Nat.le_of_lt h.lt) h.le, h.dn, ?_, ?_, ?_, h.bn⟩
  · obtain ⟨u, hu⟩ := h.dx
    obtain ⟨v, hv⟩ := h.dn
    refine ⟨u - v * ((g / ng : Nat) : Int), ?_⟩
    generalize ((g / ng : Nat) : Int) = q at *
    generalize ((g % ng : Nat) : Int) = r at *
    grind
  · have hq : 0 ≤ ((g / ng : Nat) : Int) := Int.natCast_nonneg _
    generalize ((g / ng : Nat) : Int) = q at *
    generalize ((g % ng : Nat) : Int) = r at *
    rcases h.det with ⟨a1, a2, a3⟩ | ⟨a1, a2, a3⟩
    · right
      have : q * nx ≤ 0 := Int.mul_nonpos_of_nonneg_of_nonpos hq a2
      refine ⟨a2, by omega, ?_⟩
      grind
    · left
      have : 0 ≤ q * nx := Int.mul_nonneg hq a2
      refine ⟨a2, by omega, ?_⟩
      grind
  · rw [← h.gcd]
    rw [Nat.gcd_comm g ng, Nat.gcd_comm ng (g % ng), ← Nat.gcd_rec]
/-- what the walk asks of a round: the product is small -/
theorem EInv.bq {m a g ng : Nat} {x nx : Int} (h : EInv m a g ng x nx) (h0 : ng ≠ 0) : -2 * (m : Int) ≤ ((g / ng : Nat) : Int) * nx ∧ ((g / ng : Nat) : Int) * nx ≤ 2 * m := by
  have h1 := (h.step h0).bn
  have h2 := h.sm
  omega
/-- the end -/
theorem EInv.stop {m a g : Nat} {x nx : Int} (h : EInv m a g 0 x nx) : g = Nat.gcd m a := by have := h.gcd; simpa using this
theorem eg_spec {m a : Nat} : ∀ (ng g : Nat) (x nx : Int), EInv m a g ng x nx → (eg g ng x nx).1 = Nat.gcd m a ∧ (m : Int) ∣ a * (eg g ng x nx).2 - (eg g ng x nx).1 := by
  intro ng
  induction ng using Nat.strongRecOn with
  | ind ng ih =>
    intro g x nx h
    by_cases h0 : ng = 0
    · subst h0; rw [eg_zero]; exact ⟨h.stop, h.dx⟩
    · rw [eg_step _ _ _ _ h0]
      exact ih _ (Nat.mod_lt _ (by omega)) _ _ _ (h.step h0)
/-! Orders -/
/-- the powers of a modulo m -/
def pwr (m a k : Nat) : Nat := a ^ k % m
/-! Powers by squaring -/
theorem pw_odd (m o s k : Nat) (h : k % 2 = 1) : (o * s % m) * (s * s % m) ^ (k / 2) % m = o * s ^ k % m := by
  have hk : k = 2 * (k / 2) + 1 := by omega
  have e : s ^ k = s * (s * s) ^ (k / 2) := by
    conv => lhs; rw [hk]
    rw [Nat.pow_succ, Nat.pow_mul, Nat.pow_two, Nat.mul_comm]
  rw [e, ← Nat.mul_assoc, Nat.mul_mod (o * s), Nat.pow_mod (s * s), Nat.mul_mod (o * s % m), Nat.mod_mod]
theorem pw_even (m o s k : Nat) (h : k % 2 = 0) : o * (s * s % m) ^ (k / 2) % m = o * s ^ k % m := by
  have hk : k = 2 * (k / 2) := by omega
  have e : s ^ k = (s * s) ^ (k / 2) := by
    conv => lhs; rw [hk]
    rw [Nat.pow_mul, Nat.pow_two]
  rw [e, Nat.mul_mod o ((s * s) ^ _), Nat.pow_mod (s * s), Nat.mul_mod o]
end Num
end Go.Proofs.YtfhdgcndiljjcabGreat

/- Remainders and powers by great moduli, of the program and of the model. -/
namespace Go.Proofs.YtfhdgcndiljjcabGreat
open Go.RowKit Go.WideShapes Go.ChangeShapes Go.ChangeAt
theorem remB_any (m n : Int) (w : World) (h1 : 1 ≤ m) (h2 : m ≤ 100000000) (h3 : -4000000000000000000 ≤ n) (h4 : n ≤ 4000000000000000000) :
    Calls Tryz.prog 142 #[.int .i64 m, .int .i64 n] w fun e w' => e = .returned (.int .i64 (n % m)) ∧ w = w' := by
  by_cases hn : 0 ≤ n
  · have h5 := Int.emod_nonneg n (show m ≠ 0 by omega)
    have h6 := Int.emod_lt_of_pos n (show 0 < m by omega)
    go_enter Tryz.func142, Tryz.ntmps142
    go_wp2
    go_ret
    exact ⟨rfl, rfl⟩
  · obtain ⟨r, a1, a2, a3, a4, a5⟩ := rem_neg m n (by omega) (by omega)
    have H4 := Lib.hid a4
    clear a4 a5
    by_cases hr : r = 0
    · subst hr
      go_enter Tryz.func142, Tryz.ntmps142
      go_wp2
      go_ret
      exact ⟨ret_int (by rw [H4.out]; simp), rfl⟩
    · have hr' : 0 < r := by omega
      clear hr
      go_enter Tryz.func142, Tryz.ntmps142
      go_wp2
      go_ret
      exact ⟨ret_int (by rw [H4.out, if_neg (by omega)]; omega), rfl⟩
theorem l01ModB_any (m n : Int) (w : World) (h1 : 1 ≤ m) (h2 : m ≤ 100000000) (h3 : -4000000000000000000 ≤ n) (h4 : n ≤ 4000000000000000000) :
    Calls Tryz.prog 85 #[.int .i64 m, .int .i64 n] w fun e w' => e = .returned (.int .i64 (n % m)) ∧ w = w' := by
  by_cases hn : 0 ≤ n
  · have h5 := Int.emod_nonneg n (show m ≠ 0 by omega)
    have h6 := Int.emod_lt_of_pos n (show 0 < m by omega)
    have H7 := Lib.hid (show (n % m + m) % m = n % m by rw [Int.add_emod_right, Int.emod_emod])
    go_enter Tryz.func85, Tryz.ntmps85
    go_wp2
    go_ret
    exact ⟨ret_int H7.out, rfl⟩
  · obtain ⟨r, a1, a2, a3, a4, a5⟩ := rem_neg m n (by omega) (by omega)
    have H5 := Lib.hid a5
    clear a4 a5
    go_enter Tryz.func85, Tryz.ntmps85
    go_wp2
    go_ret
    exact ⟨ret_int H5.out, rfl⟩
theorem mulGr {x y m : Int} (h1 : 0 ≤ x) (h2 : x < m) (h3 : 0 ≤ y) (h4 : y < m) (hm : m ≤ 100000000) : 0 ≤ x * y ∧ x * y ≤ 10000000000000000 := by
  refine ⟨Int.mul_nonneg h1 h3, ?_⟩
  have a := Int.mul_le_mul (show x ≤ 100000000 by omega) (show y ≤ 100000000 by omega) h3 (by omega)
  omega
theorem mulGr_nat {a b m : Nat} (h1 : a < m) (h2 : b < m) (hm : m ≤ 100000000) : 0 ≤ (a : Int) * (b : Int) ∧ (a : Int) * (b : Int) ≤ 10000000000000000 :=
  mulGr (m := (m : Int)) (by omega) (by omega) (by omega) (by omega) (by omega)
theorem modB_cast (a b m : Nat) : (a : Int) * (b : Int) % (m : Int) = ((a * b % m : Nat) : Int) := by
  rw [Int.natCast_emod, Int.natCast_mul]
theorem pwr_pow (M A K : Nat) : ((Num.pwr M (A % M) K : Nat) : Int) = (A : Int) ^ K % (M : Int) := by
  unfold Num.pwr
  rw [Int.natCast_emod, Int.natCast_pow, Int.natCast_emod, Nmr.emod_pow]
set_option maxHeartbeats 1000000 in
theorem l01PowB_any (m a : Int) (k : Nat) (w : World) (h0 : 0 ≤ a) (h1 : a ≤ 100000000) (h2 : 2 ≤ m) (h3 : m ≤ 100000000) (h5 : k ≤ 1000000000000) :
    Calls Tryz.prog 121 #[.int .i64 m, .int .i64 a, .int .i64 k] w fun e w' => e = .returned (.int .i64 (a ^ k % m)) ∧ w = w' := by
  obtain ⟨A0, rfl⟩ := Int.eq_ofNat_of_zero_le h0
  obtain ⟨M, rfl⟩ := Int.eq_ofNat_of_zero_le (show 0 ≤ m by omega)
  have HP := Lib.hid (pwr_pow M A0 k)
  obtain ⟨A, hA⟩ : ∃ A, A0 % M = A := ⟨_, rfl⟩
  have hAM : A < M := by rw [← hA]; exact Nat.mod_lt _ (by omega)
  rw [hA] at HP
  have HA := Lib.hid (show (A0 : Int) % (M : Int) = (A : Int) by rw [← hA]; exact (Int.natCast_emod _ _).symm)
  clear hA
  have h11 : (1 : Int) % M = 1 := Int.emod_eq_of_lt (by omega) (by omega)
  go_enter Tryz.func121, Tryz.ntmps121
  go_wp2_with (go_at_call 85; refine (l01ModB_any _ _ _ (by omega) (by omega) (by omega) (by omega)).mono ?_; rintro e w' ⟨rfl, rfl⟩; rw [HA.out])
  go_loop [7, 1, 2] (fun out s k' => ∃ (O S J : Nat), out = .int .i64 O ∧ s = .int .i64 S ∧ k' = .int .i64 J ∧ O < M ∧ S < M ∧ J ≤ k ∧ O * S ^ J % M = Num.pwr M A k) (fun _ _ k => (intOf k).toNat)
  case atStart => exact ⟨1, A, k, rfl, rfl, rfl, by omega, by omega, Nat.le_refl _, by rw [Nat.one_mul]; rfl⟩
  case round =>
    obtain ⟨O, S, J, rfl, rfl, rfl, hO, hS, hJ, heq⟩ := hrel
    have HE := Lib.hid heq
    clear heq
    by_cases hJ0 : J = 0
    · subst hJ0
      go_wp2
      go_ret
      exact ⟨ret_int (by rw [← HP.out, ← HE.out, Nat.pow_zero, Nat.mul_one, Nat.mod_eq_of_lt hO]), rfl⟩
    · have hpos : 0 < J := by omega
      clear hJ0
      obtain ⟨p1, p2⟩ := mulGr_nat hS hS (show M ≤ 100000000 by omega)
      have hSS : S * S % M < M := Nat.mod_lt _ (by omega)
      by_cases hodd : J % 2 = 1
      · obtain ⟨p3, p4⟩ := mulGr_nat hO hS (show M ≤ 100000000 by omega)
        have hOS : O * S % M < M := Nat.mod_lt _ (by omega)
        have HP := Lib.hid (Num.pw_odd M O S J hodd)
        have hod : (J : Int) % 2 = 1 := by omega
        clear hodd
        go_wp2
        go_round
        case rel => exact ⟨O * S % M, S * S % M, J / 2, by rw [modB_cast], by rw [modB_cast], by go_num, hOS, hSS, by omega, HP.out.trans HE.out⟩
        case measure => simp only [intOf]; omega
      · have HP := Lib.hid (Num.pw_even M O S J (by omega))
        have hod : (J : Int) % 2 = 0 := by omega
        clear hodd
        go_wp2
        go_round
        case rel => exact ⟨O, S * S % M, J / 2, rfl, by rw [modB_cast], by go_num, hO, hSS, by omega, HP.out.trans HE.out⟩
        case measure => simp only [intOf]; omega
end Go.Proofs.YtfhdgcndiljjcabGreat

/- Contracts of neededCount and neededOf. -/
namespace Go.Proofs.YtfhdgcndiljjcabGreat
open Go.RowKit Go.WideShapes Go.ChangeShapes Go.ChangeAt
/-- the number of k from 1 on with p^k at most d, for p at least 2 and d at most 10 -/
def needN (p d : Nat) : Nat := ((List.range 4).filter fun j => p ^ (j + 1) ≤ d).length
theorem needN_le3 : ∀ p ∈ [2, 3, 5, 7], ∀ d ∈ List.range 11, needN p d ≤ 3 := by decide
theorem needN_is : ∀ p ∈ [2, 3, 5, 7], ∀ d ∈ List.range 11, ∀ k ∈ List.range 5, (k = 0 ∨ p ^ k ≤ d) → d < p ^ (k + 1) → needN p d = k := by decide
theorem needN_at : ∀ p ∈ [2, 3, 5, 7], ∀ d ∈ List.range 11, ∀ k ∈ List.range 5, (1 ≤ k ∧ k ≤ needN p d ↔ 1 ≤ k ∧ p ^ k ≤ d) := by decide
theorem in4 {p : Nat} (h : p = 2 ∨ p = 3 ∨ p = 5 ∨ p = 7) : p ∈ [2, 3, 5, 7] := by simp; exact h
theorem pow_lt11 {p : Nat} (h : p = 2 ∨ p = 3 ∨ p = 5 ∨ p = 7) {k d : Nat} (hd : d ≤ 10) (hk : p ^ k ≤ d) : k ≤ 3 := by
  apply Classical.byContradiction
  intro hn
  have h1 : 2 ^ 4 ≤ p ^ 4 := Nat.pow_le_pow_left (by omega) 4
  have h2 : p ^ 4 ≤ p ^ k := Nat.pow_le_pow_right (by omega) (by omega)
  omega
set_option maxHeartbeats 1000000 in
theorem neededCount_any (p d : Nat) (w : World) (hp : p = 2 ∨ p = 3 ∨ p = 5 ∨ p = 7) (hd : d ≤ 10) :
    Calls Tryz.prog 171 #[.int .i64 p, .int .i64 d] w fun e w' => e = .returned (.int .i64 (needN p d)) ∧ w = w' := by
  have HL := Lib.hid (fun k (h : p ^ k ≤ d) => pow_lt11 hp hd h)
  have HE := Lib.hid (fun k (hk : k ≤ 3) (h1 : k = 0 ∨ p ^ k ≤ d) (h2 : d < p ^ (k + 1)) => needN_is p (in4 hp) d (List.mem_range.2 (by omega)) k (List.mem_range.2 (by omega)) h1 h2)
  have hp7 : p ≤ 7 := by omega
  clear hp
  go_enter Tryz.func171, Tryz.ntmps171
  go_wp2
  go_loop [5, 6] (fun s5 s6 => ∃ k : Nat, k ≤ 3 ∧ (k = 0 ∨ p ^ k ≤ d) ∧ s5 = .int .i64 k ∧ s6 = .int .i64 (p ^ (k + 1) : Nat)) (fun s5 _ => 4 - (intOf s5).toNat)
  case atStart => exact ⟨0, by omega, .inl rfl, rfl, by rw [Nat.zero_add, Nat.pow_one]⟩
  case round =>
    obtain ⟨k, hk, hk2, rfl, rfl⟩ := hrel
    have HK := Lib.hid hk2
    obtain ⟨q, hq⟩ : ∃ q, p ^ (k + 1) = q := ⟨_, rfl⟩
    have HQ := Lib.hid hq
    rw [hq]
    clear hq hk2
    by_cases hlt : q ≤ d
    · have i1 : (q : Int) ≤ (d : Int) := by omega
      have h3 := HL.out (k + 1) (by rw [HQ.out]; exact hlt)
      have hm : 0 ≤ (q : Int) * (p : Int) ∧ (q : Int) * (p : Int) ≤ 70 := by
        refine ⟨Int.mul_nonneg (by omega) (by omega), ?_⟩
        have := Int.mul_le_mul (show (q : Int) ≤ 10 by omega) (show (p : Int) ≤ 7 by omega) (by omega) (by omega)
        omega
      have HM := Lib.hid (show (q : Int) * (p : Int) = ((p ^ (k + 1 + 1) : Nat) : Int) by rw [Nat.pow_succ, HQ.out, Int.natCast_mul])
      go_wp2
      go_round
      case rel => exact ⟨k + 1, by omega, .inr (by rw [HQ.out]; exact hlt), by go_num, by rw [HM.out]⟩
      case measure => simp only [intOf]; omega
    · have i1 : ¬ (q : Int) ≤ (d : Int) := by omega
      have HN := Lib.hid (HE.out k hk HK.out (by rw [HQ.out]; omega))
      go_wp2
      go_ret
      exact ⟨ret_int (by rw [HN.out]), rfl⟩
/-- the first c numbers of a list; missing ones are 0 -/
def ndL (c : Nat) (l : List Int) : List Int := (List.range c).map (Ser.co l)
theorem ndL_length (c : Nat) (l : List Int) : (ndL c l).length = c := by simp [ndL]
theorem ndL_co (c : Nat) (l : List Int) (i : Nat) : Ser.co (ndL c l) i = if i < c then Ser.co l i else 0 := by
  by_cases h : i < c
  · rw [if_pos h]
    unfold ndL
    show ((List.range c).map (Ser.co l))[i]?.getD 0 = _
    rw [List.getElem?_map, List.getElem?_range h]; rfl
  · rw [if_neg h, Ser.co_over (by rw [ndL_length]; omega)]
theorem ndL_splice (c : Nat) (l : List Int) : splice (List.replicate c (Value.int .i64 0)) 0 ((l.take c).map (Value.int .i64)) = (ndL c l).map (Value.int .i64) := by
  unfold splice
  rw [List.take_zero, List.nil_append, Nat.zero_add]
  apply List.ext_getElem?
  intro i
  unfold ndL
  rw [List.map_map, List.getElem?_map, List.getElem?_append, List.length_map, List.length_take]
  by_cases h1 : i < min c l.length
  · rw [if_pos h1, List.getElem?_map, List.getElem?_take_of_lt (by omega), List.getElem?_eq_getElem (by omega), List.getElem?_range (by omega)]
    show some (Value.int .i64 l[i]) = some (Value.int .i64 (Ser.co l i))
    unfold Ser.co
    rw [List.getElem?_eq_getElem (by omega)]; rfl
  · rw [if_neg h1, List.getElem?_drop, List.getElem?_replicate]
    by_cases h2 : i < c
    · rw [if_pos (by omega), List.getElem?_range h2]
      show some (Value.int .i64 0) = some (Value.int .i64 (Ser.co l i))
      rw [Ser.co_over (by omega)]
    · rw [if_neg (by omega), List.getElem?_eq_none (by simp; omega)]; rfl
set_option maxHeartbeats 2000000 in
theorem neededOf_any (p d : Nat) (A : Option Addr) (c : Nat) (l : List Int) (w : World) (hp : p = 2 ∨ p = 3 ∨ p = 5 ∨ p = 7) (hd : d ≤ 10) (hr : RI w A l) :
    Calls Tryz.prog 159 #[.int .i64 p, .int .i64 d, .slice A l.length c] w fun e w' => ∃ v, e = .returned v ∧ OwnI w' w.heap.size v (ndL (needN p d) l) ∧ Below w.heap.size w w' := by
  have HC := Lib.hid (neededCount_any p d w hp hd)
  obtain ⟨N, hN⟩ : ∃ N, needN p d = N := ⟨_, rfl⟩
  have hN3 : N ≤ 3 := by rw [← hN]; exact needN_le3 p (in4 hp) d (List.mem_range.2 (by omega))
  rw [hN] at HC ⊢
  have hmk := fun W => run_make_row' (P := Tryz.prog) 26 2 (.int .i64 0) 8 Tryz.underlying26 info64 rfl .i64 .i64 N (by omega) (by omega) W
  obtain ⟨Z, hZ⟩ : ∃ Z, (l.take N).map (Value.int .i64) = Z := ⟨_, rfl⟩
  have hZl : Z.length = min N l.length := by rw [← hZ, List.length_map, List.length_take]
  have hZ1 : ∀ v ∈ Z, v.oneCell' = true := by rw [← hZ]; exact cells1 _
  have hn : 0 < Z.length → ∃ ad, A = some ad ∧ ∀ j v, Z[j]? = some v → (w.alloc (.cells (madeCells #[.int .i64 0] N) 2)).cell? (ad.add j) = some v := by
    intro h0
    have hne : l.take N ≠ [] := by
      intro e
      rw [e] at hZ
      rw [← hZ] at h0
      simp at h0
    obtain ⟨b, off, e, hc⟩ := ((hr.below (below_one w (.cells (madeCells #[.int .i64 0] N) 2))).take N).news hne
    rw [hZ] at hc
    exact ⟨_, e, hc⟩
  have hcur : (w.alloc (.cells (madeCells #[.int .i64 0] N) 2)).heap[w.heap.size]? = some (.cells (List.replicate N (Value.int .i64 0)).toArray 2 (0, 0)) := by
    rw [heap_alloc_new]
    congr 2
    apply Array.ext'
    rw [toList_madeCells_one]
  have hsp : splice (List.replicate N (Value.int .i64 0)) 0 Z = (ndL N l).map (Value.int .i64) := by rw [← hZ]; exact ndL_splice N l
  have HZL := Lib.hid hZl
  have HSP := Lib.hid hsp
  have HN := Lib.hid hn
  have HCU := Lib.hid hcur
  clear hZ hZl hsp hn hcur hr hN hp
  go_enter Tryz.func159, Tryz.ntmps159
  go_wp2_with (first
    | (go_at_call 171; refine HC.out.mono ?_; rintro e w' ⟨rfl, rfl⟩)
    | (refine wpList_copy_splice (by rfl) _ _ _ _ (by rfl) 2 Tryz.underlying26 (by kernel_rfl) _ _ _ _ _ _ (by rfl) (by rfl) w.heap.size 0 _ 2 HCU.out Z (by rw [HZL.out]; exact Nat.min_comm _ _) (fun h => ⟨rfl, HN.out h⟩) (by rw [HZL.out]; simp; omega) hZ1 w.heap.size w (below_one _ _) (Nat.le_refl _) ?_; intro w2 HG2 hB2))
  have hg2 := HG2.out
  rw [HSP.out] at hg2
  have HF : Hid (OwnI w2 w.heap.size (.slice (some ⟨w.heap.size, 0, none⟩) N N) (ndL N l)) := by
    refine Lib.hid ⟨by rw [List.length_map, Nat.mul_one], .inr ⟨w.heap.size, N, ((ndL N l).map (Value.int .i64)).toArray, by rw [ndL_length], Nat.le_refl _, hg2, by rw [ndL_length]; exact Nat.le_refl _, by unfold maxLen; omega, by rw [List.size_toArray, List.length_map, ndL_length]; omega, ?_⟩⟩
    simp [ndL_length]
    exact List.take_of_length_le (by simp [ndL_length])
  have HB := Lib.hid hB2
  clear hg2 HG2 hB2
  go_wp2
  go_ret
  exact ⟨_, rfl, HF.out, HB.out⟩
end Go.Proofs.YtfhdgcndiljjcabGreat

/- Contract of stretch. -/
namespace Go.Proofs.YtfhdgcndiljjcabGreat
open Go.RowKit Go.WideShapes Go.ChangeShapes Go.ChangeAt
/-- the whole power of p that the degree n is stretched by -/
def strN (p n : Nat) : Nat := p ^ ((n - 1) / (p - 1))
theorem strN_is : ∀ p ∈ [2, 3, 5, 7], ∀ n ∈ List.range 11, ∀ k ∈ List.range 10, (k = 0 ∨ k * (p - 1) + 1 ≤ n) → n < (k + 1) * (p - 1) + 1 → strN p n = p ^ k := by decide
theorem strN_pow : ∀ p ∈ [2, 3, 5, 7], ∀ n ∈ List.range 11, ∀ k ∈ List.range 10, (k = 0 ∨ k * (p - 1) + 1 ≤ n) → p ^ k ≤ 512 := by decide
theorem strN_bd : ∀ p ∈ [2, 3, 5, 7], ∀ n ∈ List.range 11, 1 ≤ strN p n ∧ strN p n ≤ 512 := by decide
theorem strN_k {p : Nat} (h : p = 2 ∨ p = 3 ∨ p = 5 ∨ p = 7) {k n : Nat} (hn : n ≤ 10) (hk : k * (p - 1) + 1 ≤ n) : k ≤ 9 := by
  have : k * 1 ≤ k * (p - 1) := Nat.mul_le_mul_left k (by omega)
  omega
set_option maxHeartbeats 1000000 in
theorem stretch_any (p n : Nat) (w : World) (hp : p = 2 ∨ p = 3 ∨ p = 5 ∨ p = 7) (hn : n ≤ 10) :
    Calls Tryz.prog 132 #[.int .i64 p, .int .i64 n] w fun e w' => e = .returned (.int .i64 (strN p n)) ∧ w = w' := by
  have HL := Lib.hid (fun k (h : k * (p - 1) + 1 ≤ n) => strN_k hp hn h)
  have HE := Lib.hid (fun k (hk : k ≤ 9) => strN_is p (in4 hp) n (List.mem_range.2 (by omega)) k (List.mem_range.2 (by omega)))
  have HB := Lib.hid (fun k (hk : k ≤ 9) => strN_pow p (in4 hp) n (List.mem_range.2 (by omega)) k (List.mem_range.2 (by omega)))
  have hp7 : p ≤ 7 := by omega
  have hp2 : 2 ≤ p := by omega
  clear hp
  obtain ⟨r, hr⟩ : ∃ r, p - 1 = r := ⟨_, rfl⟩
  rw [hr] at HL HE HB
  go_enter Tryz.func132, Tryz.ntmps132
  go_wp2
  go_loop [5, 6] (fun s3 s4 => ∃ k : Nat, k ≤ 9 ∧ (k = 0 ∨ k * r + 1 ≤ n) ∧ s3 = .int .i64 (p ^ k : Nat) ∧ s4 = .int .i64 ((n : Int) - 1 - ((k * r : Nat) : Int))) (fun _ s4 => (intOf s4 + 1).toNat)
  case atStart => exact ⟨0, by omega, .inl rfl, rfl, by rw [Nat.zero_mul]; go_num⟩
  case round =>
    obtain ⟨k, hk, hk2, rfl, rfl⟩ := hrel
    have HK := Lib.hid hk2
    have hb := HB.out k hk hk2
    obtain ⟨q, hq⟩ : ∃ q, p ^ k = q := ⟨_, rfl⟩
    have HQ := Lib.hid hq
    obtain ⟨t, ht⟩ : ∃ t, k * r = t := ⟨_, rfl⟩
    have HT := Lib.hid ht
    rw [hq] at hb ⊢
    rw [ht] at hk2 ⊢
    clear hq ht
    by_cases hlt : r + t + 1 ≤ n
    · have i1 : (n : Int) - 1 - (t : Int) ≥ (p : Int) - 1 := by omega
      have h1 : (k + 1) * r = t + r := by rw [Nat.succ_mul, HT.out]
      have h3 := HL.out (k + 1) (by rw [h1]; omega)
      have hm : 0 ≤ (q : Int) * (p : Int) ∧ (q : Int) * (p : Int) ≤ 4000 := by
        refine ⟨Int.mul_nonneg (by omega) (by omega), ?_⟩
        have := Int.mul_le_mul (show (q : Int) ≤ 512 by omega) (show (p : Int) ≤ 7 by omega) (by omega) (by omega)
        omega
      have HM := Lib.hid (show (q : Int) * (p : Int) = ((p ^ (k + 1) : Nat) : Int) by rw [Nat.pow_succ, HQ.out, Int.natCast_mul])
      have H1 := Lib.hid h1
      clear h1
      go_wp2
      go_round
      case rel => exact ⟨k + 1, by omega, .inr (by rw [H1.out]; omega), by rw [HM.out], by rw [H1.out]; go_num⟩
      case measure => simp only [intOf]; omega
    · have i1 : ¬ (n : Int) - 1 - (t : Int) ≥ (p : Int) - 1 := by omega
      have HN := Lib.hid (HE.out k hk HK.out (by rw [Nat.succ_mul, HT.out]; omega))
      go_wp2
      go_ret
      exact ⟨ret_int (by rw [HN.out, HQ.out]), rfl⟩
end Go.Proofs.YtfhdgcndiljjcabGreat

/- Lists of lists of integers that a call has made itself: appending a row, comparing, marking. -/
namespace Go.Proofs.YtfhdgcndiljjcabGreat
open Go.RowKit Go.WideShapes Go.ChangeShapes Go.ChangeAt
theorem infoRow : (Tryz.prog.info? 26).map (fun i => (i.zero, i.size, i.bytes)) = some (some (.slice none 0 0), 1, 24) := by kernel_rfl
/-- v is a slice of slices of the call's own, all in blocks from lo on and below hi, no two in one block, that holds the rows -/
def OwnR (w : World) (lo hi : Nat) (v : Value) (rows : List (List Int)) : Prop :=
  ∃ vs : List Value, w.ownsRow lo 26 1 v rows.length vs ∧ (∀ g, v.ownBlock = some g → g < hi) ∧
    (∀ (i : Nat) (r : List Int), rows[i]? = some r → ∃ u : Value, vs[i]? = some u ∧ OwnI w lo u r ∧ ∀ g, u.ownBlock = some g → g < hi) ∧
    (∀ (i j : Nat) (u u' : Value), i < j → vs[i]? = some u → vs[j]? = some u' → u.ownBlock = none ∨ u.ownBlock ≠ u'.ownBlock)
theorem OwnR.nil (w : World) (lo hi : Nat) : OwnR w lo hi (.slice none 0 0) [] :=
  ⟨[], World.ownsRow_nil _ _ _ _, fun g hg => by simp [Value.ownBlock] at hg, fun i r h => by simp at h, fun i j u u' _ h => by simp at h⟩
theorem OwnR.none0 (w : World) : OwnR (w.alloc (.cells #[] 26)) w.heap.size (w.heap.size + 1) (.slice (some ⟨w.heap.size, 0, none⟩) 0 0) [] :=
  ⟨[], ⟨rfl, .inr ⟨w.heap.size, 0, #[], rfl, Nat.le_refl _, heap_alloc_new w _, Nat.le_refl _, Nat.zero_le _, rfl, rfl⟩⟩,
    fun g hg => by simp [Value.ownBlock] at hg; omega, fun i r h => by simp at h, fun i j u u' _ h => by simp at h⟩
theorem OwnR.keep {w w' : World} {lo hi : Nat} {v : Value} {rows : List (List Int)} (h : OwnR w lo hi v rows) (hb : Below hi w w') : OwnR w' lo hi v rows := by
  obtain ⟨vs, h1, h2, h3, h4⟩ := h
  refine ⟨vs, ⟨h1.1, ?_⟩, h2, fun i r hr => ?_, h4⟩
  · rcases h1.2 with hn | ⟨g, cap, cur, rfl, hg, hh, rest⟩
    · exact .inl hn
    · exact .inr ⟨g, cap, cur, rfl, hg, (hb.block g (h2 g rfl)).trans hh, rest⟩
  · obtain ⟨u, a, b, c⟩ := h3 i r hr
    exact ⟨u, a, b.below hb c, c⟩
theorem OwnR.more {w : World} {lo hi hi' : Nat} {v : Value} {rows : List (List Int)} (h : OwnR w lo hi v rows) (hh : hi ≤ hi') : OwnR w lo hi' v rows := by
  obtain ⟨vs, h1, h2, h3, h4⟩ := h
  exact ⟨vs, h1, fun g hg => Nat.lt_of_lt_of_le (h2 g hg) hh, fun i r hr => by
    obtain ⟨u, a, b, c⟩ := h3 i r hr
    exact ⟨u, a, b, fun g hg => Nat.lt_of_lt_of_le (c g hg) hh⟩, h4⟩
theorem ne_types {w : World} {lo lo' n : Nat} {v u : Value} {vs : List Value} {l : List Int} (hv : w.ownsRow lo 26 1 v n vs) (hu : OwnI w lo' u l) : u.ownBlock = none ∨ u.ownBlock ≠ v.ownBlock := by
  unfold OwnI at hu
  rcases hu.2 with ⟨rfl, _⟩ | ⟨g, cap, cur, rfl, _, hg, _⟩
  · exact .inl rfl
  · rcases hv.2 with ⟨rfl, _⟩ | ⟨g', cap', cur', rfl, _, hg', _⟩
    · exact .inr (by simp [Value.ownBlock])
    · refine .inr fun e => ?_
      obtain rfl : g = g' := by simpa [Value.ownBlock] using e
      rw [hg] at hg'
      injection hg' with e1
      injection e1 with _ e2
      exact absurd e2 (by decide)
/-- reading a row -/
theorem OwnR.read {w : World} {lo hi : Nat} {v : Value} {rows : List (List Int)} (h : OwnR w lo hi v rows) :
    ∃ A c, v = .slice A rows.length c ∧ (rows ≠ [] → ∃ g, A = some ⟨g, 0, none⟩ ∧ g < w.heap.size ∧ g < hi ∧ lo ≤ g ∧ ∀ i, i < rows.length → ∃ A' c', w.cell? ⟨g, i, none⟩ = some (.slice A' (rows[i]?.getD []).length c') ∧ OwnI w lo (.slice A' (rows[i]?.getD []).length c') (rows[i]?.getD []) ∧ (∀ b, (Value.slice A' (rows[i]?.getD []).length c').ownBlock = some b → b < hi)) := by
  obtain ⟨vs, h1, h2, h3, h4⟩ := h
  rcases h1.2 with ⟨rfl, h0⟩ | ⟨g, cap, cur, rfl, hg, hh, rest⟩
  · obtain rfl : rows = [] := List.eq_nil_of_length_eq_zero h0
    exact ⟨none, 0, rfl, fun h => absurd rfl h⟩
  · refine ⟨_, _, rfl, fun _ => ⟨g, rfl, (Array.getElem?_eq_some_iff.1 hh).1, h2 g rfl, hg, fun i hi => ?_⟩⟩
    have hr : rows[i]? = some (rows[i]?.getD []) := by rw [List.getElem?_eq_getElem hi]; rfl
    obtain ⟨u, a1, a2, a3⟩ := h3 i _ hr
    have hc := World.ownsRow.cells h1 (g := g) rfl i u a1
    rw [add_plain, Nat.zero_add] at hc
    obtain ⟨A', c', rfl, _⟩ := a2.form
    exact ⟨A', c', hc, a2, a3⟩
end Go.Proofs.YtfhdgcndiljjcabGreat

/- Contracts of the exact laws' helpers on lists of lists of integers. -/
namespace Go.Proofs.YtfhdgcndiljjcabGreat
open Go.RowKit Go.WideShapes Go.ChangeShapes Go.ChangeAt
set_option maxHeartbeats 1000000 in
theorem eqInt64S_q (A B : Option Addr) (c d : Nat) (l : List Int) (w : World) (hl : l.length ≤ 10485760) (ha : RI w A l) (hb : RI w B l) :
    Calls Tryz.prog 11 #[.slice A l.length c, .slice B l.length d] w fun e w' => e = .returned (.bool true) ∧ ∃ n, w' = w.drewN n := by
  go_enter Tryz.func11, Tryz.ntmps11
  go_wp2
  go_loopw [5] (fun i wr => ∃ j n : Nat, j ≤ l.length ∧ i = .int .i64 j ∧ wr = w.drewN n) (fun i _ => l.length - (intOf i).toNat)
  case atStart => exact ⟨0, 0, Nat.zero_le _, rfl, rfl⟩
  case round =>
    obtain ⟨j, n, hj, rfl, hw⟩ := hrel
    have HW := Lib.hid hw
    have hcell : ∀ p : Addr, wr.cell? p = w.cell? p := by intro p; rw [hw]; rfl
    clear hw
    by_cases hlt : j < l.length
    · obtain ⟨b, off, rfl, hb1, hc1⟩ := ha (by rintro rfl; simp at hlt)
      obtain ⟨b', off', rfl, hb2, hc2⟩ := hb (by rintro rfl; simp at hlt)
      have h1 := (hcell ⟨b, off + j, none⟩).trans (hc1 j hlt)
      have h2 := (hcell ⟨b', off' + j, none⟩).trans (hc2 j hlt)
      obtain ⟨x, hx⟩ : ∃ x, l[j]?.getD 0 = x := ⟨_, rfl⟩
      rw [hx] at h1 h2
      have j1 : (0 : Int) ≤ (j : Int) := by omega
      have j2 : (j : Int) < (l.length : Int) := by omega
      clear hx hc1 hc2 ha hb hcell
      go_wp2
      go_quiet (fail)
      go_wp2
      go_roundw
      case rel => exact ⟨j + 1, n + nq, by omega, by go_num, by rw [HW.out, World.drewN_drewN]⟩
      case measure => simp only [intOf]; omega
    · obtain rfl : j = l.length := by omega
      clear hcell
      go_wp2
      go_ret
      exact ⟨rfl, n, HW.out⟩
/-- blocks from lo on and below hi alone have been written -/
structure Span (lo hi : Nat) (w w' : World) : Prop where
  os : w'.os = w.os
  tape : w'.tape = w.tape
  output : w'.output = w.output
  size : w.heap.size ≤ w'.heap.size
  block : ∀ k, k < w.heap.size → (k < lo ∨ hi ≤ k) → w'.heap[k]? = w.heap[k]?
theorem Span.refl (lo hi : Nat) (w : World) : Span lo hi w w := ⟨rfl, rfl, rfl, Nat.le_refl _, fun _ _ _ => rfl⟩
theorem Span.trans {lo hi : Nat} {a b c : World} (h : Span lo hi a b) (k : Span lo hi b c) : Span lo hi a c :=
  ⟨k.os.trans h.os, k.tape.trans h.tape, k.output.trans h.output, Nat.le_trans h.size k.size, fun i hi hne => (k.block i (Nat.lt_of_lt_of_le hi h.size) hne).trans (h.block i hi hne)⟩
theorem Span.of_grown {lo hi : Nat} {w w' : World} {r : Option Nat} (h : w.grownBy w' r) (hr : ∀ g, r = some g → lo ≤ g ∧ g < hi) : Span lo hi w w' :=
  ⟨h.os, h.tape, h.output, h.size, fun k hk hne => h.block k hk (fun e => by have := hr k e.symm; omega)⟩
theorem Span.below {lo hi : Nat} {w w' : World} (h : Span lo hi w w') (hlo : lo ≤ w.heap.size) : Below lo w w' :=
  ⟨h.os, h.tape, h.output, h.size, fun k hk => h.block k (Nat.lt_of_lt_of_le hk hlo) (.inl hk)⟩
theorem OwnR.far {w w' : World} {lo hi lo' hi' : Nat} {v : Value} {rows : List (List Int)} (h : OwnR w lo hi v rows) (hs : Span lo' hi' w w') (hd : hi ≤ lo' ∨ hi' ≤ lo) : OwnR w' lo hi v rows := by
  obtain ⟨vs, h1, h2, h3, h4⟩ := h
  have hk : ∀ g, lo ≤ g → g < hi → g < w.heap.size → w'.heap[g]? = w.heap[g]? := fun g a b c => hs.block g c (by omega)
  refine ⟨vs, ⟨h1.1, ?_⟩, h2, fun i r hr => ?_, h4⟩
  · rcases h1.2 with hn | ⟨g, cap, cur, rfl, hg, hh, rest⟩
    · exact .inl hn
    · exact .inr ⟨g, cap, cur, rfl, hg, (hk g hg (h2 g rfl) (Array.getElem?_eq_some_iff.1 hh).1).trans hh, rest⟩
  · obtain ⟨u, a, b, c⟩ := h3 i r hr
    refine ⟨u, a, ?_, c⟩
    unfold OwnI at b ⊢
    refine ⟨b.1, ?_⟩
    rcases b.2 with hn | ⟨g, cap, cur, rfl, hg, hh, rest⟩
    · exact .inl hn
    · exact .inr ⟨g, cap, cur, rfl, hg, (hk g hg (c g rfl) (Array.getElem?_eq_some_iff.1 hh).1).trans hh, rest⟩
theorem OwnI.far {w w' : World} {lo lo' hi' : Nat} {v : Value} {l : List Int} (h : OwnI w lo v l) (hs : Span lo' hi' w w') (hd : ∀ g, v.ownBlock = some g → g < lo' ∨ hi' ≤ g) : OwnI w' lo v l := by
  unfold OwnI at h ⊢
  refine ⟨h.1, ?_⟩
  rcases h.2 with hn | ⟨g, cap, cur, rfl, hg, hh, rest⟩
  · exact .inl hn
  · exact .inr ⟨g, cap, cur, rfl, hg, (hs.block g (Array.getElem?_eq_some_iff.1 hh).1 (hd g rfl)).trans hh, rest⟩
/-- one row has been written -/
theorem OwnR.setRow {w w' : World} {lo hi : Nat} {v u : Value} {rows : List (List Int)} (h : OwnR w lo hi v rows) (i : Nat) (r' : List Int)
    (hcell : ∀ vs : List Value, w.ownsRow lo 26 1 v rows.length vs → vs[i]? = some u) (hlt' : i < rows.length)
    (hg : w.grownBy w' u.ownBlock) (hu' : OwnI w' lo u r') : OwnR w' lo hi v (rows.set i r') := by
  obtain ⟨vs, h1, h2, h3, h4⟩ := h
  have hvi := hcell vs h1
  obtain ⟨u0, a1, a2, a3⟩ := h3 i _ (List.getElem?_eq_getElem hlt')
  rw [hvi] at a1
  injection a1 with a1
  subst a1
  have hne := ne_types h1 a2
  refine ⟨vs, ?_, h2, fun j r hr => ?_, h4⟩
  · rw [List.length_set]
    refine World.ownsRow.kept h1 hg ?_
    rcases hc : v.ownBlock with _ | g
    · exact .inl rfl
    · refine .inr ?_
      rcases hne with e | e
      · rw [e]; simp
      · rw [← hc]; exact Ne.symm e
  · by_cases hij : i = j
    · subst hij
      rw [List.getElem?_set_self hlt'] at hr
      injection hr with hr
      subst hr
      exact ⟨u, hvi, hu', a3⟩
    · rw [List.getElem?_set_ne hij] at hr
      obtain ⟨u1, b1, b2, b3⟩ := h3 j r hr
      refine ⟨u1, b1, b2.other hg ?_, b3⟩
      rcases Nat.lt_or_ge i j with hlt | hge
      · rcases h4 i j u u1 hlt hvi b1 with e | e
        · rcases hc : u1.ownBlock with _ | g
          · exact .inl rfl
          · exact .inr (by rw [e]; simp)
        · exact .inr (Ne.symm e)
      · exact h4 j i u1 u (by omega) b1 hvi
theorem OwnR.row {w : World} {lo hi : Nat} {v : Value} {rows : List (List Int)} (h : OwnR w lo hi v rows) (i : Nat) (hi' : i < rows.length) :
    ∃ g c A' c', v = .slice (some ⟨g, 0, none⟩) rows.length c ∧ g < w.heap.size ∧ w.cell? ⟨g, i, none⟩ = some (.slice A' (rows[i]?.getD []).length c') ∧
      (∀ vs : List Value, w.ownsRow lo 26 1 v rows.length vs → vs[i]? = some (.slice A' (rows[i]?.getD []).length c')) ∧ OwnI w lo (.slice A' (rows[i]?.getD []).length c') (rows[i]?.getD []) ∧
      (∀ b, (Value.slice A' (rows[i]?.getD []).length c').ownBlock = some b → b < hi) := by
  obtain ⟨vs, h1, h2, h3, h4⟩ := h
  rcases h1.2 with ⟨rfl, h0⟩ | ⟨g, cap, cur, rfl, hg, hh, h5, h6, h7, h8⟩
  · omega
  · have hr : rows[i]? = some (rows[i]?.getD []) := by rw [List.getElem?_eq_getElem hi']; rfl
    obtain ⟨u, a1, a2, a3⟩ := h3 i _ hr
    have hc := World.ownsRow.cells h1 (g := g) rfl i u a1
    rw [add_plain, Nat.zero_add] at hc
    obtain ⟨A', c', rfl, _⟩ := a2.form
    refine ⟨g, cap, A', c', rfl, (Array.getElem?_eq_some_iff.1 hh).1, hc, fun ws hws => ?_, a2, a3⟩
    rcases hws.2 with ⟨hv, _⟩ | ⟨g', cap', cur', hv, _, hh', _, _, _, h8'⟩
    · cases hv
    · injection hv with e1 e2 e3
      injection e1 with e1
      injection e1 with e1
      subst e1
      rw [hh] at hh'
      injection hh' with hh'
      injection hh' with hh'
      subst hh'
      rw [← h8', h8]; exact a1
set_option maxHeartbeats 1000000 in
theorem eqInt64SS_any (v u : Value) (lo hi lo' hi' : Nat) (rows : List (List Int)) (w : World) (hl : rows.length ≤ 10485760) (hrl : ∀ i : Nat, (rows[i]?.getD []).length ≤ 10485760) (hv : OwnR w lo hi v rows) (hu : OwnR w lo' hi' u rows) :
    Calls Tryz.prog 33 #[v, u] w fun e w' => e = .returned (.bool true) ∧ Below w.heap.size w w' := by
  obtain ⟨A, c, rfl, -⟩ := hv.read
  obtain ⟨B, d, rfl, -⟩ := hu.read
  have HV := Lib.hid hv
  have HU := Lib.hid hu
  have HR := Lib.hid hrl
  clear hv hu hrl
  go_enter Tryz.func33, Tryz.ntmps33
  go_wp2
  go_loopw [5] (fun i wr => ∃ j : Nat, j ≤ rows.length ∧ i = .int .i64 j ∧ Below w.heap.size w wr) (fun i _ => rows.length - (intOf i).toNat)
  case atStart => exact ⟨0, Nat.zero_le _, rfl, Below.refl _ _⟩
  case round =>
    obtain ⟨j, hj, rfl, hbel⟩ := hrel
    have HB := Lib.hid hbel
    clear hbel
    by_cases hlt : j < rows.length
    · obtain ⟨g, c1, A1, d1, e1, g1, k1, -, o1, -⟩ := HV.out.row j hlt
      obtain ⟨g', c2, A2, d2, e2, g2, k2, -, o2, -⟩ := HU.out.row j hlt
      injection e1 with e1 e1b e1c
      clear e1b e1c
      injection e2 with e2 e2b e2c
      clear e2b e2c
      subst e1 e2
      have h1 := (HB.out.cell (p := ⟨g, j, none⟩) g1).trans k1
      have h2 := (HB.out.cell (p := ⟨g', j, none⟩) g2).trans k2
      have hrj := HR.out j
      obtain ⟨r, hr⟩ : ∃ r, rows[j]?.getD [] = r := ⟨_, rfl⟩
      rw [hr] at h1 h2 o1 o2 hrj
      have R1 := Lib.hid (o1.ri.below HB.out)
      have R2 := Lib.hid (o2.ri.below HB.out)
      have j1 : (0 : Int) ≤ (j : Int) := by omega
      have j2 : (j : Int) < (rows.length : Int) := by omega
      clear hr k1 k2 o1 o2
      go_wp2
      go_quiet ((go_at_call 11; exact Calls.quiet_of (eqInt64S_q _ _ _ _ r _ hrj R1.out R2.out)))
      go_wp2
      go_roundw
      case rel => exact ⟨j + 1, by omega, by go_num, below_drewN HB.out _⟩
      case measure => simp only [intOf]; omega
    · obtain rfl : j = rows.length := by omega
      go_wp2
      go_ret
      exact ⟨rfl, HB.out⟩
/-- rows of marks of given lengths, from k on -/
def mkR (k : Int) : List (List Int) → List (List Int)
  | [] => []
  | r :: t => marks k r.length :: mkR (k + r.length) t
/-- how many numbers there are in the rows -/
def tot : List (List Int) → Nat
  | [] => 0
  | r :: t => r.length + tot t
theorem tot_append : ∀ a b : List (List Int), tot (a ++ b) = tot a + tot b
  | [], b => by simp [tot]
  | r :: t, b => by rw [List.cons_append, tot, tot, tot_append t b]; omega
theorem mkR_append : ∀ (a b : List (List Int)) (k : Int), mkR k (a ++ b) = mkR k a ++ mkR (k + tot a) b
  | [], b, k => by simp [mkR, tot]
  | r :: t, b, k => by
    rw [List.cons_append, mkR, mkR, mkR_append t b, List.cons_append, tot]
    congr 3; omega
theorem mkR_length : ∀ (a : List (List Int)) (k : Int), (mkR k a).length = a.length
  | [], _ => rfl
  | r :: t, k => by rw [mkR, List.length_cons, mkR_length t, List.length_cons]
theorem take_succ_tot (rows : List (List Int)) (j : Nat) (h : j < rows.length) : tot (rows.take (j + 1)) = tot (rows.take j) + (rows[j]?.getD []).length := by
  rw [List.take_succ_eq_append_getElem h, tot_append, List.getElem?_eq_getElem h]
  simp [tot]
theorem tot_take_le (rows : List (List Int)) (j : Nat) : tot (rows.take j) ≤ tot rows := by
  conv => rhs; rw [← List.take_append_drop j rows]
  rw [tot_append]; omega
theorem mk_step (rows : List (List Int)) (k : Int) (j : Nat) (h : j < rows.length) :
    (mkR k (rows.take j) ++ rows.drop j).set j (marks (k + tot (rows.take j)) (rows[j]?.getD []).length) = mkR k (rows.take (j + 1)) ++ rows.drop (j + 1) := by
  have hl : (mkR k (rows.take j)).length = j := by rw [mkR_length, List.length_take]; omega
  have e : rows[j]?.getD [] = rows[j] := by rw [List.getElem?_eq_getElem h]; rfl
  rw [List.set_append_right _ _ (by omega), hl, Nat.sub_self, List.drop_eq_getElem_cons h, List.set_cons_zero, List.take_succ_eq_append_getElem h, mkR_append, List.append_assoc, e]
  rfl
theorem mk_get (rows : List (List Int)) (k : Int) (j : Nat) (h : j < rows.length) : (mkR k (rows.take j) ++ rows.drop j)[j]?.getD [] = rows[j]?.getD [] := by
  have hl : (mkR k (rows.take j)).length = j := by rw [mkR_length, List.length_take]; omega
  rw [List.getElem?_append_right (by omega), hl, Nat.sub_self, List.getElem?_drop, Nat.add_zero]
set_option maxHeartbeats 1000000 in
theorem markInt64SS_any (v : Value) (lo hi : Nat) (rows : List (List Int)) (k : Int) (w : World) (hl : rows.length ≤ 10485760) (ht : tot rows ≤ 10485760) (hk : 0 ≤ k) (hk2 : k ≤ 500000000000) (hown : OwnR w lo hi v rows) :
    Calls Tryz.prog 34 #[v, .int .i64 k] w fun e w' => e = .returned (.int .i64 (k + tot rows)) ∧ OwnR w' lo hi v (mkR k rows) ∧ Span lo hi w w' := by
  obtain ⟨A, c, rfl, -⟩ := hown.read
  have HO := Lib.hid hown
  clear hown
  go_enter Tryz.func34, Tryz.ntmps34
  go_wp2
  go_loopw [5, 1] (fun i m wr => ∃ j : Nat, j ≤ rows.length ∧ i = .int .i64 j ∧ m = .int .i64 (k + tot (rows.take j)) ∧ OwnR wr lo hi (.slice A rows.length c) (mkR k (rows.take j) ++ rows.drop j) ∧ Span lo hi w wr) (fun i _ _ => rows.length - (intOf i).toNat)
  case atStart => exact ⟨0, Nat.zero_le _, rfl, by simp [tot], by simpa [mkR] using HO.out, Span.refl _ _ _⟩
  case round =>
    obtain ⟨j, hj, rfl, rfl, ho, hs⟩ := hrel
    have HJ := Lib.hid ho
    have HS := Lib.hid hs
    clear ho hs
    by_cases hlt : j < rows.length
    · obtain ⟨g, c1, A1, d1, e1, g1, k1, kk, o1, o2⟩ := HJ.out.row j (by rw [List.length_append, mkR_length, List.length_take, List.length_drop]; omega)
      injection e1 with e1 e1b e1c
      clear e1b e1c
      subst e1
      rw [mk_get _ _ _ hlt] at k1 kk o1 o2
      have hT := take_succ_tot rows j hlt
      have hT2 := tot_take_le rows (j + 1)
      have HMS := Lib.hid (mk_step rows k j hlt)
      obtain ⟨r, hr⟩ : ∃ r, rows[j]?.getD [] = r := ⟨_, rfl⟩
      obtain ⟨T, hTT⟩ : ∃ T, tot (rows.take j) = T := ⟨_, rfl⟩
      obtain ⟨T2, hTT2⟩ : ∃ T, tot (rows.take (j + 1)) = T := ⟨_, rfl⟩
      rw [hr] at k1 kk o1 o2 hT
      rw [hTT] at hT ⊢
      rw [hTT2] at hT hT2
      have HR := Lib.hid hr
      have HTT := Lib.hid hTT
      have HTT2 := Lib.hid hTT2
      have HT := Lib.hid hT
      have K := Lib.hid kk
      have O1 := Lib.hid o1
      have O2 := Lib.hid o2
      have b1 : r.length ≤ 10485760 := by omega
      have b2 : T ≤ 10485760 := by omega
      clear hr hTT hTT2 hT kk o1 o2
      go_wp2_with (go_at_call 14; refine (markInt64S_any _ _ r _ _ b1 (by omega) (by omega) O1.out).mono ?_; rintro e w2 ⟨rfl, ho2, hg2⟩)
      have HR2 := HJ.out.setRow j (marks (k + T) r.length) K.out (by rw [List.length_append, mkR_length, List.length_take, List.length_drop]; omega) hg2 ho2
      have hs2 : Span lo hi wr w2 := Span.of_grown hg2 (fun b hb => ⟨(O1.out.lt b hb).1, O2.out b hb⟩)
      have HMS' := HMS.out
      rw [HR.out, HTT.out] at HMS'
      rw [HMS'] at HR2
      have H1 := Lib.hid HR2
      have H2 := Lib.hid hs2
      clear HR2 hs2 ho2 hg2 HMS'
      go_wp2
      go_roundw
      case rel => exact ⟨j + 1, by omega, by go_num, by have := HT.out; rw [HTT2.out, this]; congr 1; push_cast; omega, H1.out, HS.out.trans H2.out⟩
      case measure => simp only [intOf]; omega
    · obtain rfl : j = rows.length := by omega
      have hfin := HJ.out
      rw [List.drop_length, List.append_nil, List.take_length] at hfin
      have HF := Lib.hid hfin
      clear hfin
      rw [List.take_length]
      go_wp2
      go_ret
      exact ⟨rfl, HF.out, HS.out⟩
end Go.Proofs.YtfhdgcndiljjcabGreat

/- Plain facts about tables of coefficients in two variables: no program in sight. -/
namespace Go.Proofs.YtfhdgcndiljjcabGreat
namespace Pl
/-- row i of a table; the coefficient at x^i y^j -/
def rw' (t : List (List Int)) (i : Nat) : List Int := t[i]?.getD []
def pc (t : List (List Int)) (i j : Nat) : Int := Ser.co (rw' t i) j
/-- the table of a degree with the remainders of f -/
def tab (m : Int) (d : Nat) (f : Nat → Nat → Int) : List (List Int) := (List.range (d + 1)).map fun i => Ser.cut m (d - i) (f i)
theorem tab_length (m : Int) (d : Nat) (f : Nat → Nat → Int) : (tab m d f).length = d + 1 := by simp [tab]
theorem tab_get (m : Int) (d : Nat) (f : Nat → Nat → Int) (i : Nat) (h : i ≤ d) : (tab m d f)[i]? = some (Ser.cut m (d - i) (f i)) := by
  unfold tab
  rw [List.getElem?_map, List.getElem?_range (by omega)]; rfl
theorem tab_row (m : Int) (d : Nat) (f : Nat → Nat → Int) (i : Nat) (h : i ≤ d) : rw' (tab m d f) i = Ser.cut m (d - i) (f i) := by
  unfold rw'; rw [tab_get m d f i h]; rfl
theorem rw_over {t : List (List Int)} {i : Nat} (h : t.length ≤ i) : rw' t i = [] := by
  unfold rw'; rw [List.getElem?_eq_none h]; rfl
theorem pc_tab {m : Int} {d : Nat} {f : Nat → Nat → Int} {i j : Nat} (h : i + j ≤ d) : pc (tab m d f) i j = f i j % m := by
  unfold pc; rw [tab_row m d f i (by omega), Ser.co_cut (by omega)]
theorem pc_over {m : Int} {d : Nat} {f : Nat → Nat → Int} {i j : Nat} (h : d < i + j) : pc (tab m d f) i j = 0 := by
  unfold pc
  by_cases hi : i ≤ d
  · rw [tab_row m d f i hi, Ser.co_over (by rw [Ser.cut_length]; omega)]
  · rw [rw_over (by rw [tab_length]; omega), Ser.co_over (Nat.zero_le _)]
/-- congruent up to the degree -/
def Eq (m : Int) (d : Nat) (f g : Nat → Nat → Int) : Prop := ∀ i j, i + j ≤ d → f i j % m = g i j % m
theorem Eq.refl (m : Int) (d : Nat) (f : Nat → Nat → Int) : Eq m d f f := fun _ _ _ => rfl
theorem Eq.of (m : Int) (d : Nat) {f g : Nat → Nat → Int} (h : ∀ i j, i + j ≤ d → f i j = g i j) : Eq m d f g := fun i j hij => by rw [h i j hij]
theorem Eq.symm {m : Int} {d : Nat} {f g : Nat → Nat → Int} (h : Eq m d f g) : Eq m d g f := fun i j hij => (h i j hij).symm
theorem Eq.trans {m : Int} {d : Nat} {f g k : Nat → Nat → Int} (h : Eq m d f g) (h' : Eq m d g k) : Eq m d f k := fun i j hij => (h i j hij).trans (h' i j hij)
theorem pc_tab_eq (m : Int) (d : Nat) (f : Nat → Nat → Int) : Eq m d (pc (tab m d f)) f := fun i j h => by rw [pc_tab h, Int.emod_emod]
theorem tab_congr {m : Int} {d : Nat} {f g : Nat → Nat → Int} (h : Eq m d f g) : tab m d f = tab m d g := by
  unfold tab
  refine List.map_congr_left (fun i hi => Ser.cut_congr (fun j hj => h i j ?_))
  have := List.mem_range.1 hi
  omega
theorem tab_ext {t : List (List Int)} {m : Int} {d : Nat} {f : Nat → Nat → Int} (hl : t.length = d + 1) (h : ∀ i, i ≤ d → rw' t i = Ser.cut m (d - i) (f i)) : t = tab m d f := by
  refine List.ext_getElem? (fun i => ?_)
  by_cases hi : i ≤ d
  · rw [tab_get m d f i hi]
    have := h i hi
    unfold rw' at this
    rw [List.getElem?_eq_getElem (by omega)] at this ⊢
    exact congrArg some this
  · rw [List.getElem?_eq_none (by omega), List.getElem?_eq_none (by rw [tab_length]; omega)]
theorem rw_set_self {t : List (List Int)} {p : Nat} (h : p < t.length) (r : List Int) : rw' (t.set p r) p = r := by
  unfold rw'; rw [List.getElem?_set_self h]; rfl
theorem rw_set_ne {t : List (List Int)} {p i : Nat} (h : p ≠ i) (r : List Int) : rw' (t.set p r) i = rw' t i := by
  unfold rw'; rw [List.getElem?_set_ne h]
/-- one number is written -/
theorem tab_put {m : Int} {d : Nat} {f g : Nat → Nat → Int} {p q : Nat} (h : p + q ≤ d) {y : Int} (hy : g p q % m = y) (hne : ∀ i j, i + j ≤ d → ¬ (i = p ∧ j = q) → g i j % m = f i j % m) :
    (tab m d f).set p ((rw' (tab m d f) p).set q y) = tab m d g := by
  refine tab_ext (by rw [List.length_set, tab_length]) (fun i hi => ?_)
  by_cases hip : p = i
  · subst hip
    rw [rw_set_self (by rw [tab_length]; omega), tab_row m d f p hi]
    refine Ser.list_ext (by rw [List.length_set, Ser.cut_length, Ser.cut_length]) (fun j hj => ?_)
    rw [List.length_set, Ser.cut_length] at hj
    rw [Ser.co_set (by rw [Ser.cut_length]; omega), Ser.co_cut (by omega), Ser.co_cut (by omega)]
    by_cases hjq : j = q
    · rw [if_pos hjq, hjq, hy]
    · rw [if_neg hjq, hne p j (by omega) (fun e => hjq e.2)]
  · rw [rw_set_ne hip, tab_row m d f i hi]
    refine Ser.cut_congr (fun j hj => ?_)
    exact (hne i j (by omega) (fun e => hip e.1.symm)).symm
/-- a table of a plane: its rows' lengths, its numbers remainders -/
structure Ok (m : Int) (d : Nat) (t : List (List Int)) : Prop where
  m1 : 2 ≤ m
  m2 : m ≤ 10000
  d1 : 1 ≤ d
  d2 : d ≤ 10
  len : t.length = d + 1
  row : ∀ i, i ≤ d → (rw' t i).length = d - i + 1
  red : ∀ i, Ser.Red m (rw' t i)
theorem Ok.self {m : Int} {d : Nat} {t : List (List Int)} (h : Ok m d t) : t = tab m d (pc t) :=
  tab_ext h.len (fun i hi => (Ser.cut_self (h.row i hi) (h.red i)).symm)
theorem Ok.pc {m : Int} {d : Nat} {t : List (List Int)} (h : Ok m d t) (i j : Nat) : 0 ≤ pc t i j ∧ pc t i j < m := h.red i j
theorem Ok.of_tab {m : Int} {d : Nat} (m1 : 2 ≤ m) (m2 : m ≤ 10000) (d1 : 1 ≤ d) (d2 : d ≤ 10) (f : Nat → Nat → Int) : Ok m d (tab m d f) := by
  refine ⟨m1, m2, d1, d2, tab_length _ _ _, fun i hi => by rw [tab_row m d f i hi, Ser.cut_length], fun i => ?_⟩
  by_cases hi : i ≤ d
  · rw [tab_row m d f i hi]; exact Ser.cut_red (by omega) _ _
  · rw [rw_over (by rw [tab_length]; omega)]
    intro j; rw [Ser.co_over (Nat.zero_le _)]; omega
theorem Ok.tab {m : Int} {d : Nat} {t : List (List Int)} (h : Ok m d t) (f : Nat → Nat → Int) : Ok m d (tab m d f) := Ok.of_tab h.m1 h.m2 h.d1 h.d2 f
/-- the rows behind k are still empty -/
theorem tab_take_succ (m : Int) (d : Nat) (f : Nat → Nat → Int) (k : Nat) (h : k ≤ d) : (tab m d f).take (k + 1) = (tab m d f).take k ++ [Ser.cut m (d - k) (f k)] := by
  rw [List.take_succ_eq_append_getElem (by rw [tab_length]; omega)]
  simp [tab]
theorem tab_take_all (m : Int) (d : Nat) (f : Nat → Nat → Int) : (tab m d f).take (d + 1) = tab m d f := List.take_of_length_le (by rw [tab_length]; omega)
theorem tab_step (m : Int) (d : Nat) (f : Nat → Nat → Int) (k : Nat) (h : k ≤ d) (r : List Int) :
    ((tab m d f).take k ++ List.replicate (d + 1 - k) []).set k r = (tab m d f).take k ++ (r :: List.replicate (d + 1 - (k + 1)) []) := by
  have hl := tab_length m d f
  rw [List.set_append_right _ _ (by simp; omega), List.length_take, hl, Nat.min_eq_left (by omega), Nat.sub_self, show d + 1 - k = (d + 1 - (k + 1)) + 1 by omega, List.replicate_succ, List.set_cons_zero]
theorem tab_step2 (m : Int) (d : Nat) (f : Nat → Nat → Int) (k : Nat) (h : k ≤ d) (r r' : List Int) :
    ((tab m d f).take k ++ (r :: List.replicate (d + 1 - (k + 1)) [])).set k r' = (tab m d f).take k ++ (r' :: List.replicate (d + 1 - (k + 1)) []) := by
  have hl := tab_length m d f
  rw [List.set_append_right _ _ (by simp; omega), List.length_take, hl, Nat.min_eq_left (by omega), Nat.sub_self, List.set_cons_zero]
theorem tab_mid (m : Int) (d : Nat) (f : Nat → Nat → Int) (k : Nat) (h : k ≤ d) (r : List Int) : rw' ((tab m d f).take k ++ (r :: List.replicate (d + 1 - (k + 1)) [])) k = r := by
  have hl := tab_length m d f
  unfold rw'
  rw [List.getElem?_append_right (by simp; omega), List.length_take, hl, Nat.min_eq_left (by omega), Nat.sub_self]; rfl
theorem tab_mid_length (m : Int) (d : Nat) (f : Nat → Nat → Int) (k : Nat) (h : k ≤ d) (r : List Int) : ((tab m d f).take k ++ (r :: List.replicate (d + 1 - (k + 1)) [])).length = d + 1 := by
  have hl := tab_length m d f
  simp; omega
theorem tab_done (m : Int) (d : Nat) (f : Nat → Nat → Int) (k : Nat) (h : k ≤ d) : (tab m d f).take k ++ (Ser.cut m (d - k) (f k) :: List.replicate (d + 1 - (k + 1)) []) = (tab m d f).take (k + 1) ++ List.replicate (d + 1 - (k + 1)) [] := by
  rw [tab_take_succ m d f k h, List.append_assoc]; rfl
end Pl
end Go.Proofs.YtfhdgcndiljjcabGreat

/- Lists of lists of integers that are read, and those that a call makes itself, row by row. -/
namespace Go.Proofs.YtfhdgcndiljjcabGreat
open Go.RowKit Go.WideShapes Go.ChangeShapes Go.ChangeAt
theorem OwnI.capP {w : World} {base n c : Nat} {A : Option Addr} {l : List Int} (h : OwnI w base (.slice A n c) l) : l.length ≤ c := by
  unfold OwnI at h
  rcases h.2 with ⟨hv, h0⟩ | ⟨g, cap, cur, hv, _, _, h1, _⟩
  · omega
  · injection hv with e1 e2 e3
    omega
/-- the slice of slices at A holds the rows -/
def RP (w : World) (A : Option Addr) (t : List (List Int)) : Prop :=
  t ≠ [] → ∃ b off, A = some ⟨b, off, none⟩ ∧ b < w.heap.size ∧ ∀ k, k < t.length → ∃ A' c', w.cell? ⟨b, off + k, none⟩ = some (.slice A' (Pl.rw' t k).length c') ∧ (Pl.rw' t k).length ≤ c' ∧ RI w A' (Pl.rw' t k)
theorem RP.below {w w' : World} {A : Option Addr} {t : List (List Int)} (h : RP w A t) (hb : Below w.heap.size w w') : RP w' A t := by
  intro hl
  obtain ⟨b, off, e, hlt, hc⟩ := h hl
  refine ⟨b, off, e, Nat.lt_of_lt_of_le hlt hb.size, fun k hk => ?_⟩
  obtain ⟨A', c', h1, h2, h3⟩ := hc k hk
  exact ⟨A', c', (hb.cell (p := ⟨b, off + k, none⟩) hlt).trans h1, h2, h3.below hb⟩
theorem RP.at {w : World} {A : Option Addr} {t : List (List Int)} (h : RP w A t) (k : Nat) (hk : k < t.length) :
    ∃ b off A' c', A = some ⟨b, off, none⟩ ∧ b < w.heap.size ∧ w.cell? ⟨b, off + k, none⟩ = some (.slice A' (Pl.rw' t k).length c') ∧ (Pl.rw' t k).length ≤ c' ∧ RI w A' (Pl.rw' t k) := by
  obtain ⟨b, off, e, hlt, hc⟩ := h (by rintro rfl; simp at hk)
  obtain ⟨A', c', h1, h2, h3⟩ := hc k hk
  exact ⟨b, off, A', c', e, hlt, h1, h2, h3⟩
/-- one number of it -/
theorem RP.num {w : World} {A : Option Addr} {t : List (List Int)} (h : RP w A t) (i j : Nat) (hi : i < t.length) (hj : j < (Pl.rw' t i).length) :
    ∃ b off b' off' c', A = some ⟨b, off, none⟩ ∧ b < w.heap.size ∧ w.cell? ⟨b, off + i, none⟩ = some (.slice (some ⟨b', off', none⟩) (Pl.rw' t i).length c') ∧ b' < w.heap.size ∧ w.cell? ⟨b', off' + j, none⟩ = some (.int .i64 (Pl.pc t i j)) := by
  obtain ⟨b, off, A', c', e, hlt, h1, _, h3⟩ := h.at i hi
  obtain ⟨b', off', rfl, h4, h5⟩ := h3.at j hj
  exact ⟨b, off, b', off', c', e, hlt, h1, h4, h5⟩
theorem OwnR.rp {w : World} {lo hi n c : Nat} {A : Option Addr} {t : List (List Int)} (h : OwnR w lo hi (.slice A n c) t) : RP w A t := by
  intro ht
  obtain ⟨A0, c0, e, hr⟩ := h.read
  injection e with e1 e2 e3
  subst e1
  obtain ⟨g, hA, hg, _, _, hrow⟩ := hr ht
  refine ⟨g, 0, hA, hg, fun k hk => ?_⟩
  obtain ⟨A', c', h1, h2, _⟩ := hrow k hk
  exact ⟨A', c', by rw [Nat.zero_add]; exact h1, h2.capP, h2.ri⟩
theorem OwnR.len {w : World} {lo hi : Nat} {v : Value} {t : List (List Int)} (h : OwnR w lo hi v t) : ∃ A c, v = .slice A t.length c ∧ RP w A t := by
  obtain ⟨A0, c0, rfl, hr⟩ := h.read
  exact ⟨A0, c0, rfl, h.rp⟩
theorem OwnR.low {w : World} {lo lo' hi : Nat} {v : Value} {t : List (List Int)} (h : OwnR w lo hi v t) (hh : lo' ≤ lo) : OwnR w lo' hi v t := by
  obtain ⟨vs, h1, h2, h3, h4⟩ := h
  refine ⟨vs, ⟨h1.1, ?_⟩, h2, fun i r hr => ?_, h4⟩
  · rcases h1.2 with hn | ⟨g, cap, cur, hv, hg, rest⟩
    · exact .inl hn
    · exact .inr ⟨g, cap, cur, hv, Nat.le_trans hh hg, rest⟩
  · obtain ⟨u, a, b, c⟩ := h3 i r hr
    exact ⟨u, a, b.more hh, c⟩
theorem OwnR.openv {w : World} {lo hi : Nat} {v : Value} {t : List (List Int)} (h : OwnR w lo hi v t) (ht : 0 < t.length) : ∃ g c, v = .slice (some ⟨g, 0, none⟩) t.length c := by
  obtain ⟨g, c, _, _, e, _⟩ := h.row 0 ht
  exact ⟨g, c, e⟩
/-- a new slice of empty slices -/
theorem OwnR.made (w : World) (n : Nat) (hn : n ≤ maxLen) : OwnR (w.alloc (.cells (madeCells #[Value.slice none 0 0] n) 26)) w.heap.size (w.heap.size + 1) (.slice (some ⟨w.heap.size, 0, none⟩) n n) (List.replicate n []) := by
  have key : ∀ (i : Nat) (u : Value), (List.replicate n (Value.slice none 0 0))[i]? = some u → u = Value.slice none 0 0 := by
    intro i u hu
    rw [List.getElem?_replicate] at hu
    split at hu <;> simp at hu
    exact hu.symm
  refine ⟨List.replicate n (Value.slice none 0 0), ?_, ?_, ?_, ?_⟩
  · rw [List.length_replicate]
    have := World.ownsRow_lit (base := w.heap.size) (e := 26) (size := 1) w (madeCells #[Value.slice none 0 0] n) n (Nat.le_refl _) hn (by rw [size_madeCells]; omega)
    rwa [toList_madeCells_one] at this
  · intro g hg
    have : g = w.heap.size := by simpa [Value.ownBlock] using hg.symm
    omega
  · intro i r hr
    rw [List.getElem?_replicate] at hr
    split at hr
    · rename_i hi
      injection hr with hr
      subst hr
      exact ⟨.slice none 0 0, by rw [List.getElem?_replicate, if_pos hi], OwnI.nil _ _, fun g hg => by simp [Value.ownBlock] at hg⟩
    · exact absurd hr (by simp)
  · intro i j u u' _ hu _
    left
    rw [key i u hu]; rfl
theorem OwnR.cell {w : World} {lo hi g n c : Nat} {t : List (List Int)} (h : OwnR w lo hi (.slice (some ⟨g, 0, none⟩) n c) t) (i : Nat) (hi' : i < t.length) :
    lo ≤ g ∧ g < hi ∧ g < w.heap.size ∧ w.frozen? ⟨g, i, none⟩ = false ∧ ∃ A' c', w.cell? ⟨g, i, none⟩ = some (.slice A' (Pl.rw' t i).length c') ∧ OwnI w lo (.slice A' (Pl.rw' t i).length c') (Pl.rw' t i) ∧
      (∀ b, (Value.slice A' (Pl.rw' t i).length c').ownBlock = some b → b < hi) ∧ (∀ vs : List Value, w.ownsRow lo 26 1 (.slice (some ⟨g, 0, none⟩) t.length c) t.length vs → vs[i]? = some (.slice A' (Pl.rw' t i).length c')) := by
  have hn : n = t.length := by
    obtain ⟨A0, c0, e, _⟩ := h.read
    injection e
  subst hn
  obtain ⟨g0, c0, A', c', e, hg, h1, h2, h3, h4⟩ := h.row i hi'
  injection e with e1 e2 e3
  injection e1 with e1
  injection e1 with e1
  subst e1 e3
  obtain ⟨vs, k1, k2, _⟩ := h
  exact ⟨(World.ownsRow.lt k1 g rfl).1, k2 g rfl, hg, World.ownsRow.frozenAt k1 i, A', c', h1, h3, h4, h2⟩
/-- a new row is stored -/
theorem OwnR.put {w : World} {lo hi hi' g n c : Nat} {t : List (List Int)} (h : OwnR w lo hi (.slice (some ⟨g, 0, none⟩) n c) t) (i : Nat) (hi1 : i < t.length) (u : Value) (r : List Int)
    (hu : OwnI w lo u r) (hb : ∀ b, u.ownBlock = some b → hi ≤ b ∧ b < hi') (hh : hi ≤ hi') : OwnR (w.setCell ⟨g, i, none⟩ u) lo hi' (.slice (some ⟨g, 0, none⟩) n c) (t.set i r) := by
  have hn : n = t.length := by
    obtain ⟨A0, c0, e, _⟩ := h.read
    injection e
  subst hn
  obtain ⟨vs, h1, h2, h3, h4⟩ := h
  have hl : vs.length = t.length := by have := h1.1; omega
  obtain ⟨k1, k2⟩ := World.ownsRow.stored h1 i u
  have keepI : ∀ (u0 : Value) (l : List Int), OwnI w lo u0 l → OwnI (w.setCell ⟨g, i, none⟩ u) lo u0 l := fun u0 l ho => ho.other (grown_setCell w g i u) (ne_types h1 ho)
  refine ⟨vs.set i u, by rw [List.length_set]; exact k1, fun b hb' => Nat.lt_of_lt_of_le (h2 b hb') hh, fun j r' hr => ?_, fun j k x y hjk hx hy => ?_⟩
  · rw [List.getElem?_set] at hr
    by_cases hij : i = j
    · subst hij
      rw [if_pos rfl, if_pos hi1] at hr
      injection hr with hr
      subst hr
      exact ⟨u, by rw [List.getElem?_set, if_pos rfl, if_pos (by omega)], keepI u r hu, fun b hb' => (hb b hb').2⟩
    · rw [if_neg hij] at hr
      obtain ⟨u1, a1, a2, a3⟩ := h3 j r' hr
      exact ⟨u1, by rw [List.getElem?_set, if_neg hij]; exact a1, keepI u1 r' a2, fun b hb' => Nat.lt_of_lt_of_le (a3 b hb') hh⟩
  · have hblk : ∀ (q : Nat) (z : Value), vs[q]? = some z → ∀ b, z.ownBlock = some b → b < hi := by
      intro q z hz b hb'
      have hq := (List.getElem?_eq_some_iff.1 hz).1
      obtain ⟨z', a1, _, a3⟩ := h3 q _ (List.getElem?_eq_getElem (show q < t.length by omega))
      rw [hz] at a1
      injection a1 with a1
      subst a1
      exact a3 b hb'
    rw [List.getElem?_set] at hx hy
    by_cases hij : i = j
    · subst hij
      rw [if_pos rfl, if_pos (by omega)] at hx
      injection hx with hx
      subst hx
      rw [if_neg (by omega)] at hy
      rcases hc : u.ownBlock with _ | b
      · exact .inl rfl
      · refine .inr fun e => ?_
        have p1 := (hb b hc).1
        have p2 := hblk k y hy b e.symm
        omega
    · rw [if_neg hij] at hx
      by_cases hik : i = k
      · subst hik
        rw [if_pos rfl, if_pos (by omega)] at hy
        injection hy with hy
        subst hy
        rcases hc : x.ownBlock with _ | b
        · exact .inl rfl
        · refine .inr fun e => ?_
          have p1 := (hb b e.symm).1
          have p2 := hblk j x hx b hc
          omega
      · rw [if_neg hik] at hy
        exact h4 j k x y hjk hx hy
/-- one number of row i is written -/
theorem OwnR.num {w : World} {lo hi n c : Nat} {g : Nat} {t : List (List Int)} (h : OwnR w lo hi (.slice (some ⟨g, 0, none⟩) n c) t) (i j : Nat) (hi1 : i < t.length) (hj : j < (Pl.rw' t i).length) :
    ∃ b c', w.cell? ⟨g, i, none⟩ = some (.slice (some ⟨b, 0, none⟩) (Pl.rw' t i).length c') ∧ lo ≤ b ∧ b < hi ∧ b < w.heap.size ∧ w.cell? ⟨b, j, none⟩ = some (.int .i64 (Pl.pc t i j)) ∧ w.frozen? ⟨b, j, none⟩ = false ∧
      ∀ y, OwnR (w.setCell ⟨b, j, none⟩ (.int .i64 y)) lo hi (.slice (some ⟨g, 0, none⟩) n c) (t.set i ((Pl.rw' t i).set j y)) := by
  have hn : n = t.length := by
    obtain ⟨A0, c0, e, _⟩ := h.read
    injection e
  subst hn
  obtain ⟨_, _, _, _, A', c', h1, h2, h3, h4⟩ := h.cell i hi1
  obtain ⟨b, cb, e⟩ := h2.openv (by intro e; rw [e] at hj; simp at hj)
  injection e with e1 e2 e3
  subst e1 e3
  obtain ⟨o1, o2, o3, o4⟩ := h2.cells
  refine ⟨b, c', h1, o1, h3 b rfl, o2, o3 j hj, o4 j, fun y => ?_⟩
  exact h.setRow i _ h4 hi1 (grown_setCell w b j (.int .i64 y)) (h2.set j y)
/-- the same in whatever world comes of this one by new blocks -/
theorem OwnR.numB {w : World} {lo hi n c : Nat} {g : Nat} {t : List (List Int)} (h : OwnR w lo hi (.slice (some ⟨g, 0, none⟩) n c) t) (i j L : Nat) (hi1 : i < t.length) (hL : (Pl.rw' t i).length = L) (hj : j < L) :
    ∃ b c', g < hi ∧ lo ≤ b ∧ b < hi ∧ b ≠ g ∧ ∀ W, Below hi w W → W.cell? ⟨g, i, none⟩ = some (.slice (some ⟨b, 0, none⟩) L c') ∧ W.cell? ⟨b, j, none⟩ = some (.int .i64 (Pl.pc t i j)) ∧ W.frozen? ⟨b, j, none⟩ = false ∧
      ∀ y, OwnR (W.setCell ⟨b, j, none⟩ (.int .i64 y)) lo hi (.slice (some ⟨g, 0, none⟩) n c) (t.set i ((Pl.rw' t i).set j y)) := by
  subst hL
  obtain ⟨b, c', k1, k2, k3, _⟩ := h.num i j hi1 hj
  have hg := (h.cell i hi1).2.1
  have hbg : b ≠ g := by
    rintro rfl
    obtain ⟨_, _, _, _, A', c2, p1, p2, _⟩ := h.cell i hi1
    rw [k1] at p1
    injection p1 with p1
    injection p1 with p1 p1b p1c
    subst p1
    obtain ⟨vs, q1, _⟩ := h
    rcases ne_types q1 p2 with e | e
    · simp [Value.ownBlock] at e
    · simp [Value.ownBlock] at e
  refine ⟨b, c', hg, k2, k3, hbg, fun W hb => ?_⟩
  obtain ⟨b', c'', l1, _, _, _, l2, l3, l4⟩ := (h.keep hb).num i j hi1 hj
  have e := (hb.cell (p := ⟨g, i, none⟩) hg).trans k1
  rw [l1] at e
  injection e with e
  injection e with e1 e2 e3
  injection e1 with e1
  injection e1 with e1
  subst e1 e3
  exact ⟨l1, l2, l3, l4⟩
/-- block g holds a variable of several cells -/
def VarC (t : TypeId) (w : World) (g : Nat) (cs : Array Value) : Prop := w.heap[g]? = some (.cells cs t (0, 0))
theorem VarC.new (t : TypeId) (w : World) (cs : Array Value) : VarC t (w.alloc (.cells cs t)) w.heap.size cs := heap_alloc_new w _
theorem VarC.lt {t : TypeId} {w : World} {g : Nat} {cs : Array Value} (h : VarC t w g cs) : g < w.heap.size := (Array.getElem?_eq_some_iff.1 h).1
theorem VarC.keep {t : TypeId} {w w' : World} {g : Nat} {cs : Array Value} (h : VarC t w g cs) (hb : Below w.heap.size w w') : VarC t w' g cs := (hb.block g h.lt).trans h
theorem VarC.other {t : TypeId} {w w' : World} {g : Nat} {cs : Array Value} {r : Option Nat} (h : VarC t w g cs) (hg : w.grownBy w' r) (hne : r ≠ some g) : VarC t w' g cs := (hg.block g h.lt (fun e => hne e.symm)).trans h
theorem VarC.far {t : TypeId} {w : World} {g : Nat} {cs : Array Value} (h : VarC t w g cs) (b i : Nat) (u : Value) (hne : b ≠ g) : VarC t (w.setCell ⟨b, i, none⟩ u) g cs :=
  (Below.heap_setCell w ⟨b, i, none⟩ u g (fun e => hne e.symm)).trans h
theorem VarC.cell {t : TypeId} {w : World} {g : Nat} {cs : Array Value} (h : VarC t w g cs) (k : Nat) (x : Value) (hk : cs[k]? = some x) : w.cell? ⟨g, k, none⟩ = some x := by
  unfold VarC at h
  simp [World.cell?, h, hk]
theorem VarC.fz {t : TypeId} {w : World} {g : Nat} {cs : Array Value} (h : VarC t w g cs) (k : Nat) : w.frozen? ⟨g, k, none⟩ = false := by
  unfold VarC at h
  simp [World.frozen?, h]
theorem VarC.set {t : TypeId} {w : World} {g : Nat} {cs : Array Value} (h : VarC t w g cs) (k : Nat) (u : Value) : VarC t (w.setCell ⟨g, k, none⟩ u) g (cs.setIfInBounds k u) := by
  unfold VarC at h ⊢
  simp [World.setCell, Array.getElem?_modify, h]
theorem VarC.drew {t : TypeId} {w : World} {g : Nat} {cs : Array Value} (h : VarC t w g cs) : VarC t w.drew g cs := h
end Go.Proofs.YtfhdgcndiljjcabGreat

/- Contract of frame.filled: the table of the remainders of what a function value tells. -/
namespace Go.Proofs.YtfhdgcndiljjcabGreat
open Go.RowKit Go.WideShapes Go.ChangeShapes Go.ChangeAt
theorem lenRow_any (m : Int) (d i : Nat) (w : World) (hd : d ≤ 1000) (hi : i ≤ d) :
    Calls Tryz.prog 148 #[.agg #[.int .i64 m, .int .i64 d], .int .i64 i] w fun e w' => e = .returned (.int .i64 ((d - i + 1 : Nat) : Int)) ∧ Below w.heap.size w w' := by
  have HE := Lib.hid (show ((d - i + 1 : Nat) : Int) = (d : Int) - (i : Int) + 1 by omega)
  rw [HE.out]
  go_enter Tryz.func148, Tryz.ntmps148
  go_wp2
  go_ret
  exact ⟨rfl, below_one _ _⟩
theorem Span.setCell (lo hi : Nat) (w : World) (g i : Nat) (u : Value) (h1 : lo ≤ g) (h2 : g < hi) : Span lo hi w (w.setCell ⟨g, i, none⟩ u) :=
  Span.of_grown (grown_setCell w g i u) (fun b hb => by injection hb with hb; omega)
/-- the frame's box and the grid's variable of a call of filled -/
def FilV (w W : World) (m : Int) (d : Nat) : Prop :=
  VarC 53 W w.heap.size #[.int .i64 m, .int .i64 d] ∧ VarC 55 W (w.heap.size + 1) #[.int .i64 0, .int .i64 0, .slice none 0 0]
theorem FilV.keep {w W W' : World} {m : Int} {d : Nat} (h : FilV w W m d) (hb : Below W.heap.size W W') : FilV w W' m d := ⟨h.1.keep hb, h.2.keep hb⟩
theorem FilV.far {w W : World} {m : Int} {d : Nat} (h : FilV w W m d) (b i : Nat) (u : Value) (hne : w.heap.size + 2 ≤ b) : FilV w (W.setCell ⟨b, i, none⟩ u) m d := ⟨h.1.far b i u (by omega), h.2.far b i u (by omega)⟩
theorem FilV.c {w W : World} {m : Int} {d : Nat} (h : FilV w W m d) : W.cell? ⟨w.heap.size, 0, none⟩ = some (.int .i64 m) ∧ W.cell? ⟨w.heap.size, 1, none⟩ = some (.int .i64 d) := ⟨h.1.cell 0 _ rfl, h.1.cell 1 _ rfl⟩
theorem cut_stepL (m : Int) (d : Nat) (f : Nat → Int) (k n : Nat) (hn : n = d + 1) (h : k ≤ d) : ((Ser.cut m d f).take k ++ List.replicate (n - k) 0).set k (f k % m) = (Ser.cut m d f).take (k + 1) ++ List.replicate (n - (k + 1)) 0 := by
  subst hn; exact cut_step m d f k h
theorem row_len (m : Int) (d : Nat) (f : Nat → Int) (k : Nat) (h : k ≤ d + 1) : ((Ser.cut m d f).take k ++ List.replicate (d + 1 - k) 0).length = d + 1 := by
  have := Ser.cut_length m d f
  simp; omega
/-- three cells stored -/
def set3 (w : World) (g : Nat) (x y z : Value) : World := ((w.setCell ⟨g, 0, none⟩ x).setCell ⟨g, 1, none⟩ y).setCell ⟨g, 2, none⟩ z
theorem VarC.set3 {t : TypeId} {w : World} {g : Nat} {a b c : Value} (h : VarC t w g #[a, b, c]) (x y z : Value) : VarC t (set3 w g x y z) g #[x, y, z] := ((h.set 0 x).set 1 y).set 2 z
theorem grown_set3 (w : World) (g : Nat) (x y z : Value) : w.grownBy (set3 w g x y z) (some g) := grown_trans (grown_trans (grown_setCell w g 0 x) (grown_setCell _ g 1 y)) (grown_setCell _ g 2 z)
theorem below_set3 {B : Nat} {w w' : World} {g : Nat} (hb : Below B w w') (hg : B ≤ g) (x y z : Value) : Below B w (set3 w' g x y z) := ((hb.setCell hg x).setCell hg y).setCell hg z
/-- a grid is stored into its variable: what the return reads -/
theorem fin_grid {t : TypeId} {w w2 : World} {g lo hi : Nat} {v a b c : Value} {T : List (List Int)} (hv : VarC t w2 g #[a, b, c]) (ho : OwnR w2 lo hi v T) (hg : g < lo ∨ hi ≤ g) (hwg : w.heap.size ≤ g) (hhi : hi ≤ w2.heap.size) (hb : Below w.heap.size w w2) (p q r : Value) :
    (set3 w2 g p q r).cell? ⟨g, 0, none⟩ = some p ∧ (set3 w2 g p q r).cell? ⟨g, 1, none⟩ = some q ∧ (set3 w2 g p q r).cell? ⟨g, 2, none⟩ = some r ∧
    OwnR (set3 w2 g p q r) lo (set3 w2 g p q r).heap.size v T ∧ Below w.heap.size w (set3 w2 g p q r) := by
  have h := hv.set3 p q r
  refine ⟨h.cell 0 _ rfl, h.cell 1 _ rfl, h.cell 2 _ rfl, ?_, below_set3 hb hwg p q r⟩
  exact (ho.far (Span.of_grown (lo := g) (hi := g + 1) (grown_set3 w2 g p q r) (fun b hb => by injection hb with hb; omega)) (by omega)).more (Nat.le_trans hhi (grown_set3 w2 g p q r).size)
theorem kp_call {w w' : World} {a1 a2 : Addr} {x y : Value} (hb : Below w.heap.size w w') (hs : w.cell? a1 = some x ∧ w.cell? a2 = some y) : w'.cell? a1 = some x ∧ w'.cell? a2 = some y :=
  ⟨(hb.cell (World.block_lt_of_cell? w a1 hs.1)).trans hs.1, (hb.cell (World.block_lt_of_cell? w a2 hs.2)).trans hs.2⟩
theorem kp_store {w : World} {a1 a2 b : Addr} {x y u : Value} (h1 : b.block ≠ a1.block) (h2 : b.block ≠ a2.block) (hs : w.cell? a1 = some x ∧ w.cell? a2 = some y) : (w.setCell b u).cell? a1 = some x ∧ (w.setCell b u).cell? a2 = some y :=
  ⟨(World.cell?_of_block (w := w) (Below.heap_setCell w b u a1.block (fun e => h1 e.symm))).trans hs.1, (World.cell?_of_block (w := w) (Below.heap_setCell w b u a2.block (fun e => h2 e.symm))).trans hs.2⟩
set_option maxHeartbeats 4000000 in
set_option maxRecDepth 100000 in
theorem filled_any (m : Int) (d fn : Nat) (cap : Array Value) (f : Nat → Nat → Int) (w : World) (h1 : 1 ≤ m) (h2 : m ≤ 10000) (hd : d ≤ 1000) (hlo : ∀ i j, i + j ≤ d → -1000000000000 ≤ f i j ∧ f i j ≤ 1000000000000)
    (hen : ∀ (args : Array Value) (W : World), (callFunc fn args).run Tryz.prog W = .ok (.enter fn args) W)
    (hf : ∀ (i j : Nat) (W : World), i + j ≤ d → Below w.heap.size w W → Calls Tryz.prog fn (#[.int .i64 i, .int .i64 j] ++ cap) W fun e w' => e = .returned (.int .i64 (f i j)) ∧ Below W.heap.size W w') :
    Calls Tryz.prog 137 #[.agg #[.int .i64 m, .int .i64 d], .func (.func fn) #[] cap] w fun e w' => ∃ v, e = .returned (.agg #[.int .i64 m, .int .i64 d, v]) ∧ OwnR w' w.heap.size w'.heap.size v (Pl.tab m d f) ∧ Below w.heap.size w w' := by
  have HF := Lib.hid hf
  have HL := Lib.hid hlo
  clear hf hlo
  have hmk : ∀ W : World, (Instr.makeSlice 22 (.int .i64 ((d : Int) + 1)) (.int .i64 ((d : Int) + 1))).run Tryz.prog W = .ok (.slice (some ⟨W.heap.size, 0, none⟩) (d + 1) (d + 1)) (W.alloc (.cells (madeCells #[Value.slice none 0 0] (d + 1)) 26)) := by
    intro W
    have := run_make_row' (P := Tryz.prog) 22 26 (.slice none 0 0) 24 Tryz.underlying22 infoRow rfl .i64 .i64 (d + 1) (by omega) (by omega) W
    rwa [show ((d + 1 : Nat) : Int) = (d : Int) + 1 by omega] at this
  have hmk2 : ∀ (n : Nat) (W : World), n ≤ 1001 → (Instr.makeSlice 26 (.int .i64 (n : Int)) (.int .i64 (n : Int))).run Tryz.prog W = .ok (.slice (some ⟨W.heap.size, 0, none⟩) n n) (W.alloc (.cells (madeCells #[.int .i64 0] n) 2)) := by
    intro n W hn
    exact run_make_row' (P := Tryz.prog) 26 2 (.int .i64 0) 8 Tryz.underlying26 info64 rfl .i64 .i64 n (by omega) (by omega) W
  have HM2 := Lib.hid hmk2
  clear hmk2
  go_enter Tryz.func137, Tryz.ntmps137
  go_wp2
  go_loopw [15] (fun i wr => ∃ k : Nat, k ≤ d + 1 ∧ i = .int .i64 k ∧ OwnR wr (w.heap.size + 2) wr.heap.size (.slice (some ⟨w.heap.size + 1 + 1, 0, none⟩) (d + 1) (d + 1)) ((Pl.tab m d f).take k ++ List.replicate (d + 1 - k) []) ∧ FilV w wr m d ∧ Below w.heap.size w wr) (fun i _ => d + 1 - (intOf i).toNat)
  case atStart =>
    refine ⟨0, Nat.zero_le _, rfl, ?_, ⟨?_, ?_⟩, below_alloc _ (below_alloc _ (below_one _ _))⟩
    · have h := OwnR.made ((w.alloc (.cells #[.int .i64 m, .int .i64 d] 53)).alloc (.cells #[.int .i64 0, .int .i64 0, .slice none 0 0] 55)) (d + 1) (by unfold maxLen; omega)
      simpa using h
    · exact ((VarC.new 53 w _).keep (below_one _ _)).keep (below_one _ _)
    · have h := (VarC.new 55 (w.alloc (.cells #[.int .i64 m, .int .i64 d] 53)) #[.int .i64 0, .int .i64 0, .slice none 0 0]).keep (below_one _ (.cells (madeCells #[Value.slice none 0 0] (d + 1)) 26))
      simpa using h
  case round =>
    clear hmk
    obtain ⟨k, hk, rfl, hown, hvar, hbel⟩ := hrel
    have HV := Lib.hid hvar
    have HB := Lib.hid hbel
    have HO := Lib.hid hown
    clear hown hbel hvar
    by_cases hlt : k < d + 1
    · obtain ⟨v0, v1⟩ := HV.out.c
      have hkd : (k : Int) < (d : Int) + 1 := by omega
      go_wp2_with fail
      refine (lenRow_any m d k _ hd (by omega)).mono ?_
      rintro e w1 ⟨rfl, hb1⟩
      obtain ⟨N, hN⟩ : ∃ N, d - k + 1 = N := ⟨_, rfl⟩
      have hN1 : N ≤ 1001 := by omega
      have hmk := fun W => HM2.out N W hN1
      rw [hN]
      have HN := Lib.hid hN
      have HB1 := Lib.hid (HB.out.trans (hb1.mono HB.out.size))
      have hb2 := below_one w1 (.cells (madeCells #[.int .i64 0] N) 2)
      have hsz1 := hb1.size
      have ho1 := HO.out.keep (hb1.trans (hb2.mono hsz1))
      have hlen : k < ((Pl.tab m d f).take k ++ List.replicate (d + 1 - k) []).length := by have := Pl.tab_length m d f; simp; omega
      obtain ⟨_, o2, _, o4, _, _, o5, _⟩ := ho1.cell k hlen
      have hput := ho1.put k hlen (.slice (some ⟨w1.heap.size, 0, none⟩) N N) (List.replicate N 0) ((OwnI.made w1 N (by unfold maxLen; omega)).more (by omega))
        (hi' := w1.heap.size + 1) (fun b hb => by have : b = w1.heap.size := by simpa [Value.ownBlock] using hb.symm
                                                  omega) (by omega)
      rw [Pl.tab_step m d f k (by omega)] at hput
      have hv1 := ((HV.out.keep hb1).keep hb2).far (w.heap.size + 1 + 1) k (.slice (some ⟨w1.heap.size, 0, none⟩) N N) (by omega)
      have hbw : Below w.heap.size w ((w1.alloc (.cells (madeCells #[.int .i64 0] N) 2)).setCell ⟨w.heap.size + 1 + 1, k, none⟩ (.slice (some ⟨w1.heap.size, 0, none⟩) N N)) :=
        (below_step HB1.out hb2).setCell (by show w.heap.size ≤ w.heap.size + 1 + 1; omega) _
      obtain ⟨x0, x1⟩ := hv1.c
      obtain ⟨w3, hw3⟩ : ∃ w3, (w1.alloc (.cells (madeCells #[.int .i64 0] N) 2)).setCell ⟨w.heap.size + 1 + 1, k, none⟩ (.slice (some ⟨w1.heap.size, 0, none⟩) N N) = w3 := ⟨_, rfl⟩
      have hs3 : w1.heap.size + 1 = w3.heap.size := by rw [← hw3]; simp [World.setCell]
      rw [hw3] at hput hv1 hbw
      rw [hs3] at hput
      have HP := Lib.hid hput
      have HV3 := Lib.hid hv1
      have HB3 := Lib.hid hbw
      have HW3 := Lib.hid hw3
      clear hN hput hv1 hbw hw3 ho1 hb2 hlen hs3 hsz1 HB1 HV HB HO
      go_wp2_with fail
      rw [HW3.out]
      refine (lenRow_any m d k _ hd (by omega)).mono ?_
      rintro e w4 ⟨rfl, hb4⟩
      rw [HN.out]
      have HP4 := Lib.hid ((HP.out.keep hb4).more hb4.size)
      have HV4 := Lib.hid (HV3.out.keep hb4)
      have HB4 := Lib.hid (below_step HB3.out hb4)
      clear HP HV3 HB3 hb4 HW3 hmk v0 v1 x0 x1 hb1
      go_wp2
      go_loopw [28] (fun i wr => ∃ j : Nat, j ≤ N ∧ i = .int .i64 j ∧ OwnR wr (w.heap.size + 2) wr.heap.size (.slice (some ⟨w.heap.size + 1 + 1, 0, none⟩) (d + 1) (d + 1)) ((Pl.tab m d f).take k ++ (((Ser.cut m (d - k) (f k)).take j ++ List.replicate (N - j) 0) :: List.replicate (d + 1 - (k + 1)) [])) ∧ FilV w wr m d ∧ Below w.heap.size w wr) (fun i _ => N - (intOf i).toNat)
      case atStart => exact ⟨0, Nat.zero_le _, rfl, by simpa using HP4.out, HV4.out, HB4.out⟩
      case round =>
        clear HP4 HV4 HB4
        obtain ⟨j, hj, rfl, hown, hvar, hbel⟩ := hrel
        have HV := Lib.hid hvar
        have HB := Lib.hid hbel
        have HO := Lib.hid hown
        clear hown hbel hvar
        by_cases hjt : j < N
        · obtain ⟨v0, v1⟩ := HV.out.c
          have hNk := HN.out
          obtain ⟨q1, q2⟩ := HL.out k j (by omega)
          obtain ⟨F, hF⟩ : ∃ F, f k j = F := ⟨_, rfl⟩
          have hcl : ∀ W : World, Below wr.heap.size wr W → _ := fun W hW => HF.out k j W (by omega) (HB.out.trans (hW.mono HB.out.size))
          rw [hF] at q1 q2 hcl
          have HC := Lib.hid hcl
          have hTl : k < ((Pl.tab m d f).take k ++ (((Ser.cut m (d - k) (f k)).take j ++ List.replicate (N - j) 0) :: List.replicate (d + 1 - (k + 1)) [])).length := by rw [Pl.tab_mid_length m d f k (by omega)]; omega
          obtain ⟨b, c', g1, g2, g3, g4, hcel⟩ := HO.out.numB k j N hTl (by rw [Pl.tab_mid m d f k (by omega)]; have := row_len m (d - k) (f k) j (by omega); rw [hNk] at this; exact this) hjt
          have hset : ∀ _ : Nat, ((Pl.tab m d f).take k ++ (((Ser.cut m (d - k) (f k)).take j ++ List.replicate (N - j) 0) :: List.replicate (d + 1 - (k + 1)) [])).set k ((Pl.rw' ((Pl.tab m d f).take k ++ (((Ser.cut m (d - k) (f k)).take j ++ List.replicate (N - j) 0) :: List.replicate (d + 1 - (k + 1)) [])) k).set j (F % m)) =
              (Pl.tab m d f).take k ++ (((Ser.cut m (d - k) (f k)).take (j + 1) ++ List.replicate (N - (j + 1)) 0) :: List.replicate (d + 1 - (k + 1)) []) := by
            intro _
            rw [Pl.tab_mid m d f k (by omega), Pl.tab_step2 m d f k (by omega), ← hF, cut_stepL m (d - k) (f k) j N hNk.symm (by omega)]
          have hcell2 : ∀ W, Below wr.heap.size wr W → (W.cell? ⟨w.heap.size + 1 + 1, k, none⟩ = some (.slice (some ⟨b, 0, none⟩) N c') ∧ (∃ y, W.cell? ⟨b, j, none⟩ = some (.int .i64 y)) ∧ W.frozen? ⟨b, j, none⟩ = false ∧
              OwnR (W.setCell ⟨b, j, none⟩ (.int .i64 (F % m))) (w.heap.size + 2) wr.heap.size (.slice (some ⟨w.heap.size + 1 + 1, 0, none⟩) (d + 1) (d + 1)) ((Pl.tab m d f).take k ++ (((Ser.cut m (d - k) (f k)).take (j + 1) ++ List.replicate (N - (j + 1)) 0) :: List.replicate (d + 1 - (k + 1)) []))) := by
            intro W hW
            obtain ⟨c1, c2, c3, c4⟩ := hcel W hW
            have := c4 (F % m)
            rw [hset 0] at this
            exact ⟨c1, ⟨_, c2⟩, c3, this⟩
          have HCE := Lib.hid hcell2
          obtain ⟨c1, _⟩ := hcell2 wr (Below.refl _ _)
          have i1 : (0 : Int) ≤ (j : Int) := by omega
          have i2 : (j : Int) < (N : Int) := by omega
          have i3 : (0 : Int) ≤ (k : Int) := by omega
          have l1 : w.heap.size < wr.heap.size := HV.out.1.lt
          clear hF hcl hTl hcel hset hcell2 hNk
          go_wp2
          go_region_held3 (fun w' => w'.cell? ⟨w.heap.size, 0, none⟩ = some (.int .i64 m) ∧ w'.cell? ⟨w.heap.size + 1 + 1, k, none⟩ = some (.slice (some ⟨b, 0, none⟩) N c')) (first | exact ⟨v0, c1⟩ | exact kp_call hb5 ⟨v0, c1⟩ | exact kp_store (by show b ≠ w.heap.size; omega) g4 (by assumption)) (first
            | (go_at_call 142; refine (remainder_any _ _ _ h1 h2 q1 q2).mono ?_; rintro e w' ⟨rfl, rfl⟩)
            | (refine (HC.out _ (below_drew0 _)).mono ?_; rintro e w5 ⟨rfl, hb5⟩; obtain ⟨_, ⟨y0, s2⟩, s3, s4⟩ := HCE.out w5 (below_step (below_drew0 _) hb5)))
          all_goals
            have k1 := s4.more (show wr.heap.size ≤ (w5.setCell ⟨b, j, none⟩ (.int .i64 (F % m))).heap.size by have := hb5.size; simp only [World.setCell, Array.size_modify]; exact this)
            have k2 := (HV.out.keep (below_step (below_drew0 _) hb5)).far b j (.int .i64 (F % m)) g2
            have k3 := (below_step HB.out (below_step (below_drew0 wr) hb5)).setCell (p := ⟨b, j, none⟩) (by show w.heap.size ≤ b; omega) (.int .i64 (F % m))
            have K1 := Lib.hid k1
            have K2 := Lib.hid k2
            have K3 := Lib.hid k3
            clear k1 k2 k3 s4 HCE HC hb5 s2 s3
            go_wp2
            go_roundw
            case rel => exact ⟨j + 1, by omega, by go_num, K1.out, K2.out, K3.out⟩
            case measure => simp only [intOf]; omega
        · obtain rfl : j = N := by omega
          have ho := HO.out
          have hNk := HN.out
          rw [List.take_of_length_le (l := Ser.cut m (d - k) (f k)) (by rw [Ser.cut_length]; omega), Nat.sub_self, List.replicate_zero, List.append_nil, Pl.tab_done m d f k (by omega)] at ho
          have HO2 := Lib.hid ho
          clear ho HO hNk
          go_wp2
          go_roundw
          case rel => exact ⟨k + 1, by omega, by go_num, HO2.out, HV.out, HB.out⟩
          case measure => simp only [intOf]; omega
    · obtain rfl : k = d + 1 := by omega
      have ho := HO.out
      rw [Pl.tab_take_all, Nat.sub_self, List.replicate_zero, List.append_nil] at ho
      obtain ⟨v0, v1⟩ := HV.out.c
      have hv := HV.out.2
      have q3 := hv.fz 0
      have q4 := hv.fz 1
      have q5 := hv.fz 2
      have q6 := hv.cell 0 _ rfl
      have q7 := hv.cell 1 _ rfl
      have q8 := hv.cell 2 _ rfl
      simp only [List.getElem_toArray, List.getElem_cons_zero, List.getElem_cons_succ] at q6 q7 q8
      obtain ⟨f0, f1, f2, f3, f4⟩ := fin_grid (w := w) hv ho (by omega) (by omega) (Nat.le_refl _) HB.out (.int .i64 m) (.int .i64 d) (.slice (some ⟨w.heap.size + 1 + 1, 0, none⟩) (d + 1) (d + 1))
      have F3 := Lib.hid f3
      have F4 := Lib.hid f4
      unfold set3 at f0 f1 f2
      clear f3 f4 ho hv HO HV HB
      go_wp2
      refine bodyPost_ret (v := .agg #[.int .i64 m, .int .i64 d, .slice (some ⟨w.heap.size + 1 + 1, 0, none⟩) (d + 1) (d + 1)]) (by simp [results, Tryz.results137, go_sem, f0, f1, f2]) rfl ⟨_, rfl, F3.out.low (by omega), F4.out⟩
end Go.Proofs.YtfhdgcndiljjcabGreat

