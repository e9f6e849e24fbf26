/- Texts of contracts, joined. -/
import Derived.Test.YtfhdgcndiljjcabGreatMgaa
import Derived.Test.YtfhdgcndiljjcabGreatMgau
import Derived.Deep.LoopGhost
import Derived.LoopN
import Derived.WalkMore
import Derived.Outline
import Derived.Test.YtfhdgcndiljjcabGreatMgaq
import Derived.Test.YtfhdgcndiljjcabGreatMgas
import Derived.Test.YtfhdgcndiljjcabGreatMgah
import Derived.Test.YtfhdgcndiljjcabGreatMgab
import Derived.Test.YtfhdgcndiljjcabGreatMgad
import Derived.Test.YtfhdgcndiljjcabGreatMgaf
import Derived.Deep.QuietTactic
import Derived.BigQuiet
/- Contracts of the two trial divisions. -/
namespace Go.Proofs.YtfhdgcndiljjcabGreat
open Go.RowKit Go.WideShapes Go.ChangeShapes Go.ChangeAt
theorem idx0 (x y : Value) (w : World) : (Instr.index 120 (.agg #[x, y]) (.int .i64 0)).run Tryz.prog w = .ok x w := by kernel_rfl
theorem idx1 (x y : Value) (w : World) : (Instr.index 120 (.agg #[x, y]) (.int .i64 1)).run Tryz.prog w = .ok y w := by kernel_rfl
set_option maxHeartbeats 1000000 in
theorem isPrime_any (n : Int) (w : World) (h2 : n ≤ 1000000000000) :
    Calls Tryz.prog 93 #[.int .i64 n] w fun e w' => e = .returned (.bool (Num.prB n)) ∧ w = w' := by
  by_cases h4 : n < 4
  · have HF := Lib.hid (Num.prB_small h4)
    go_enter Tryz.func93, Tryz.ntmps93
    go_wp2
    go_step3
    go_wp2
    rw [Exit.noGoto_ret]
    go_ret
    exact ⟨ret_bool (by rw [HF.out]), rfl⟩
  · have i0 := idx0
    have i1 := idx1
    by_cases hz2 : n % 2 = 0
    · have HF := Lib.hid (Num.prB_no (n := n) 2 (by omega) (by omega) hz2)
      go_enter Tryz.func93, Tryz.ntmps93
      go_wp2
      go_step3
      go_wp2
      go_step3
      go_wp2
      refine wp_loop_rounds 1 ?_
      rw [rounds_succ]
      go_wp2
      rw [Exit.noGoto_ret]
      go_ret
      exact ⟨ret_bool HF.out.symm, rfl⟩
    · by_cases hz3 : n % 3 = 0
      · have HF := Lib.hid (Num.prB_no (n := n) 3 (by omega) (by omega) hz3)
        go_enter Tryz.func93, Tryz.ntmps93
        go_wp2
        go_step3
        go_wp2
        go_step3
        go_wp2
        refine wp_loop_rounds 1 ?_
        rw [rounds_succ]
        go_wp2
        rw [Exit.noGoto_ret]
        go_ret
        exact ⟨ret_bool HF.out.symm, rfl⟩
      · have HS := Lib.hid (Num.LowI.start hz2 hz3)
        have HP := Lib.hid (show (n % 2 != 0 && n % 3 != 0) = true by simp [hz2, hz3])
        go_enter Tryz.func93, Tryz.ntmps93
        go_wp2
        go_step3
        go_wp2
        go_step3
        go_wp2
        clear hz2 hz3
        go_loopg [3, 4] 1000100 (fun g p m wr => w = wr ∧ ∃ M : Nat, p = .bool true ∧ m = .int .i64 M ∧ 6 ≤ M ∧ M ≤ 1000008 ∧ M % 6 = 0 ∧ g + M = 1000106 ∧ Num.LowI (M - 1) n)
        case atStart => exact ⟨rfl, 6, by rw [HP.out], rfl, by omega, by omega, by omega, by omega, HS.out⟩
        case round =>
          obtain ⟨rfl, M, rfl, rfl, m1, m2, m6, hg, hlow⟩ := hrel
          have HL := Lib.hid hlow
          have HG := Lib.hid hg
          have H6 := Lib.hid m6
          clear hlow hg m6
          obtain ⟨p1, p2⟩ := Num.sq_le (d := (M : Int) - 1) (c := 1000007) (by omega) (by omega)
          have p3 : ((M : Int) - 1) * (M - 1) ≤ 1000014000049 := by omega
          clear p2
          by_cases hsq : ((M : Int) - 1) * (M - 1) ≤ n
          · have hlin := Num.lin_sq (d := (M : Int) - 1) (k := 5) (by omega) (by omega)
            by_cases ha : n % ((M : Int) - 1) = 0
            · have HF := Lib.hid (Num.prB_no (n := n) (M - 1) (by omega) (by omega) (by rw [← ha]; congr 1; omega))
              have ha' : (n % ((M : Int) - 1) == 0) = true := by simpa using ha
              clear ha
              go_wp2
              refine wp_loop_rounds 3 ?_
              rw [rounds_succ]
              go_wp2
              rw [Exit.noGoto_ret]
              go_ret
              exact ⟨ret_bool HF.out.symm, rfl⟩
            · have ha' : (n % ((M : Int) - 1) == 0) = false := by simpa using ha
              by_cases hb : n % ((M : Int) + 1) = 0
              · have HF := Lib.hid (Num.prB_no (n := n) (M + 1) (by omega) (by omega) (by rw [← hb]; congr 1))
                have hb' : (n % ((M : Int) + 1) == 0) = true := by simpa using hb
                clear ha hb
                go_wp2
                refine wp_loop_rounds 3 ?_
                rw [rounds_succ]
                go_wp2
                rw [rounds_succ]
                go_wp2
                rw [Exit.noGoto_ret]
                go_ret
                exact ⟨ret_bool HF.out.symm, rfl⟩
              · have HN := Lib.hid (Num.LowI.six HL.out m1 H6.out ha hb)
                have hb' : (n % ((M : Int) + 1) == 0) = false := by simpa using hb
                have hM : M ≤ 1000002 := by
                  apply Nat.le_of_not_lt; intro hlt
                  have := Num.sq_le (d := 1000002) (c := (M : Int) - 1) (by omega) (by omega)
                  omega
                clear ha hb
                go_wp2
                refine wp_loop_rounds 3 ?_
                rw [rounds_succ]
                go_wp2
                rw [rounds_succ]
                go_wp2
                rw [rounds_succ]
                go_wp2
                have hG := HG.out
                go_roundg (gk - 6)
                case measure => omega
                case rel => exact ⟨rfl, M + 6, by first | rfl | rw [HP.out], by go_num, by omega, by omega, by have := H6.out; omega, by omega, HN.out⟩
          · have HF := Lib.hid (Num.LowI.prime (d := M - 1) HL.out (by omega) (by rw [show ((M - 1 : Nat) : Int) = (M : Int) - 1 from by omega]; omega))
            go_wp2
            go_ret
            exact ⟨ret_bool HF.out.symm, rfl⟩
end Go.Proofs.YtfhdgcndiljjcabGreat

/- Contracts of the codes of chapter 9: a prime number, a modulus, parameters. -/
namespace Go.Proofs.YtfhdgcndiljjcabGreat
open Go.RowKit Go.WideShapes Go.ChangeShapes Go.ChangeAt
/-- one of the four primes -/
def isP4 (p : Int) : Bool := decide (p = 2 ∨ p = 3 ∨ p = 5 ∨ p = 7)
theorem isP4_iff (p : Int) : isP4 p = true ↔ p = 2 ∨ p = 3 ∨ p = 5 ∨ p = 7 := by simp [isP4]
theorem isP4_prB {p : Int} (h : p ≤ 7) : Num.prB p = isP4 p := by
  by_cases h0 : p < 4
  · rw [Num.prB_small h0, Bool.eq_iff_iff, decide_eq_true_iff, isP4_iff]; omega
  · rcases (show p = 4 ∨ p = 5 ∨ p = 6 ∨ p = 7 by omega) with rfl | rfl | rfl | rfl <;> decide
theorem isTypicalPrime_any (p : Int) (w : World) :
    Calls Tryz.prog 58 #[.int .i64 p] w fun e w' => e = .returned (.bool (isP4 p)) ∧ w = w' := by
  by_cases h : p ≤ 7
  · have HP := Lib.hid (isP4_prB h)
    have h2 : p ≤ 1000000000000 := by omega
    go_enter Tryz.func58, Tryz.ntmps58
    go_wp2_with (go_at_call 93; refine (isPrime_any _ _ h2).mono ?_; rintro e w' ⟨rfl, rfl⟩)
    go_ret
    exact ⟨ret_bool HP.out, rfl⟩
  · have HP := Lib.hid (show isP4 p = false by rw [← Bool.not_eq_true, isP4_iff]; omega)
    go_enter Tryz.func58, Tryz.ntmps58
    go_wp2
    go_ret
    exact ⟨ret_bool HP.out.symm, rfl⟩
theorem l09Prime_any (p : Int) (w : World) :
    Calls Tryz.prog 47 #[.int .i64 p] w fun e w' => e = .returned (.bool (isP4 p)) ∧ w = w' := by
  have HP := Lib.hid (show (p == 2 || p == 3 || p == 5 || p == 7) = isP4 p by
    rw [Bool.eq_iff_iff, isP4_iff]
    simp only [Bool.or_eq_true, beq_iff_eq]
    omega)
  go_enter Tryz.func47, Tryz.ntmps47
  go_wp2
  all_goals
    go_ret
    exact ⟨ret_bool (by first | exact HP.out | (rw [← HP.out]; simp [*])), rfl⟩
end Go.Proofs.YtfhdgcndiljjcabGreat

/- Contracts of what TypicalParameters of the program calls: cut, excess, isPowerOf, codeOfLawAndPrime. -/
namespace Go.Proofs.YtfhdgcndiljjcabGreat
open Go Go.RowKit Go.WideShapes Go.ChangeShapes Go.ChangeAt
theorem tk_end {p n : Nat} (hp : 2 ≤ p) : ∀ h : Nat, n % p ≠ 0 → (tk (p : Int) ((n * p ^ h : Nat) : Int)).2 = (n : Int)
  | 0, hn => by
    rw [Nat.pow_zero, Nat.mul_one, tk_no (by
      have : ((n : Nat) : Int).tmod (p : Int) = ((n % p : Nat) : Int) := rfl
      rw [this]; omega)]
  | h + 1, hn => by
    have e0 : n * p ^ (h + 1) = n * p ^ h * p := by rw [Nat.pow_succ, Nat.mul_assoc]
    have hn0 : n ≠ 0 := by rintro rfl; simp at hn
    have hne : ((n * p ^ (h + 1) : Nat) : Int) ≠ 0 := by
      have : 0 < n * p ^ (h + 1) := Nat.mul_pos (by omega) (Nat.pow_pos (by omega))
      omega
    have e1 : ((n * p ^ (h + 1) : Nat) : Int).tmod (p : Int) = 0 := by
      have : ((n * p ^ (h + 1) : Nat) : Int).tmod (p : Int) = ((n * p ^ (h + 1) % p : Nat) : Int) := rfl
      rw [this, e0, Nat.mul_mod_left]; rfl
    have e2 : ((n * p ^ (h + 1) : Nat) : Int).tdiv (p : Int) = ((n * p ^ h : Nat) : Int) := by
      have : ((n * p ^ (h + 1) : Nat) : Int).tdiv (p : Int) = ((n * p ^ (h + 1) / p : Nat) : Int) := rfl
      rw [this, e0, Nat.mul_div_cancel _ (by omega)]
    rw [tk_yes (by omega) hne e1, e2]
    exact tk_end hp h hn
/-- how a number up to 10 is a power times the rest -/
theorem tk_split : ∀ p ∈ [2, 3, 5, 7], ∀ n ∈ List.range 11, 2 ≤ n → ∃ h ∈ List.range 4, ∃ r ∈ List.range 11, n = r * p ^ h ∧ r % p ≠ 0 ∧ (isPw p n = true ↔ r = 1) := by decide
theorem tk_pw {p n : Nat} (hp : p = 2 ∨ p = 3 ∨ p = 5 ∨ p = 7) (n2 : 2 ≤ n) (hn : n ≤ 10) : (((tk (p : Int) (n : Int)).2 == 1) : Bool) = isPw p n := by
  obtain ⟨h, -, r, -, e, hr, hw⟩ := tk_split p (in4 hp) n (List.mem_range.2 (by omega)) n2
  rw [e, tk_end (by omega) h hr, ← e, Bool.eq_iff_iff, hw, beq_iff_eq]
  omega
theorem isPowerOf_any (p n : Nat) (w : World) (hp : p = 2 ∨ p = 3 ∨ p = 5 ∨ p = 7) (n2 : 2 ≤ n) (hn : n ≤ 10) :
    Calls Tryz.prog 38 #[.int .i64 p, .int .i64 n] w fun e w' => e = .returned (.bool (isPw p n)) ∧ w = w' := by
  have HT := Lib.hid (takeOut_any p n w (by omega) (by omega) (by omega) (by omega) (by omega))
  have HE := Lib.hid (tk_pw hp n2 hn)
  obtain ⟨⟨a, b⟩, hQ⟩ : ∃ Q, tk (p : Int) (n : Int) = Q := ⟨_, rfl⟩
  rw [hQ] at HT HE
  clear hQ hp
  go_enter Tryz.func38, Tryz.ntmps38
  go_wp2_with fail
  refine HT.out.mono ?_
  rintro e w1 ⟨rfl, rfl⟩
  go_wp2
  go_ret
  exact ⟨by rw [← HE.out]; rfl, rfl⟩
set_option maxHeartbeats 4000000 in
set_option maxRecDepth 100000 in
theorem cut_any (m : Int) (d : Nat) (A : Option Addr) (c : Nat) (t : List (List Int)) (n : Nat) (w : World) (ok : Pl.Ok m d t) (hr : RP w A t) (hn : n ≤ d) :
    Calls Tryz.prog 94 #[.agg #[.int .i64 m, .int .i64 d, .slice A t.length c], .int .i64 n] w fun e w' => ∃ v, e = .returned (.agg #[.int .i64 m, .int .i64 n, v]) ∧ OwnR w' w.heap.size w'.heap.size v (Pl.tab m n (Pl.pc t)) ∧ Below w.heap.size w w' := by
  obtain ⟨W, hW⟩ : ∃ W, (w.alloc (.cells #[.int .i64 m, .int .i64 d, .slice A t.length c] 57)).alloc (.cells #[.int .i64 0, .int .i64 0, .slice none 0 0] 57) = W := ⟨_, rfl⟩
  have b1 : GBox W w.heap.size m d A t.length c := by rw [← hW]; exact (GBox.new _ _ _ _ _ _ _).keep (below_one _ _)
  have v2 : VarC 57 W (w.heap.size + 1) #[.int .i64 0, .int .i64 0, .slice none 0 0] := by
    rw [← hW]
    have := VarC.new 57 (w.alloc (.cells #[.int .i64 m, .int .i64 d, .slice A t.length c] 57)) #[.int .i64 0, .int .i64 0, .slice none 0 0]
    simpa using this
  have hwb : Below w.heap.size w W := by rw [← hW]; exact below_alloc _ (below_one _ _)
  have V2 := Lib.hid v2
  have HB := Lib.hid hwb
  have HW := Lib.hid hW
  have m1 := ok.m1
  have m2 := ok.m2
  have HWI := Lib.hid (within_any m d A c t m n W ok (hr.below hwb) (by omega) (by omega) hn)
  obtain ⟨T, hT⟩ : ∃ T, Pl.tab m n (Pl.pc t) = T := ⟨_, rfl⟩
  rw [hT] at HWI ⊢
  obtain ⟨L, hL⟩ : ∃ L, t.length = L := ⟨_, rfl⟩
  rw [hL] at HWI HW b1 ⊢
  have hsz := v2.lt
  obtain ⟨x1, x2, x3, -⟩ := b1
  clear v2 hwb hW hr ok hT hL
  go_enter Tryz.func94, Tryz.ntmps94
  go_wp2_with fail
  rw [HW.out]
  go_wp2_with fail
  refine HWI.out.mono ?_
  rintro e w1 ⟨v, rfl, ho, hb1⟩
  obtain ⟨A2, c2, rfl, -⟩ := ho.len
  have hv := V2.out.keep hb1
  obtain ⟨q0, q1, q2, q3, q4, q5⟩ := hv.tells3
  obtain ⟨f0, f1, f2, f3, f4⟩ := fin_grid (w := w) hv ho (.inl (by omega)) (by omega) (Nat.le_refl _) (below_step HB.out hb1) (.int .i64 m) (.int .i64 n) (.slice A2 T.length c2)
  unfold set3 at f0 f1 f2 f3 f4
  have F3 := Lib.hid (f3.low (show w.heap.size ≤ W.heap.size from HB.out.size))
  have F4 := Lib.hid f4
  clear f3 f4 hv hb1 ho
  go_wp2
  exact bodyPost_ret (v := .agg #[.int .i64 m, .int .i64 n, .slice A2 T.length c2]) (by simp [results, Tryz.results94, go_sem, f0, f1, f2]) rfl ⟨_, rfl, F3.out, F4.out⟩
/-- the code of a law and a prime number -/
def codeLP (m : Int) (t : List (List Int)) (p : Int) : Int := if isL m t = true then (if isP4 p = true then 0 else 2) else 1
set_option maxHeartbeats 4000000 in
theorem codeOfLawAndPrime_any (m : Int) (A : Option Addr) (c : Nat) (t : List (List Int)) (p : Int) (w : World) (hz : szT t ≤ 1048576) (hr : RP w A t) :
    Calls Tryz.prog 30 #[.agg #[.int .i64 m, .slice A t.length c], .int .i64 p] w fun e w' => e = .returned (.int .i64 (codeLP m t p)) ∧ Below w.heap.size w w' := by
  obtain ⟨W, hW, b1, b4, hwb⟩ := startB2 29 29 w m A t.length c m A t.length c
  have HB := Lib.hid hwb
  have HW := Lib.hid hW
  have hc := codeL1_any (w.heap.size + 1) m A c t W hz (hr.below hwb) b4
  unfold codeL1 at hc
  have HP := Lib.hid (fun W0 => isTypicalPrime_any p W0)
  unfold codeLP
  obtain ⟨x1, x2, x3⟩ := b1
  clear b4 hwb hW hr hz
  by_cases h0 : isL m t = true
  · rw [if_pos h0] at hc ⊢
    have HC0 := Lib.hid hc
    clear hc
    by_cases hp : isP4 p = true
    · rw [if_pos hp]
      rw [hp] at HP
      clear h0 hp
      go_enter Tryz.func30, Tryz.ntmps30
      go_wp2_with fail
      rw [HW.out]
      refine HC0.out.mono ?_
      rintro e w1 ⟨rfl, hb1⟩
      go_wp2_with fail
      refine (HP.out _).mono ?_
      rintro e w' ⟨rfl, rfl⟩
      go_wp2
      go_ret
      exact ⟨rfl, below_step HB.out hb1⟩
    · rw [if_neg hp]
      rw [show isP4 p = false by simpa using hp] at HP
      clear h0 hp
      go_enter Tryz.func30, Tryz.ntmps30
      go_wp2_with fail
      rw [HW.out]
      refine HC0.out.mono ?_
      rintro e w1 ⟨rfl, hb1⟩
      go_wp2_with fail
      refine (HP.out _).mono ?_
      rintro e w' ⟨rfl, rfl⟩
      go_wp2
      go_ret
      exact ⟨rfl, below_step HB.out hb1⟩
  · rw [if_neg h0] at hc ⊢
    have HC0 := Lib.hid hc
    clear hc h0 HP
    go_enter Tryz.func30, Tryz.ntmps30
    go_wp2_with fail
    rw [HW.out]
    refine HC0.out.mono ?_
    rintro e w1 ⟨rfl, hb1⟩
    go_wp2
    go_ret
    exact ⟨rfl, below_step HB.out hb1⟩
end Go.Proofs.YtfhdgcndiljjcabGreat

/- Plain, for TypicalLaw: the degrees in which the typical law has terms. -/
namespace Go.Proofs.YtfhdgcndiljjcabGreat
namespace Tyc
/-- the law's table is empty outside the degrees n for which p - 1 divides n - 1 -/
def suppOk (p : Nat) : Bool := (List.range 11).all fun i => (List.range 11).all fun j => !(decide (i + j ≤ 10 ∧ (i + j) % (p - 1) ≠ 1 % (p - 1))) || (get (FLp p) i j).isEmpty
theorem supp_all : ∀ p ∈ [2, 3, 5, 7], suppOk p = true := by decide
theorem fam_supp {p : Nat} (hp : p = 2 ∨ p = 3 ∨ p = 5 ∨ p = 7) (v : Nat → Int) {i j : Nat} (h : i + j ≤ 10) (hn : (i + j) % (p - 1) ≠ 1 % (p - 1)) : fam p v i j = 0 := by
  have h1 := supp_all p (by simp; exact hp)
  unfold suppOk at h1
  have h2 := (List.all_eq_true.1 ((List.all_eq_true.1 h1) i (List.mem_range.2 (by omega)))) j (List.mem_range.2 (by omega))
  rw [decide_eq_true (show i + j ≤ 10 ∧ (i + j) % (p - 1) ≠ 1 % (p - 1) from ⟨h, hn⟩)] at h2
  have h3 : get (FLp p) i j = [] := by simpa using h2
  unfold fam evT
  rw [h3]
  rfl
/-- b is a with the terms of degree q + r t times P^t, and a has no others -/
def Hom (r : Nat) (P : Int) (n q : Nat) (a b : Nat → Nat → Int) : Prop := ∀ i j, i + j ≤ n → (a i j = 0 ∧ b i j = 0) ∨ ∃ t, i + j = q + r * t ∧ b i j = a i j * P ^ t
theorem psum_nil {f : Nat → Int} (n : Nat) (h : ∀ i, i < n → f i = 0) : Ser.psum f n = 0 := (Ser.psum_ext n h).trans (Ser.psum_zero n)
theorem Hom.mul {r : Nat} {P : Int} {n q q' : Nat} {a b a' b' : Nat → Nat → Int} (hr : 1 ≤ r) (h : Hom r P n q a b) (k : Hom r P n q' a' b') : Hom r P n (q + q') (Pl.mul2 a a') (Pl.mul2 b b') := by
  intro i j hij
  by_cases ht : ∃ t, i + j = q + q' + r * t
  · obtain ⟨t, ht⟩ := ht
    refine .inr ⟨t, ht, ?_⟩
    unfold Pl.mul2
    rw [← Ser.psum_mul']
    refine Ser.psum_ext _ (fun x hx => ?_)
    rw [← Ser.psum_mul']
    refine Ser.psum_ext _ (fun y hy => ?_)
    rcases h x y (by omega) with ⟨e1, e2⟩ | ⟨t1, e1, e2⟩
    · rw [e1, e2, Int.zero_mul, Int.zero_mul, Int.zero_mul]
    · rcases k (i - x) (j - y) (by omega) with ⟨f1, f2⟩ | ⟨t2, f1, f2⟩
      · rw [f1, f2, Int.mul_zero, Int.mul_zero, Int.zero_mul]
      · have hs : t = t1 + t2 := by
          have : r * t = r * (t1 + t2) := by rw [Nat.mul_add]; omega
          exact Nat.eq_of_mul_eq_mul_left (by omega) this
        rw [e2, f2, hs, Int.pow_add]
        grind
  · have key : ∀ x y, x ≤ i → y ≤ j → (a x y = 0 ∧ b x y = 0) ∨ (a' (i - x) (j - y) = 0 ∧ b' (i - x) (j - y) = 0) := by
      intro x y hx hy
      rcases h x y (by omega) with e | ⟨t1, e1, -⟩
      · exact .inl e
      · rcases k (i - x) (j - y) (by omega) with f | ⟨t2, f1, -⟩
        · exact .inr f
        · exact absurd ⟨t1 + t2, by rw [Nat.mul_add]; omega⟩ ht
    refine .inl ⟨?_, ?_⟩
    · refine psum_nil _ (fun x hx => psum_nil _ (fun y hy => ?_))
      rcases key x y (by omega) (by omega) with e | e
      · rw [e.1, Int.zero_mul]
      · rw [e.1, Int.mul_zero]
    · refine psum_nil _ (fun x hx => psum_nil _ (fun y hy => ?_))
      rcases key x y (by omega) (by omega) with e | e
      · rw [e.2, Int.zero_mul]
      · rw [e.2, Int.mul_zero]
theorem Hom.pw {r : Nat} {P : Int} {n : Nat} {F G : Nat → Nat → Int} (hr : 1 ≤ r) (h : Hom r P n 1 F G) : ∀ q, Hom r P n q (Pl.pwF F q) (Pl.pwF G q)
  | 0 => by
    intro i j _
    show (Pl.one2 1 i j = 0 ∧ Pl.one2 1 i j = 0) ∨ ∃ t, i + j = 0 + r * t ∧ Pl.one2 1 i j = Pl.one2 1 i j * P ^ t
    by_cases h0 : i = 0 ∧ j = 0
    · exact .inr ⟨0, by omega, by rw [Int.pow_zero, Int.mul_one]⟩
    · unfold Pl.one2
      rw [if_neg h0]
      exact .inl ⟨rfl, rfl⟩
  | q + 1 => Hom.mul hr (Hom.pw hr h q) h
theorem fam_00 {p : Nat} (hp : p = 2 ∨ p = 3 ∨ p = 5 ∨ p = 7) (v : Nat → Int) : fam p v 0 0 = 0 := by
  have h : get (FLp p) 0 0 = [] := by rcases hp with rfl | rfl | rfl | rfl <;> rfl
  unfold fam evT
  rw [h]
  rfl
/-- the whole law, stretched -/
def famS (p : Nat) (v : Nat → Int) : Nat → Nat → Int := fun i j => fam p v i j * (p : Int) ^ ((i + j - 1) / (p - 1))
theorem fam_hom {p : Nat} (hp : p = 2 ∨ p = 3 ∨ p = 5 ∨ p = 7) (v : Nat → Int) : Hom (p - 1) p 10 1 (fam p v) (famS p v) := by
  intro i j hij
  unfold famS
  by_cases h0 : i + j = 0
  · obtain ⟨rfl, rfl⟩ : i = 0 ∧ j = 0 := by omega
    rw [fam_00 hp]
    exact .inl ⟨rfl, Int.zero_mul _⟩
  · by_cases hn : (i + j) % (p - 1) = 1 % (p - 1)
    · refine .inr ⟨(i + j - 1) / (p - 1), ?_, rfl⟩
      rcases hp with rfl | rfl | rfl | rfl <;> omega
    · rw [fam_supp hp v hij hn]
      exact .inl ⟨rfl, Int.zero_mul _⟩
/-- the stretched weight of p^e -/
def wtS (p e : Nat) : Nat := p ^ ((p ^ e - 1) / (p - 1)) / p ^ e
theorem wtS_mul : ∀ p ∈ [2, 3, 5, 7], ∀ e ∈ List.range 4, e ≤ n10 p → wtS p e * p ^ e = p ^ ((p ^ e - 1) / (p - 1)) ∧ p ^ e = 1 + (p - 1) * ((p ^ e - 1) / (p - 1)) := by decide
theorem n10_le : ∀ p ∈ [2, 3, 5, 7], n10 p ≤ 3 := by decide
/-- Hazewinkel's theorem, stretched: whole coefficients -/
theorem stretched {p : Nat} (hp : p = 2 ∨ p = 3 ∨ p = 5 ∨ p = 7) (v : Nat → Int) {i j : Nat} (h1 : 1 ≤ i) (h2 : 1 ≤ j) (h3 : i + j ≤ 10) :
    Ser.psum (fun e => Nmr.num p v e * (wtS p e : Int) * Pl.pwF (famS p v) (p ^ e) i j) (n10 p + 1) = 0 := by
  have hin : p ∈ [2, 3, 5, 7] := by simp; exact hp
  have hr : 1 ≤ p - 1 := by omega
  have hH := Hom.pw hr (fam_hom hp v)
  have hp0 : (p : Int) ^ n10 p ≠ 0 := Int.pow_ne_zero (by omega)
  have key : ∀ e, e < n10 p + 1 → Nmr.num p v e * (wtS p e : Int) * Pl.pwF (famS p v) (p ^ e) i j * (p : Int) ^ n10 p = (p : Int) ^ ((i + j - 1) / (p - 1)) * ((p : Int) ^ (n10 p - e) * Nmr.num p v e * Pl.pwF (fam p v) (p ^ e) i j) := by
    intro e he
    have hn := n10_le p hin
    obtain ⟨w1, w2⟩ := wtS_mul p hin e (List.mem_range.2 (by omega)) (by omega)
    obtain ⟨u, hu⟩ : ∃ u, (p ^ e - 1) / (p - 1) = u := ⟨_, rfl⟩
    rw [hu] at w1 w2
    have w3 : (wtS p e : Int) * (p : Int) ^ e = (p : Int) ^ u := by exact_mod_cast w1
    have w4 : (p : Int) ^ n10 p = (p : Int) ^ (n10 p - e) * (p : Int) ^ e := by rw [← Int.pow_add]; congr 1; omega
    rcases hH (p ^ e) i j h3 with ⟨e1, e2⟩ | ⟨t, e1, e2⟩
    · rw [e1, e2]
      simp
    · have hs : (i + j - 1) / (p - 1) = t + u := by
        have : i + j - 1 = (p - 1) * (t + u) := by rw [Nat.mul_add]; omega
        rw [this, Nat.mul_div_cancel_left _ (by omega)]
      rw [e2, hs, Int.pow_add, w4, ← w3]
      grind
  have hz := hazewinkel hp v h1 h2 h3
  have h4 : Ser.psum (fun e => Nmr.num p v e * (wtS p e : Int) * Pl.pwF (famS p v) (p ^ e) i j) (n10 p + 1) * (p : Int) ^ n10 p = 0 := by
    rw [← Ser.psum_mul', Ser.psum_ext _ key, Ser.psum_mul, hz, Int.mul_zero]
  rcases Int.mul_eq_zero.1 h4 with h | h
  · exact h
  · exact absurd h hp0
theorem div_back {F m s t : Int} (hs : 0 < s) : (F * s) % (m * (s * t)) / s % m = F % m := by
  rw [show m * (s * t) = s * (m * t) by grind, Int.mul_comm F s, Int.mul_emod_mul_of_pos _ _ hs, Int.mul_ediv_cancel_left _ (by omega)]
  exact Int.emod_emod_of_dvd _ ⟨t, rfl⟩
/-- the stretched number, divided: the law's own number modulo m -/
theorem famS_back {p : Nat} (hp : p = 2 ∨ p = 3 ∨ p = 5 ∨ p = 7) (v : Nat → Int) (m : Int) {d i j : Nat} (h : i + j ≤ d) :
    famS p v i j % (m * ((p ^ ((d - 1) / (p - 1)) : Nat) : Int)) / ((p ^ ((i + j - 1) / (p - 1)) : Nat) : Int) % m = fam p v i j % m := by
  have hle : (i + j - 1) / (p - 1) ≤ (d - 1) / (p - 1) := Nat.div_le_div_right (by omega)
  have h0 : 0 < (p : Int) ^ ((i + j - 1) / (p - 1)) := Int.pow_pos (by omega)
  have hd : ((p ^ ((d - 1) / (p - 1)) : Nat) : Int) = (p : Int) ^ ((i + j - 1) / (p - 1)) * (p : Int) ^ ((d - 1) / (p - 1) - (i + j - 1) / (p - 1)) := by
    rw [← Int.pow_add, Int.natCast_pow]; congr 1; omega
  rw [hd, Int.natCast_pow]
  exact div_back h0
end Tyc
end Go.Proofs.YtfhdgcndiljjcabGreat

/- Plain, for TypicalLaw: substitution into a composition. -/
namespace Go.Proofs.YtfhdgcndiljjcabGreat
namespace Tyc
theorem aft_pw (f : Nat → Int) {F : Nat → Nat → Int} (h : F 0 0 = 0) (d : Nat) : ∀ i, Up d (Pl.pw2 (Pl.aft f F (d + 1)) i) (Pl.aft (Ser.pw f i) F (d + 1))
  | 0 => by
    intro p q _
    show Pl.one2 1 p q = Pl.aft (Ser.mon 0 1) F (d + 1) p q
    rw [Pl.aft_c 1 F (d + 1) (by omega)]
  | i + 1 => by
    intro p q hpq
    show Pl.mul2 (Pl.pw2 (Pl.aft f F (d + 1)) i) (Pl.aft f F (d + 1)) p q = Pl.aft (Ser.mul (Ser.pw f i) f) F (d + 1) p q
    rw [← Pl.aft_mul (Ser.pw f i) f h d p q hpq]
    exact Up.mul (aft_pw f h d i) (fun _ _ _ => rfl) p q hpq
/-- substitution into a composition -/
theorem aft_comp (g : Nat → Int) {f : Nat → Int} (hf : f 0 = 0) {F : Nat → Nat → Int} (h : F 0 0 = 0) (d p q : Nat) (hpq : p + q ≤ d) :
    Pl.aft g (Pl.aft f F (d + 1)) (d + 1) p q = Pl.aft (Ser.comp g f) F (d + 1) p q := by
  have e1 : Pl.aft g (Pl.aft f F (d + 1)) (d + 1) p q = Ser.psum (fun i => Ser.psum (fun k => g i * Ser.pw f i k * Pl.pw2 F k p q) (d + 1)) (d + 1) := by
    refine Ser.psum_ext _ (fun i _ => ?_)
    show g i * Pl.pw2 (Pl.aft f F (d + 1)) i p q = _
    rw [aft_pw f h d i p q hpq]
    unfold Pl.aft
    rw [← Ser.psum_mul]
    exact Ser.psum_ext _ (fun k _ => by rw [Int.mul_assoc])
  rw [e1, Ser.psum_swap]
  refine Ser.psum_ext _ (fun k hk => ?_)
  rw [Ser.comp_pw hf g (N := d + 1) hk, ← Ser.psum_mul']
theorem pwF_pw2 (F : Nat → Nat → Int) : ∀ k, Pl.pwF F k = Pl.pw2 F k
  | 0 => rfl
  | k + 1 => by
    show Pl.mul2 (Pl.pwF F k) F = Pl.mul2 (Pl.pw2 F k) F
    rw [pwF_pw2 F k]
/-- substitution into a typical series: its terms of degree above d add nothing -/
theorem aft_ty (F : Nat → Nat → Int) (d p : Nat) (f : Nat → Int) (i j : Nat) : ∀ K, Pl.aft (tyF p f K) F (d + 1) i j = Ser.psum (fun e => if p ^ e ≤ d then f e * Pl.pw2 F (p ^ e) i j else 0) K
  | 0 => by
    refine psum_nil _ (fun k _ => ?_)
    show (0 : Int) * _ = 0
    rw [Int.zero_mul]
  | K + 1 => by
    have e1 : Pl.aft (tyF p f (K + 1)) F (d + 1) i j = Pl.aft (tyF p f K) F (d + 1) i j + Pl.aft (Ser.mon (p ^ K) (f K)) F (d + 1) i j :=
      congrFun (congrFun (Pl.aft_add (tyF p f K) (Ser.mon (p ^ K) (f K)) F (d + 1)) i) j
    rw [e1, aft_ty F d p f i j K]
    show _ = Ser.psum _ K + (if p ^ K ≤ d then f K * Pl.pw2 F (p ^ K) i j else 0)
    congr 1
    by_cases h : p ^ K ≤ d
    · rw [if_pos h, Pl.aft_mon (p ^ K) (f K) F (d + 1) (by omega)]
      rfl
    · rw [if_neg h]
      refine psum_nil _ (fun k hk => ?_)
      unfold Ser.mon
      rw [if_neg (by omega), Int.zero_mul]
theorem psum_cut {f : Nat → Int} {n : Nat} : ∀ k, (∀ i, n ≤ i → i < n + k → f i = 0) → Ser.psum f (n + k) = Ser.psum f n
  | 0, _ => rfl
  | k + 1, h => by
    show Ser.psum f (n + k) + f (n + k) = _
    rw [psum_cut k (fun i h1 h2 => h i h1 (by omega)), h (n + k) (by omega) (by omega), Int.add_zero]
theorem needN_n10 : ∀ p ∈ [2, 3, 5, 7], ∀ d ∈ List.range 11, needN p d ≤ n10 p := by decide
theorem famS_00 {p : Nat} (hp : p = 2 ∨ p = 3 ∨ p = 5 ∨ p = 7) (v : Nat → Int) : famS p v 0 0 = 0 := by
  unfold famS
  rw [fam_00 hp, Int.zero_mul]
/-- the stretched logarithm of the stretched law has no mixed terms -/
theorem ty_inner {p : Nat} (hp : p = 2 ∨ p = 3 ∨ p = 5 ∨ p = 7) (v : Nat → Int) {d i j : Nat} (d2 : d ≤ 10) (h1 : 1 ≤ i) (h2 : 1 ≤ j) (h3 : i + j ≤ d) :
    Pl.aft (tyF p (fun e => Nmr.num p v e * (wtS p e : Int)) (needN p d + 1)) (famS p v) (d + 1) i j = 0 := by
  have hin : p ∈ [2, 3, 5, 7] := by simp; exact hp
  have hd : d ∈ List.range 11 := List.mem_range.2 (by omega)
  have hN := needN_n10 p hin d hd
  have hn := n10_le p hin
  have hs := stretched hp v h1 h2 (show i + j ≤ 10 by omega)
  rw [show n10 p + 1 = (needN p d + 1) + (n10 p - needN p d) by omega, psum_cut _ (fun e e1 e2 => by
    have : d < p ^ e := by
      have := (needN_at p hin d hd e (List.mem_range.2 (by omega)))
      apply Classical.byContradiction
      intro hc
      have := this.2 ⟨by omega, by omega⟩
      omega
    rw [Pl.pwF_low (famS_00 hp v) _ _ _ (by omega), Int.mul_zero])] at hs
  rw [aft_ty, ← hs]
  refine Ser.psum_ext _ (fun e he => ?_)
  have hle : p ^ e ≤ d := by
    rcases Nat.eq_zero_or_pos e with rfl | h0
    · rw [Nat.pow_zero]; omega
    · exact ((needN_at p hin d hd e (List.mem_range.2 (by omega))).1 ⟨h0, by omega⟩).2
  rw [if_pos hle, pwF_pw2]
end Tyc
end Go.Proofs.YtfhdgcndiljjcabGreat

/- Plain, for TypicalLaw: the law that the program makes of the stretched logarithm is Hazewinkel's one. -/
namespace Go.Proofs.YtfhdgcndiljjcabGreat
namespace Pl
open Ser (psum)
theorem hor_horqU (m : Int) (d : Nat) (l : List Int) (F : Nat → Nat → Int) (hl : l.length = d + 1) : ∀ k, hor m d l F k = horq m d l F k := by
  intro k
  induction k with
  | zero => rfl
  | succ k ih =>
    show tab m d _ = tab m d _
    rw [ih, hl]; rfl
theorem hor_aftU {m : Int} {d : Nat} {l : List Int} {G : Nat → Nat → Int} (hl : l.length = d + 1) (F : Nat → Nat → Int) (h : Eq m d F G) : Eq m d (pc (hor m d l F (d + 1))) (aft (Ser.co l) G (d + 1)) := by
  rw [hor_horqU m d l F hl]
  exact (horq_aft hl F).trans (aft_congr (d + 1) (fun _ _ => rfl) h)
theorem pw2_row0 {F G : Nat → Nat → Int} {d : Nat} (h : ∀ i, i ≤ d → F i 0 = G i 0) : ∀ k i, i ≤ d → pw2 F k i 0 = pw2 G k i 0
  | 0, _, _ => rfl
  | k + 1, i, hi => by
    show psum (fun x => psum (fun y => pw2 F k x y * F (i - x) (0 - y)) (0 + 1)) (i + 1) = psum (fun x => psum (fun y => pw2 G k x y * G (i - x) (0 - y)) (0 + 1)) (i + 1)
    refine Ser.psum_ext _ (fun x hx => Ser.psum_ext _ (fun y hy => ?_))
    obtain rfl : y = 0 := by omega
    rw [pw2_row0 h k x (by omega), Nat.sub_self, h (i - x) (by omega)]
theorem pw2_col0 {F G : Nat → Nat → Int} {d : Nat} (h : ∀ i, i ≤ d → F 0 i = G 0 i) : ∀ k i, i ≤ d → pw2 F k 0 i = pw2 G k 0 i
  | 0, _, _ => rfl
  | k + 1, i, hi => by
    show psum (fun x => psum (fun y => pw2 F k x y * F (0 - x) (i - y)) (i + 1)) (0 + 1) = psum (fun x => psum (fun y => pw2 G k x y * G (0 - x) (i - y)) (i + 1)) (0 + 1)
    refine Ser.psum_ext _ (fun x hx => Ser.psum_ext _ (fun y hy => ?_))
    obtain rfl : x = 0 := by omega
    rw [pw2_col0 h k y (by omega), Nat.sub_self, h (i - y) (by omega)]
end Pl
namespace Tyc
theorem famS_row {p : Nat} (hp : p = 2 ∨ p = 3 ∨ p = 5 ∨ p = 7) (v : Nat → Int) {i : Nat} (h : i ≤ 10) : famS p v i 0 = Pl.mon2 1 0 i 0 := by
  unfold famS
  rw [fam_side hp v (.inr rfl) (by omega)]
  unfold Pl.xyF Pl.mon2
  by_cases h1 : i = 1
  · subst h1; simp
  · rw [if_neg (by omega), if_neg (by omega)]; simp
theorem famS_col {p : Nat} (hp : p = 2 ∨ p = 3 ∨ p = 5 ∨ p = 7) (v : Nat → Int) {i : Nat} (h : i ≤ 10) : famS p v 0 i = Pl.mon2 0 1 0 i := by
  unfold famS
  rw [fam_side hp v (.inl rfl) (by omega)]
  unfold Pl.xyF Pl.mon2
  by_cases h1 : i = 1
  · subst h1; simp
  · rw [if_neg (by omega), if_neg (by omega)]; simp
theorem aft_row {p : Nat} (hp : p = 2 ∨ p = 3 ∨ p = 5 ∨ p = 7) (v : Nat → Int) (l : Nat → Int) {d i : Nat} (hd : d ≤ 10) (hi : i ≤ d) : Pl.aft l (famS p v) (d + 1) i 0 = l i := by
  have h := Pl.aft_x l (d + 1) i 0 (by omega)
  rw [if_pos rfl] at h
  rw [← h]
  exact Ser.psum_ext _ (fun k _ => by rw [Pl.pw2_row0 (d := d) (G := Pl.mon2 1 0) (fun x hx => famS_row hp v (by omega)) k i hi])
theorem aft_col {p : Nat} (hp : p = 2 ∨ p = 3 ∨ p = 5 ∨ p = 7) (v : Nat → Int) (l : Nat → Int) {d i : Nat} (hd : d ≤ 10) (hi : i ≤ d) : Pl.aft l (famS p v) (d + 1) 0 i = l i := by
  have h := Pl.aft_y l (d + 1) 0 i (by omega)
  rw [if_pos rfl] at h
  rw [← h]
  exact Ser.psum_ext _ (fun k _ => by rw [Pl.pw2_col0 (d := d) (G := Pl.mon2 0 1) (fun x hx => famS_col hp v (by omega)) k i hi])
theorem tyF_congr {M : Int} {p : Nat} {f g : Nat → Int} (h : ∀ e, f e % M = g e % M) (k n : Nat) : tyF p f k n % M = tyF p g k n % M := by
  refine Ser.psum_congr _ (fun e _ => ?_)
  unfold Ser.mon
  by_cases hc : n = p ^ e
  · rw [if_pos hc, if_pos hc]; exact h e
  · rw [if_neg hc, if_neg hc]
end Tyc
section
variable {p : Nat} {m : Int} {d : Nat}
theorem strL_co (l : List Int) {k : Nat} (hk : k ≤ d) :
    Ser.co (strL p m d l) k % (m * strN p d) = tyF p (fun e => Nmr.num p (Ser.co l) e * (Tyc.wtS p e : Int)) (needN p d + 1) k % (m * strN p d) := by
  unfold strL tyL
  rw [Ser.co_cut hk, Int.emod_emod]
  refine Tyc.tyF_congr (fun e => ?_) _ _
  show _ % _ * ((Tyc.wtS p e : Nat) : Int) % _ = _
  rw [Int.mul_emod, Int.emod_emod, ← Int.mul_emod]
theorem strL_one (hp : p = 2 ∨ p = 3 ∨ p = 5 ∨ p = 7) (hd : 1 ≤ d) (l : List Int) : (Ser.co (strL p m d l) 1 * 1) % (m * strN p d) = 1 % (m * strN p d) := by
  rw [Int.mul_one, strL_co l hd]
  unfold tyF
  rw [Pl.psum_split]
  rw [Tyc.psum_nil (f := fun e => Ser.mon (p ^ (e + 1)) (Nmr.num p (Ser.co l) (e + 1) * (Tyc.wtS p (e + 1) : Int)) 1) _ (fun e _ => by
    have h1 : p ^ 1 ≤ p ^ (e + 1) := Nat.pow_le_pow_right (by omega) (by omega)
    rw [Nat.pow_one] at h1
    show Ser.mon _ _ 1 = 0
    unfold Ser.mon
    rw [if_neg (by omega)])]
  have h0 : Nmr.num p (Ser.co l) 0 = 1 := rfl
  have hw : Tyc.wtS p 0 = 1 := by rcases hp with rfl | rfl | rfl | rfl <;> rfl
  show (Ser.mon (p ^ 0) (Nmr.num p (Ser.co l) 0 * (Tyc.wtS p 0 : Int)) 1 + 0) % _ = _
  rw [h0, hw]
  rfl
/-- the stretched logarithm after the stretched law is the sum of it in both variables -/
theorem strL_sum (hp : p = 2 ∨ p = 3 ∨ p = 5 ∨ p = 7) (d2 : d ≤ 10) (l : List Int) :
    Pl.Eq (m * strN p d) d (sumF (strL p m d l)) (Pl.aft (Ser.co (strL p m d l)) (Tyc.famS p (Ser.co l)) (d + 1)) := by
  intro i j hij
  unfold sumF
  by_cases hi : i = 0
  · subst hi
    rw [if_pos rfl, Tyc.aft_col hp _ _ d2 (by omega)]
    by_cases hj : j = 0
    · subst hj
      rw [if_pos rfl]
      have : Ser.co (strL p m d l) 0 = 0 := tyL_co0 (by omega) _ _ _ _
      rw [this]
    · rw [if_neg hj]
  · rw [if_neg hi]
    by_cases hj : j = 0
    · subst hj
      rw [if_pos rfl, Tyc.aft_row hp _ _ d2 (by omega)]
    · rw [if_neg hj]
      have h := Pl.aft_congr (m := m * strN p d) (d := d) (d + 1) (fun k hk => strL_co (p := p) (m := m) (d := d) l (show k ≤ d by omega)) (Pl.Eq.refl _ d (Tyc.famS p (Ser.co l))) i j hij
      rw [h, Tyc.ty_inner hp _ d2 (by omega) (by omega) hij]
theorem strT_fam (hp : p = 2 ∨ p = 3 ∨ p = 5 ∨ p = 7) (d1 : 1 ≤ d) (d2 : d ≤ 10) (l : List Int) :
    Pl.Eq (m * strN p d) d (Pl.pc (strT p m d l)) (Tyc.famS p (Ser.co l)) := by
  have hL0 : Ser.co (strL p m d l) 0 = 0 := tyL_co0 (by omega) _ _ _ _
  have hleft := Ser.lagG_left hL0 (strL_one (m := m) hp d1 l) d
  have hF0 := Tyc.famS_00 hp (Ser.co l)
  unfold strT
  refine (Pl.hor_aftU (Ser.lagG_len1 _ _ _ _ _) _ ((Pl.pc_tab_eq _ _ _).trans (strL_sum hp d2 l))).trans ?_
  refine (Pl.Eq.of _ _ (fun i j hij => Tyc.aft_comp _ hL0 hF0 d i j hij)).trans ?_
  refine (Pl.aft_congr (d + 1) (fun k hk => hleft.2 k (by omega)) (Pl.Eq.refl _ d _)).trans ?_
  rw [Pl.aft_t 1 _ (d + 1) (by omega), Pl.one_sm]
  exact Pl.Eq.refl _ _ _
/-- both laws are one -/
theorem tlw_law (hp : p = 2 ∨ p = 3 ∨ p = 5 ∨ p = 7) (m1 : 2 ≤ m) (d1 : 1 ≤ d) (d2 : d ≤ 10) (l : List Int) : tlwP p m d l = lawT p m d (Ser.co l) := by
  rw [lawT_fam hp m1 d1 d2]
  unfold tlwP
  refine Pl.tab_congr (fun i j hij => ?_)
  have h := strT_fam (m := m) hp d1 d2 l i j hij
  have hr : Pl.pc (strT p m d l) i j % (m * strN p d) = Pl.pc (strT p m d l) i j := by
    unfold strT
    show Pl.pc (Pl.tab _ d _) i j % _ = Pl.pc (Pl.tab _ d _) i j
    rw [Pl.pc_tab hij, Int.emod_emod]
  rw [← hr, h]
  exact Tyc.famS_back hp (Ser.co l) m hij
end
end Go.Proofs.YtfhdgcndiljjcabGreat

/- Contracts of excess and typicalParameters of the program. -/
namespace Go.Proofs.YtfhdgcndiljjcabGreat
open Go Go.RowKit Go.WideShapes Go.ChangeShapes Go.ChangeAt
theorem facM_bd {m : Int} (m1 : 2 ≤ m) (m2 : m ≤ 10000) (l : List Int) (n : Nat) : 0 ≤ Cyc.facM m l n ∧ Cyc.facM m l n < m := by
  unfold Cyc.facM
  cases h : Cyc.facO m l n with
  | none => exact ⟨Int.le_refl 0, show (0 : Int) < m by omega⟩
  | some X =>
    obtain ⟨b1, b2, -⟩ := Cyc.facO_some m1 m2 h
    exact ⟨b1, b2⟩
set_option maxHeartbeats 8000000 in
set_option maxRecDepth 100000 in
theorem excess_any (m : Int) (d : Nat) (A : Option Addr) (c : Nat) (t : List (List Int)) (p : Nat) (A1 : Option Addr) (c1 : Nat) (l : List Int) (n : Nat) (w : World) (ok : Pl.Ok m d t) (hr : RP w A t) (n2 : 2 ≤ n) (hn : n ≤ d) (hp : p = 2 ∨ p = 3 ∨ p = 5 ∨ p = 7) (hx : ∀ i, 0 ≤ Ser.co l i ∧ Ser.co l i < m) (hrl : RI w A1 l) :
    Calls Tryz.prog 60 #[.agg #[.int .i64 m, .int .i64 d, .slice A t.length c], .int .i64 p, .slice A1 l.length c1, .int .i64 n] w fun e w' => e = .returned (.int .i64 (exT m p t l n)) ∧ Below w.heap.size w w' := by
  obtain ⟨W, hW⟩ : ∃ W, w.alloc (.cells #[.int .i64 m, .int .i64 d, .slice A t.length c] 57) = W := ⟨_, rfl⟩
  have b1 : GBox W w.heap.size m d A t.length c := by rw [← hW]; exact GBox.new _ _ _ _ _ _ _
  have hwb : Below w.heap.size w W := by rw [← hW]; exact below_one _ _
  have HB := Lib.hid hwb
  have HW := Lib.hid hW
  have m1 := ok.m1
  have m2 := ok.m2
  have hd2 := ok.d2
  have HCU := Lib.hid (cut_any m d A c t n W ok (hr.below hwb) hn)
  have okc := Pl.Ok.of_tab m1 m2 (show 1 ≤ n by omega) (show n ≤ 10 by omega) (Pl.pc t)
  have oks := lawT_ok (p := p) m1 m2 (show 1 ≤ n by omega) (show n ≤ 10 by omega) (Ser.co l)
  have HTL := Lib.hid (fun W0 (h : Below W.heap.size W W0) => by
    have := typicalLaw_any p m n A1 c1 l W0 m1 m2 (by omega) (by omega) hp (fun i => by have := hx i; omega) ((hrl.below hwb).below h)
    rw [tlw_law hp m1 (by omega) (by omega) l] at this
    exact this)
  have HFT := Lib.hid (fun W0 A2 c2 A3 c3 (h2 : RP W0 A2 (Pl.tab m n (Pl.pc t))) (h3 : RP W0 A3 (lawT p m n (Ser.co l))) => factorTo_any m n A2 c2 (Pl.tab m n (Pl.pc t)) A3 c3 (lawT p m n (Ser.co l)) W0 n2 okc oks h2 h3)
  obtain ⟨Z, hZ⟩ : ∃ Z, exT m p t l n = Z := ⟨_, rfl⟩
  rw [hZ]
  have hZ2 : Cyc.facM m (layC m (gapT m n (Pl.tab m n (Pl.pc t)) (lawT p m n (Ser.co l))) n) n = Z := hZ
  rw [hZ2] at HFT
  obtain ⟨T, hT⟩ : ∃ T, Pl.tab m n (Pl.pc t) = T := ⟨_, rfl⟩
  obtain ⟨T', hT'⟩ : ∃ T, lawT p m n (Ser.co l) = T := ⟨_, rfl⟩
  rw [hT] at HCU HFT
  rw [hT'] at HTL HFT
  obtain ⟨L, hL⟩ : ∃ L, t.length = L := ⟨_, rfl⟩
  rw [hL] at HCU HW b1 ⊢
  obtain ⟨L1, hL1⟩ : ∃ L, l.length = L := ⟨_, rfl⟩
  rw [hL1] at HTL ⊢
  obtain ⟨x1, x2, x3, -⟩ := b1
  clear hwb hW hr hrl ok hT hT' hL hL1 okc oks hZ hZ2 hx hp
  go_enter Tryz.func60, Tryz.ntmps60
  go_wp2_with fail
  rw [HW.out]
  go_wp2_with fail
  refine HCU.out.mono ?_
  rintro e w1 ⟨v, rfl, ho, hb1⟩
  obtain ⟨A2, c2, rfl, -⟩ := ho.len
  obtain ⟨X, hX⟩ : ∃ X, w1.alloc (.cells #[.int .i64 m, .int .i64 n, .slice A2 T.length c2] 57) = X := ⟨_, rfl⟩
  have hbX : Below W.heap.size W X := by rw [← hX]; exact below_alloc _ hb1
  have v5 : VarC 57 X w1.heap.size #[.int .i64 m, .int .i64 n, .slice A2 T.length c2] := by rw [← hX]; exact VarC.new _ _ _
  have hrT : RP X A2 T := by rw [← hX]; exact ho.rp.below (below_one _ _)
  have HX := Lib.hid hX
  obtain ⟨g5, hg5⟩ : ∃ g, w1.heap.size = g := ⟨_, rfl⟩
  rw [hg5] at v5
  have HG5 := Lib.hid hg5
  have HBX := Lib.hid hbX
  have HRT := Lib.hid hrT
  have HK := Lib.hid (fun W0 (h : Below X.heap.size X W0) => (⟨⟨(v5.keep h).cell 0 _ rfl, (v5.keep h).cell 1 _ rfl, (v5.keep h).cell 2 _ rfl⟩, trivial, h⟩ :
    (W0.cell? ⟨g5, 0, none⟩ = some (.int .i64 m) ∧ W0.cell? ⟨g5, 1, none⟩ = some (.int .i64 n) ∧ W0.cell? ⟨g5, 2, none⟩ = some (.slice A2 T.length c2)) ∧ True ∧ Below X.heap.size X W0))
  clear hX hbX v5 hrT hg5 hb1 ho x1 x2 x3
  go_upto_region 2 with fail
  rw [HX.out, HG5.out]
  go_region_held3 (fun w' => (w'.cell? ⟨g5, 0, none⟩ = some (.int .i64 m) ∧ w'.cell? ⟨g5, 1, none⟩ = some (.int .i64 n) ∧ w'.cell? ⟨g5, 2, none⟩ = some (.slice A2 T.length c2)) ∧ True ∧ Below X.heap.size X w') (first | exact HK.out _ (below_drew0 _) | exact HK.out _ hkb | exact HK.out _ hka) (first
    | (go_at_call 96; with_reducible refine Calls.mono (HTL.out _ (below_step HBX.out (trd (by assumption)))) ?_; rintro e wa ⟨va, rfl, hoa, hba⟩; obtain ⟨A3, c3, rfl, -⟩ := hoa.len; obtain ⟨hka, -⟩ := reg_end (by assumption) hba)
    | (go_at_call 95; with_reducible refine Calls.mono (HFT.out _ _ _ _ _ (HRT.out.below (trd (by assumption))) hoa.rp) ?_; rintro e wb ⟨rfl, hbb⟩; obtain ⟨hkb, -⟩ := reg_end (by assumption) hbb))
  all_goals
    go_wp2
    go_ret
    exact ⟨rfl, below_step HB.out (below_step HBX.out hkb)⟩
def tpL (o : Option (List Int)) : List Int := match o with
  | some r => r
  | none => []
set_option maxHeartbeats 8000000 in
set_option maxRecDepth 100000 in
theorem typicalParameters_any (m : Int) (d : Nat) (A : Option Addr) (c : Nat) (t : List (List Int)) (p : Nat) (w : World) (ok : Pl.Ok m d t) (hr : RP w A t) (hp : p = 2 ∨ p = 3 ∨ p = 5 ∨ p = 7) :
    Calls Tryz.prog 32 #[.agg #[.int .i64 m, .int .i64 d, .slice A t.length c], .int .i64 p] w fun e w' => ∃ v, e = .returned (.tuple #[v, .bool (tpP m p t (d - 1) 2 []).isSome]) ∧ OwnI w' w.heap.size v (tpL (tpP m p t (d - 1) 2 [])) ∧ Below w.heap.size w w' := by
  obtain ⟨W, hW⟩ : ∃ W, w.alloc (.cells #[.int .i64 m, .int .i64 d, .slice A t.length c] 57) = W := ⟨_, rfl⟩
  have b1 : GBox W w.heap.size m d A t.length c := by rw [← hW]; exact GBox.new _ _ _ _ _ _ _
  have hwb : Below w.heap.size w W := by rw [← hW]; exact below_one _ _
  have B1 := Lib.hid b1
  have HB := Lib.hid hwb
  have HW := Lib.hid hW
  have m1 := ok.m1
  have m2 := ok.m2
  have hd2 := ok.d2
  have hd1 := ok.d1
  have HEX := Lib.hid (fun W0 A1 c1 (l : List Int) (n : Nat) (h : Below W.heap.size W W0) (n2 : 2 ≤ n) (hn : n ≤ d) (hx : ∀ i, 0 ≤ Ser.co l i ∧ Ser.co l i < m) (hl : RI W0 A1 l) => excess_any m d A c t p A1 c1 l n W0 ok ((hr.below hwb).below h) n2 hn hp hx hl)
  have HPW := Lib.hid (fun W0 (n : Nat) (n2 : 2 ≤ n) (hn : n ≤ 10) => isPowerOf_any p n W0 hp n2 hn)
  have HBD : Hid (∀ (l : List Int) (n : Nat), 0 ≤ exT m p t l n ∧ exT m p t l n < m) := Lib.hid (fun l n => facM_bd m1 m2 _ _)
  obtain ⟨Z, hZ⟩ : ∃ Z, tpP m p t (d - 1) 2 [] = Z := ⟨_, rfl⟩
  rw [hZ]
  have HZ := Lib.hid hZ
  obtain ⟨L, hL⟩ : ∃ L, t.length = L := ⟨_, rfl⟩
  rw [hL] at HEX HW B1 ⊢
  clear b1 hwb hW hr ok hL hZ hp
  go_enter Tryz.func32, Tryz.ntmps32
  go_wp2_with fail
  rw [HW.out]
  go_wp2_with fail
  go_loopw [6, 7, 8] (fun s n _ wr => ∃ (k : Nat) (l : List Int), n = .int .i64 k ∧ 2 ≤ k ∧ k ≤ d + 1 ∧ l.length ≤ k ∧ (∀ i, 0 ≤ Ser.co l i ∧ Ser.co l i < m) ∧ OwnI wr W.heap.size s l ∧ tpP m p t (d + 1 - k) k l = Z ∧ Below W.heap.size W wr) (fun _ n _ _ => 20 - (intOf n).toNat)
  case atStart => exact ⟨2, [], rfl, Nat.le_refl _, by omega, Nat.zero_le _, fun i => by rw [Ser.co_over (Nat.zero_le _)]; omega, OwnI.nil _ _, by rw [show d + 1 - 2 = d - 1 by omega]; exact HZ.out, Below.refl _ _⟩
  case round =>
    obtain ⟨k, l, rfl, k2, hk, hlk, hx, hown, hq, hbel⟩ := hrel
    have HO := Lib.hid hown
    have HBW := Lib.hid hbel
    have HQ := Lib.hid hq
    have HXX := Lib.hid hx
    have hsz := hbel.size
    obtain ⟨z1, z2, z3, -⟩ := B1.out.keep hbel
    clear hown hbel hq hx
    by_cases hlt : k ≤ d
    · have j2 : (k : Int) ≤ (d : Int) := by omega
      obtain ⟨Al, cl, hs, -⟩ := HO.out.form
      subst hs
      have HE1 := Lib.hid (HEX.out _ Al cl l k HBW.out k2 hlt HXX.out HO.out.ri)
      obtain ⟨e1, e2⟩ := HBD.out l k
      have HST := Lib.hid (show tpP m p t (d + 1 - k) k l = if isPw p k = true then tpP m p t (d + 1 - (k + 1)) (k + 1) (l ++ [exT m p t l k]) else if exT m p t l k = 0 then tpP m p t (d + 1 - (k + 1)) (k + 1) l else none by
        rw [show d + 1 - k = (d + 1 - (k + 1)) + 1 by omega, tpP])
      obtain ⟨C, hC⟩ : ∃ C, exT m p t l k = C := ⟨_, rfl⟩
      rw [hC] at HE1 HST e1 e2
      have HP1 := Lib.hid (fun W0 => HPW.out W0 k k2 (by omega))
      clear hC
      by_cases hw : isPw p k = true
      · rw [hw] at HP1
        rw [if_pos hw] at HST
        clear hw
        go_wp2_with fail
        refine HE1.out.mono ?_
        rintro e w1 ⟨rfl, hb1⟩
        have ho1 := HO.out.keep hb1
        have HO1 := Lib.hid ho1
        have hs1 := Nat.le_trans hsz hb1.size
        have HB1 := Lib.hid (below_step HBW.out hb1)
        clear ho1 hb1
        go_wp2_with fail
        refine (HP1.out _).mono ?_
        rintro e w' ⟨rfl, rfl⟩
        go_wp2_with (at_builtin; refine wp_push _ _ _ (by rfl) (by rfl) Tryz.underlying26 W.heap.size _ _ (by rfl) HO1.out C (by rfl) (by omega) hs1 ?_; intro v' w4 ho4 hpb)
        have HP4 := Lib.hid (HB1.out.trans hpb)
        have HQ4 := Lib.hid ho4
        clear hpb ho4
        go_wp2
        go_roundw
        case rel => exact ⟨k + 1, l ++ [C], by go_num, by omega, by omega, by rw [List.length_append]; simp; omega, fun i => by
            rcases Nat.lt_trichotomy i l.length with h | rfl | h
            · rw [co_snoc_low l C h]; exact HXX.out i
            · rw [co_snoc_at]; exact ⟨e1, e2⟩
            · rw [Ser.co_over (by rw [List.length_append]; simp; omega)]; omega, HQ4.out, by rw [← HST.out]; exact HQ.out, HP4.out⟩
        case measure => simp only [intOf]; omega
      · have hwf : isPw p k = false := by simpa using hw
        rw [hwf] at HP1
        rw [if_neg hw] at HST
        clear hw hwf
        by_cases hC0 : C = 0
        · rw [if_pos hC0] at HST
          subst hC0
          go_wp2_with fail
          refine HE1.out.mono ?_
          rintro e w1 ⟨rfl, hb1⟩
          have ho1 := HO.out.keep hb1
          have HO1 := Lib.hid ho1
          have HB1 := Lib.hid (below_step HBW.out hb1)
          clear ho1 hb1
          go_wp2_with fail
          refine (HP1.out _).mono ?_
          rintro e w' ⟨rfl, rfl⟩
          go_wp2
          go_roundw
          case rel => exact ⟨k + 1, l, by go_num, by omega, by omega, by omega, HXX.out, HO1.out, by rw [← HST.out]; exact HQ.out, HB1.out⟩
          case measure => simp only [intOf]; omega
        · rw [if_neg hC0] at HST
          have HN := Lib.hid (show Z = none by rw [← HQ.out, HST.out])
          obtain ⟨n1, n2⟩ := ne_facts hC0
          go_wp2_with fail
          refine HE1.out.mono ?_
          rintro e w1 ⟨rfl, hb1⟩
          have HB1 := Lib.hid (below_step HB.out (below_step HBW.out hb1))
          clear hb1
          go_wp2_with fail
          refine (HP1.out _).mono ?_
          rintro e w' ⟨rfl, rfl⟩
          go_wp2
          exact bodyPost_ret (v := .tuple #[.slice none 0 0, .bool false]) (by simp [results, Tryz.results32, go_sem]) rfl ⟨_, by rw [HN.out]; rfl, by rw [HN.out]; exact OwnI.nil _ _, HB1.out⟩
    · have j2 : ¬ (k : Int) ≤ (d : Int) := by omega
      obtain ⟨Al, cl, hs, -⟩ := HO.out.form
      subst hs
      have HN := Lib.hid (show Z = some l by rw [← HQ.out, show d + 1 - k = 0 by omega]; rfl)
      have HO2 := Lib.hid (HO.out.more (b' := w.heap.size) HB.out.size)
      go_wp2
      exact bodyPost_ret (v := .tuple #[.slice Al l.length cl, .bool true]) (by simp [results, Tryz.results32, go_sem]) rfl ⟨_, by rw [HN.out]; rfl, by rw [HN.out]; exact HO2.out, below_step HB.out HBW.out⟩
end Go.Proofs.YtfhdgcndiljjcabGreat

/- Contracts of TypicalParameters and IsTypicalLaw, of the program. -/
namespace Go.Proofs.YtfhdgcndiljjcabGreat
open Go Go.RowKit Go.WideShapes Go.ChangeShapes Go.ChangeAt
def tpO (p m : Int) (t : List (List Int)) : Option (List Int) := tpP m p.toNat t (t.length - 1 - 1) 2 []
/-- what TypicalParameters and IsTypicalLaw answer -/
def tparM (p m : Int) (t : List (List Int)) : List Int × Int := if codeLP m t p = 0 then (tpL (tpO p m t), if (tpO p m t).isSome = true then 0 else 4) else ([], codeLP m t p)
def itlM (p m : Int) (t : List (List Int)) : Bool × Int := if codeLP m t p = 0 then ((tpO p m t).isSome, 0) else (false, codeLP m t p)
theorem codeLP_ok {p m : Int} {t : List (List Int)} (h : codeLP m t p = 0) : isL m t = true ∧ isP4 p = true := by
  unfold codeLP at h
  by_cases h0 : isL m t = true
  · rw [if_pos h0] at h
    by_cases h1 : isP4 p = true
    · exact ⟨h0, h1⟩
    · rw [if_neg h1] at h; omega
  · rw [if_neg h0] at h; omega
set_option maxHeartbeats 8000000 in
set_option maxRecDepth 100000 in
theorem TypicalParameters_any (p : Int) (m : Int) (A : Option Addr) (c : Nat) (t : List (List Int)) (w : World) (hz : szT t ≤ 1048576) (hr : RP w A t) :
    Calls Tryz.prog 10 #[.int .i64 p, .agg #[.int .i64 m, .slice A t.length c]] w fun e w' => ∃ s, e = .returned (.tuple #[s, .int .i64 (tparM p m t).2]) ∧ OwnI w' w.heap.size s (tparM p m t).1 ∧ Below w.heap.size w w' := by
  obtain ⟨W, hW, b1, hwb⟩ := start1 29 w m A t.length c
  have B1 := Lib.hid b1
  have HB := Lib.hid hwb
  have HW := Lib.hid hW
  have HC := Lib.hid (codeOfLawAndPrime_any m A c t p W hz (hr.below hwb))
  by_cases h0 : codeLP m t p = 0
  · obtain ⟨hl, hp⟩ := codeLP_ok h0
    obtain ⟨-, d, e1, ok, hf⟩ := isL_of hl
    have hd2 := ok.d2
    have hp4 := (isP4_iff p).1 hp
    rw [h0] at HC
    obtain ⟨P, rfl⟩ := Int.eq_ofNat_of_zero_le (show 0 ≤ p by omega)
    have HG := Lib.hid (fun W0 => lawOf_nat m A t.length c d W0 e1 (by omega))
    have HT := Lib.hid (fun W0 (h : Below W.heap.size W W0) => typicalParameters_any m d A c t P W0 ok ((hr.below hwb).below h) (by omega))
    have hO : tpO (P : Int) m t = tpP m P t (d - 1) 2 [] := by unfold tpO; rw [e1, Int.toNat_natCast]; rfl
    have hA : tparM (P : Int) m t = (tpL (tpO (P : Int) m t), if (tpO (P : Int) m t).isSome = true then 0 else 4) := by unfold tparM; rw [if_pos h0]
    rw [hA]
    rw [← hO] at HT
    obtain ⟨O, hOO⟩ : ∃ O, tpO (P : Int) m t = O := ⟨_, rfl⟩
    rw [hOO] at HT ⊢
    obtain ⟨L, hL⟩ : ∃ L, t.length = L := ⟨_, rfl⟩
    rw [hL] at HC HG HT HW B1 ⊢
    obtain ⟨x1, x2, x3⟩ := B1.out
    cases hb : O.isSome with
    | true =>
      rw [hb] at HT
      rw [if_pos rfl]
      clear b1 hwb hW hr hz h0 hl hp e1 ok hf hp4 hO hA hOO hL hb
      go_enter Tryz.func10, Tryz.ntmps10
      go_wp2_with fail
      rw [HW.out]
      go_wp2_with fail
      refine HC.out.mono ?_
      rintro e w1 ⟨rfl, hb1⟩
      obtain ⟨y1, y2, y3⟩ := B1.out.keep hb1
      go_wp2_with fail
      refine (HG.out _).mono ?_
      rintro e w2 ⟨rfl, hb2⟩
      go_wp2_with fail
      refine (HT.out _ (below_step hb1 hb2)).mono ?_
      rintro e w3 ⟨v, rfl, ho, hb3⟩
      have HO := Lib.hid (ho.more (b' := w.heap.size) (below_step HB.out (below_step hb1 hb2)).size)
      have HB3 := Lib.hid (below_step HB.out (below_step (below_step hb1 hb2) hb3))
      clear ho hb1 hb2 hb3
      go_wp2
      exact bodyPost_ret (v := .tuple #[v, .int .i64 0]) (by simp [results, Tryz.results10, go_sem]) rfl ⟨_, rfl, HO.out, HB3.out⟩
    | false =>
      have hN : O = none := by cases O with
        | none => rfl
        | some r => cases hb
      subst hN
      rw [hb] at HT
      rw [if_neg (by decide)]
      clear b1 hwb hW hr hz h0 hl hp e1 ok hf hp4 hO hA hOO hL hb
      go_enter Tryz.func10, Tryz.ntmps10
      go_wp2_with fail
      rw [HW.out]
      go_wp2_with fail
      refine HC.out.mono ?_
      rintro e w1 ⟨rfl, hb1⟩
      obtain ⟨y1, y2, y3⟩ := B1.out.keep hb1
      go_wp2_with fail
      refine (HG.out _).mono ?_
      rintro e w2 ⟨rfl, hb2⟩
      go_wp2_with fail
      refine (HT.out _ (below_step hb1 hb2)).mono ?_
      rintro e w3 ⟨v, rfl, ho, hb3⟩
      have HB3 := Lib.hid (below_step HB.out (below_step (below_step hb1 hb2) hb3))
      clear ho hb1 hb2 hb3
      go_wp2
      exact bodyPost_ret (v := .tuple #[.slice none 0 0, .int .i64 4]) (by simp [results, Tryz.results10, go_sem]) rfl ⟨_, rfl, OwnI.nil _ _, HB3.out⟩
  · have hA : tparM p m t = ([], codeLP m t p) := by unfold tparM; rw [if_neg h0]
    rw [hA]
    obtain ⟨n1, n2⟩ := ne_facts h0
    obtain ⟨C, hC⟩ : ∃ C, codeLP m t p = C := ⟨_, rfl⟩
    rw [hC] at HC n1 n2 ⊢
    obtain ⟨x1, x2, x3⟩ := B1.out
    clear b1 hwb hW hr hz h0 hA hC
    go_enter Tryz.func10, Tryz.ntmps10
    go_wp2_with fail
    rw [HW.out]
    go_wp2_with fail
    refine HC.out.mono ?_
    rintro e w1 ⟨rfl, hb1⟩
    go_wp2
    exact bodyPost_ret (v := .tuple #[.slice none 0 0, .int .i64 C]) (by simp [results, Tryz.results10, go_sem]) rfl ⟨_, rfl, OwnI.nil _ _, below_step HB.out hb1⟩
set_option maxHeartbeats 8000000 in
set_option maxRecDepth 100000 in
theorem IsTypicalLaw_any (p : Int) (m : Int) (A : Option Addr) (c : Nat) (t : List (List Int)) (w : World) (hz : szT t ≤ 1048576) (hr : RP w A t) :
    Calls Tryz.prog 17 #[.int .i64 p, .agg #[.int .i64 m, .slice A t.length c]] w fun e w' => e = .returned (.tuple #[.bool (itlM p m t).1, .int .i64 (itlM p m t).2]) ∧ Below w.heap.size w w' := by
  obtain ⟨W, hW, b1, hwb⟩ := start1 29 w m A t.length c
  have B1 := Lib.hid b1
  have HB := Lib.hid hwb
  have HW := Lib.hid hW
  have HC := Lib.hid (codeOfLawAndPrime_any m A c t p W hz (hr.below hwb))
  by_cases h0 : codeLP m t p = 0
  · obtain ⟨hl, hp⟩ := codeLP_ok h0
    obtain ⟨-, d, e1, ok, hf⟩ := isL_of hl
    have hd2 := ok.d2
    have hp4 := (isP4_iff p).1 hp
    rw [h0] at HC
    obtain ⟨P, rfl⟩ := Int.eq_ofNat_of_zero_le (show 0 ≤ p by omega)
    have HG := Lib.hid (fun W0 => lawOf_nat m A t.length c d W0 e1 (by omega))
    have HT := Lib.hid (fun W0 (h : Below W.heap.size W W0) => typicalParameters_any m d A c t P W0 ok ((hr.below hwb).below h) (by omega))
    have hO : tpO (P : Int) m t = tpP m P t (d - 1) 2 [] := by unfold tpO; rw [e1, Int.toNat_natCast]; rfl
    have hA : itlM (P : Int) m t = ((tpO (P : Int) m t).isSome, 0) := by unfold itlM; rw [if_pos h0]
    rw [hA]
    rw [← hO] at HT
    obtain ⟨O, hOO⟩ : ∃ O, tpO (P : Int) m t = O := ⟨_, rfl⟩
    rw [hOO] at HT ⊢
    obtain ⟨b, hb⟩ : ∃ b, O.isSome = b := ⟨_, rfl⟩
    rw [hb] at HT ⊢
    obtain ⟨L, hL⟩ : ∃ L, t.length = L := ⟨_, rfl⟩
    rw [hL] at HC HG HT HW B1 ⊢
    obtain ⟨x1, x2, x3⟩ := B1.out
    clear b1 hwb hW hr hz h0 hl hp e1 ok hf hp4 hO hA hOO hL hb
    go_enter Tryz.func17, Tryz.ntmps17
    go_wp2_with fail
    rw [HW.out]
    go_wp2_with fail
    refine HC.out.mono ?_
    rintro e w1 ⟨rfl, hb1⟩
    obtain ⟨y1, y2, y3⟩ := B1.out.keep hb1
    go_wp2_with fail
    refine (HG.out _).mono ?_
    rintro e w2 ⟨rfl, hb2⟩
    go_wp2_with fail
    refine (HT.out _ (below_step hb1 hb2)).mono ?_
    rintro e w3 ⟨v, rfl, ho, hb3⟩
    have HB3 := Lib.hid (below_step HB.out (below_step (below_step hb1 hb2) hb3))
    clear ho hb1 hb2 hb3
    go_wp2
    exact bodyPost_ret (v := .tuple #[.bool b, .int .i64 0]) (by simp [results, Tryz.results17, go_sem]) rfl ⟨rfl, HB3.out⟩
  · have hA : itlM p m t = (false, codeLP m t p) := by unfold itlM; rw [if_neg h0]
    rw [hA]
    obtain ⟨n1, n2⟩ := ne_facts h0
    obtain ⟨C, hC⟩ : ∃ C, codeLP m t p = C := ⟨_, rfl⟩
    rw [hC] at HC n1 n2 ⊢
    obtain ⟨x1, x2, x3⟩ := B1.out
    clear b1 hwb hW hr hz h0 hA hC
    go_enter Tryz.func17, Tryz.ntmps17
    go_wp2_with fail
    rw [HW.out]
    go_wp2_with fail
    refine HC.out.mono ?_
    rintro e w1 ⟨rfl, hb1⟩
    go_wp2
    exact bodyPost_ret (v := .tuple #[.bool false, .int .i64 C]) (by simp [results, Tryz.results17, go_sem]) rfl ⟨rfl, below_step HB.out hb1⟩
end Go.Proofs.YtfhdgcndiljjcabGreat

/- Contracts of CoordinatePlane, of the program and of the model. -/
namespace Go.Proofs.YtfhdgcndiljjcabGreat
open Go.RowKit Go.WideShapes Go.ChangeShapes Go.ChangeAt
end Go.Proofs.YtfhdgcndiljjcabGreat

/- Contracts of LazardCocycle, of the program and of the model. -/
namespace Go.Proofs.YtfhdgcndiljjcabGreat
open Go.RowKit Go.WideShapes Go.ChangeShapes Go.ChangeAt
set_option maxHeartbeats 8000000 in
set_option maxRecDepth 100000 in
theorem l07Cocycle_any (m : Int) (n : Nat) (w : World) (m1 : 2 ≤ m) (m2 : m ≤ 10000) (n1 : 2 ≤ n) (n2 : n ≤ 10) :
    Calls Tryz.prog 87 #[.int .i64 m, .int .i64 n] w fun e w' => ∃ v, e = .returned v ∧ OwnR w' w.heap.size w'.heap.size v (lazT m n) ∧ Below w.heap.size w w' := by
  have HZ := Lib.hid (fun W0 => l03Zero_any m n W0 (by omega))
  have hlz := fun W0 => l01Lazard_any (n : Int) W0 (by omega) (by omega)
  rw [show ((n : Int).toNat - 1) = n - 1 by omega] at hlz
  obtain ⟨D, hD⟩ : ∃ D, lz (n : Int) (n - 1) = D := ⟨_, rfl⟩
  have hDp : 0 < D := by rw [← hD]; exact lz_pos _ (by omega) (by omega)
  have hDb := (lz_bd (n := (n : Int)) (by omega) (n - 1) (by omega)).2
  rw [hD] at hlz hDb
  have HLZ := Lib.hid hlz
  have HF := Lib.hid (fun k (h0 : 0 < k) (h : k < n) => by have := layF_mid h0 h; rw [hD] at this; exact this)
  have hD0 : ¬ D = 0 := by omega
  have hD1 : ¬ D = -1 := by omega
  have hm0 : ¬ m = 0 := by omega
  have hm1 : ¬ m = -1 := by omega
  clear hlz hD
  go_enter Tryz.func87, Tryz.ntmps87
  go_wp2_with fail
  refine (HZ.out _).mono ?_
  rintro e w1 ⟨v, rfl, ho, hb1⟩
  rw [← lazQ_one m n] at ho
  obtain ⟨g, cv, rfl⟩ := ho.openv (by rw [Pl.tab_length]; omega)
  rw [Pl.tab_length] at ho ⊢
  go_wp2_with fail
  refine (HLZ.out _).mono ?_
  rintro e w2 ⟨rfl, hb2⟩
  have HO1 := Lib.hid ((ho.keep hb2).more hb2.size)
  have HB1 := Lib.hid (below_step hb1 hb2)
  clear ho hb1 hb2
  go_wp2
  go_loopw [7] (fun i wr => ∃ q : Nat, 1 ≤ q ∧ q ≤ n ∧ i = .int .i64 q ∧ OwnR wr w.heap.size wr.heap.size (.slice (some ⟨g, 0, none⟩) (n + 1) cv) (Pl.tab m n (lazQ n q)) ∧ Below w.heap.size w wr) (fun i _ => n + 2 - (intOf i).toNat)
  case atStart => exact ⟨1, Nat.le_refl _, by omega, rfl, HO1.out, HB1.out⟩
  case round =>
    clear HO1 HB1
    obtain ⟨q, hq1, hq, rfl, hown, hbel⟩ := hrel
    have HO := Lib.hid hown
    have HB := Lib.hid hbel
    clear hown hbel
    by_cases hlt : q < n
    · have hst := lazQ_step (m := m) (n := n) (k := q) hlt
      have hf := HF.out q (by omega) hlt
      rw [hf] at hst
      obtain ⟨q1, q2⟩ := binI_bd (n := (n : Int)) (k := (q : Int)) (by omega)
      have HC := Lib.hid (fun W0 => l01Binomial_any (n : Int) (q : Int) W0 (by omega) (by omega) (by omega) (by omega))
      obtain ⟨X, hX⟩ : ∃ X, binI (n : Int) (q : Int) = X := ⟨_, rfl⟩
      rw [hX] at HC q1 q2 hst
      have hq : 0 ≤ X.tdiv D ∧ X.tdiv D ≤ X := by
        rw [Int.tdiv_eq_ediv_of_nonneg q1]
        exact ⟨Int.ediv_nonneg q1 (by omega), Int.ediv_le_self _ q1⟩
      obtain ⟨Y, hY⟩ : ∃ Y, X.tdiv D = Y := ⟨_, rfl⟩
      rw [hY] at hq hst
      obtain ⟨Z, hZ⟩ : ∃ Z, Y % m = Z := ⟨_, rfl⟩
      have hZ2 : Y.tmod m = Z := by rw [Int.tmod_eq_emod_of_nonneg hq.1]; exact hZ
      rw [hZ] at hst
      obtain ⟨r, hr⟩ : ∃ r, n - q = r := ⟨_, rfl⟩
      have hr2 : (n : Int) - (q : Int) = (r : Int) := by omega
      obtain ⟨b2, c2, g1, g2, g3, g4, hcel⟩ := HO.out.numB q r (n - q + 1) (by rw [Pl.tab_length]; omega) (by rw [Pl.tab_row m n _ q (by omega), Ser.cut_length]) (by omega)
      rw [hr] at hst hcel
      obtain ⟨M, hM⟩ : ∃ M, r + 1 = M := ⟨_, rfl⟩
      obtain ⟨c4, -, -, -⟩ := hcel wr (Below.refl _ _)
      rw [hM] at c4
      have i0 : (0 : Int) ≤ (q : Int) := by omega
      have i1 : (q : Int) < (n : Int) := by omega
      have i2 : (q : Int) < (n : Int) + 1 := by omega
      have i3 : (r : Int) < (M : Int) := by omega
      have i4 : (0 : Int) ≤ (r : Int) := by omega
      have HCEL := Lib.hid hcel
      have HST := Lib.hid hst
      clear hst hcel hf hX hZ hr hM g1 g3 g4
      go_wp2_with fail
      refine (HC.out _).mono ?_
      rintro e w3 ⟨rfl, hb3⟩
      obtain ⟨c5, c6, c7, c8⟩ := HCEL.out w3 (hb3.mono (Nat.le_refl _))
      have h8 := c8 Z
      rw [HST.out] at h8
      have HO3 := Lib.hid (h8.more (show wr.heap.size ≤ (w3.setCell ⟨b2, r, none⟩ (.int .i64 Z)).heap.size by have := hb3.size; simp [World.setCell]; omega))
      have HB3 := Lib.hid ((below_step HB.out hb3).setCell (p := ⟨b2, r, none⟩) (by show w.heap.size ≤ b2; omega) (.int .i64 Z))
      clear h8 c8 c5 hb3
      go_wp2
      go_roundw
      case rel => exact ⟨q + 1, by omega, hlt, by go_num, HO3.out, HB3.out⟩
      case measure => simp only [intOf]; omega
    · obtain rfl : q = n := by omega
      have i1 : ¬ ((q : Int) < (q : Int)) := by omega
      have HSE := Lib.hid (lazQ_end m q)
      go_wp2
      go_ret
      exact ⟨_, rfl, by unfold lazT; rw [← HSE.out]; exact HO.out, HB.out⟩
end Go.Proofs.YtfhdgcndiljjcabGreat

/- Contracts of the model's IsCocycle and CocycleFactor. -/
namespace Go.Proofs.YtfhdgcndiljjcabGreat
open Go.RowKit Go.WideShapes Go.ChangeShapes Go.ChangeAt
theorem fits_eq {m q F P : Int} (m1 : 2 ≤ m) (q0 : 0 ≤ q) (p0 : 0 ≤ P) (p1 : P < m) : (q * (F % m)).tmod m = P ↔ (q * F - P) % m = 0 := by
  have h0 : 0 ≤ q * (F % m) := Int.mul_nonneg q0 (Int.emod_nonneg _ (by omega))
  rw [Int.tmod_eq_emod_of_nonneg h0, Int.mul_emod, Int.emod_emod, ← Int.mul_emod, ← Int.emod_eq_emod_iff_emod_sub_eq_zero, Int.emod_eq_of_lt p0 p1]
end Go.Proofs.YtfhdgcndiljjcabGreat

/- Contract of l07Factor, of the model, where there may be no factor. -/
namespace Go.Proofs.YtfhdgcndiljjcabGreat
open Go Go.RowKit Go.WideShapes Go.ChangeShapes Go.ChangeAt
/-- the factor, or -1 -/
def facR (m : Int) (l : List Int) (n : Nat) : Int := if (Cyc.facO m l n).isSome = true then Cyc.facM m l n else -1
theorem facR_hit {m : Int} (m1 : 2 ≤ m) (m2 : m ≤ 10000) {l : List Int} {n : Nat} {c : Int} (hc : 0 ≤ c) (hf : Cyc.Fits m l n c) (hn : ∀ c', 0 ≤ c' → c' < c → ¬ Cyc.Fits m l n c') : facR m l n = c := by
  unfold facR
  cases h : Cyc.facO m l n with
  | none => exact absurd hf (Cyc.facO_none m1 m2 h c)
  | some X => exact Cyc.facM_first m1 m2 hc hf hn
theorem facR_none {m : Int} (m1 : 2 ≤ m) (m2 : m ≤ 10000) {l : List Int} {n : Nat} (hn : ∀ c', 0 ≤ c' → c' < m → ¬ Cyc.Fits m l n c') : facR m l n = -1 := by
  unfold facR
  cases h : Cyc.facO m l n with
  | none => rfl
  | some X =>
    obtain ⟨b1, b2, b3, -⟩ := Cyc.facO_some m1 m2 h
    exact absurd b3 (hn _ b1 b2)
set_option maxHeartbeats 16000000 in
set_option maxRecDepth 100000 in
theorem l07FactorO_any (m : Int) (d : Nat) (A : Option Addr) (c : Nat) (t : List (List Int)) (w : World) (d1 : 2 ≤ d) (ok : Pl.Ok m d t) (hr : RP w A t) :
    Calls Tryz.prog 52 #[.int .i64 m, .slice A t.length c] w fun e w' => e = .returned (.int .i64 (facR m (layC m t d) d)) ∧ Below w.heap.size w w' := by
  have m1 := ok.m1
  have m2 := ok.m2
  have hd2 := ok.d2
  have HZ := Lib.hid (fun W0 => l07Cocycle_any m d W0 m1 m2 d1 hd2)
  have okl : Pl.Ok m d (lazT m d) := Pl.Ok.of_tab m1 m2 (by omega) hd2 _
  obtain ⟨b, off, rfl⟩ := hr.some (by rw [ok.len]; omega)
  have HNUM := Lib.hid (rp_num_in hr ok)
  have HPC := Lib.hid (fun i j => ok.pc i j)
  have HLC := Lib.hid (fun i (hi : i ≤ d) => layC_co ok d i hi)
  have HFF := Lib.hid (fun q (h0 : 0 ≤ q) (hf : Cyc.Fits m (layC m t d) d q) hn => facR_hit m1 m2 h0 hf hn)
  have HFN := Lib.hid (fun (hn : ∀ c' : Int, 0 ≤ c' → c' < m → ¬ Cyc.Fits m (layC m t d) d c') => facR_none m1 m2 hn)
  obtain ⟨R, hR⟩ : ∃ R, facR m (layC m t d) d = R := ⟨_, rfl⟩
  rw [hR] at HFF HFN ⊢
  have HFT := Lib.hid (show ∀ q : Int, Cyc.Fits m (layC m t d) d q ↔ ∀ i, i ≤ d → (q * layF d i - Pl.pc t i (d - i)) % m = 0 from fun q => by
    unfold Cyc.Fits
    exact ⟨fun h i hi => by have := h i hi; rwa [layC_co ok d i hi] at this, fun h i hi => by rw [layC_co ok d i hi]; exact h i hi⟩)
  obtain ⟨F, hF⟩ : ∃ F, Cyc.Fits m (layC m t d) d = F := ⟨_, rfl⟩
  rw [hF] at HFF HFN HFT
  have hlt := ok.len
  obtain ⟨L, hL⟩ : ∃ L, t.length = L := ⟨_, rfl⟩
  have HLd := Lib.hid (hL.symm.trans hlt)
  rw [hL] at hlt ⊢
  subst hlt
  obtain ⟨N, hN⟩ : ∃ N : Nat, (N : Int) = m := ⟨m.toNat, by omega⟩
  clear hr hR hF hL ok
  go_enter Tryz.func52, Tryz.ntmps52
  go_wp2_with fail
  refine (HZ.out _).mono ?_
  rintro e w1 ⟨v, rfl, ho, hb1⟩
  have hll : (lazT m d).length = d + 1 := okl.len
  obtain ⟨g, cv, rfl⟩ := ho.openv (by rw [hll]; omega)
  rw [hll] at ho ⊢
  have HNL := Lib.hid (rp_num_in ho.rp okl)
  have HPL := Lib.hid (fun i (hi : i ≤ d) => (by
    unfold lazT
    rw [Pl.pc_tab (by omega)]
    unfold ofLay
    rw [if_neg (by omega)] : Pl.pc (lazT m d) i (d - i) = layF d i % m))
  have HB1 := Lib.hid hb1
  have hm0 : ¬ m = 0 := by omega
  have hm1 : ¬ m = -1 := by omega
  clear ho hb1 okl hll HZ
  go_wp2
  go_loopw [7] (fun s7 wr => ∃ q : Nat, (q : Int) ≤ m ∧ s7 = .int .i64 q ∧ (∀ c' : Int, 0 ≤ c' → c' < q → ¬ F c') ∧ Below w1.heap.size w1 wr) (fun s7 _ => N + 2 - (intOf s7).toNat)
  case atStart => exact ⟨0, by omega, rfl, fun c' h h' => absurd h' (by omega), Below.refl _ _⟩
  case round =>
    obtain ⟨q, hq, rfl, hno, hbel⟩ := hrel
    have HNO := Lib.hid hno
    have HB := Lib.hid hbel
    clear hno hbel
    by_cases hltq : (q : Int) < m
    · obtain ⟨w5, hw5⟩ : ∃ x, x = wr := ⟨_, rfl⟩
      subst hw5
      go_wp2
      go_loopw [8, 9] (fun s8 s9 wq => ∃ (i : Nat) (bb : Bool), i ≤ d + 1 ∧ s9 = .int .i64 i ∧ s8 = .bool bb ∧ (bb = true → ∀ i', i' < i → ((q : Int) * layF d i' - Pl.pc t i' (d - i')) % m = 0) ∧ (bb = false → ¬ F (q : Int)) ∧ Below w1.heap.size w1 wq) (fun _ s9 _ => d + 2 - (intOf s9).toNat)
      case atStart => exact ⟨0, true, by omega, rfl, rfl, fun _ i' h => absurd h (by omega), fun h => (by cases h), HB.out⟩
      case round =>
        clear HB
        obtain ⟨i, bb, hi, rfl, rfl, hy, hn, hbq⟩ := hrel
        have HY := Lib.hid hy
        have HN := Lib.hid hn
        have HQ := Lib.hid hbq
        clear hy hn hbq
        cases bb with
        | true =>
          by_cases hlti : i < d + 1
          · have i1 : (i : Int) ≤ (d : Int) := by omega
            obtain ⟨b1, off1, c1, n1, hn1, z1, z2⟩ := HNUM.out i (d - i) wr (by omega) (below_step HB1.out HQ.out)
            obtain ⟨b2, off2, c2, n2, hn2, z3, z4⟩ := HNL.out i (d - i) wr (by omega) HQ.out
            rw [HPL.out i (by omega)] at z4
            simp only [Nat.zero_add] at z3
            have p1 := HPC.out i (d - i)
            have i2 : (d : Int) - (i : Int) < (n1 : Int) := by omega
            have i3 : (d : Int) - (i : Int) < (n2 : Int) := by omega
            have i4 : (0 : Int) ≤ (d : Int) - (i : Int) := by omega
            have i5 : ((d : Int) - (i : Int)).toNat = d - i := by omega
            have i6 : (0 : Int) ≤ (i : Int) := by omega
            have i7 : (i : Int) < (d : Int) + 1 := by omega
            have i8 : IntKind.i64.wrap ((d : Int) - (i : Int)) = (d : Int) - (i : Int) := by rw [IntKind.wrap_i64]; omega
            have heq := fits_eq (F := layF d i) m1 (show (0 : Int) ≤ (q : Int) by omega) p1.1 p1.2
            have r1 : 0 ≤ layF d i % m ∧ layF d i % m < m := ⟨Int.emod_nonneg _ hm0, Int.emod_lt_of_pos _ (by omega)⟩
            obtain ⟨P, hP⟩ : ∃ P, Pl.pc t i (d - i) = P := ⟨_, rfl⟩
            obtain ⟨C, hC⟩ : ∃ C, layF d i % m = C := ⟨_, rfl⟩
            have hst : ((q : Int) * C).tmod m = P ↔ ((q : Int) * layF d i - Pl.pc t i (d - i)) % m = 0 := by rw [← hC, ← hP]; exact heq
            have HST := Lib.hid hst
            rw [hP] at z2 p1
            rw [hC] at z4 r1
            have u1 : 0 ≤ (q : Int) * C ∧ (q : Int) * C ≤ 100000000 := ⟨Int.mul_nonneg (show (0 : Int) ≤ (q : Int) by omega) r1.1, by have := Int.mul_le_mul (show (q : Int) ≤ 10000 by omega) (show C ≤ 10000 by omega) r1.1 (by omega); omega⟩
            obtain ⟨U, hU⟩ : ∃ U, (q : Int) * C = U := ⟨_, rfl⟩
            rw [hU] at u1 HST
            obtain ⟨V, hV⟩ : ∃ V, U.tmod m = V := ⟨_, rfl⟩
            rw [hV] at HST
            have i9 : IntKind.i64.wrap U = U := by rw [IntKind.wrap_i64]; omega
            clear heq hst hP hC HNUM HNL HPL hn1 hn2
            by_cases hvp : V = P
            · have HN2 := Lib.hid (fun i' (h : i' < i + 1) => (by
                by_cases e : i' = i
                · subst e; exact HST.out.1 hvp
                · exact HY.out rfl i' (by omega) : ((q : Int) * layF d i' - Pl.pc t i' (d - i')) % m = 0))
              subst hvp
              go_wp2
              go_quiet (fail)
              go_wp2
              go_roundw
              case rel => first
                | exact ⟨i + 1, true, by omega, by first | rfl | go_num, by first | rfl | simp, fun _ => HN2.out, fun h => (by cases h), below_drewN HQ.out _⟩
                | exact ⟨_, ⟨i + 1, true, by omega, by first | rfl | go_num, by first | rfl | simp, fun _ => HN2.out, fun h => (by cases h), below_drewN HQ.out _⟩, rfl⟩
              case measure => simp only [intOf]; omega
            · have k1 : (V == P) = false := by simpa using hvp
              have k2 : (V != P) = true := by simpa using hvp
              have HF0 : Hid (¬ F (q : Int)) := Lib.hid (fun h => hvp (HST.out.2 ((HFT.out q).1 h i (by omega))))
              go_wp2
              go_quiet (fail)
              go_wp2
              go_roundw
              case rel => first
                | exact ⟨i + 1, false, by omega, by first | rfl | go_num, by first | rfl | simp, fun h => (by cases h), fun _ => HF0.out, below_drewN HQ.out _⟩
                | exact ⟨_, ⟨i + 1, false, by omega, by first | rfl | go_num, by first | rfl | simp, fun h => (by cases h), fun _ => HF0.out, below_drewN HQ.out _⟩, rfl⟩
              case measure => simp only [intOf]; omega
          · obtain rfl : i = d + 1 := by omega
            have i1 : ¬ ((d : Int) + 1 ≤ (d : Int)) := by omega
            have HR0 : Hid (R = (q : Int)) := Lib.hid (HFF.out q (by omega) ((HFT.out q).2 (fun i hi => HY.out rfl i (by omega))) HNO.out)
            go_wp2
            go_ret
            exact ⟨by rw [HR0.out]; rfl, below_step HB1.out HQ.out⟩
        | false =>
          have HN2 := Lib.hid (fun (c' : Int) (h0 : 0 ≤ c') (h : c' < (q : Int) + 1) => (by
            by_cases e : c' = (q : Int)
            · subst e; exact HN.out rfl
            · exact HNO.out c' h0 (by omega) : ¬ F c'))
          by_cases hlti : i < d + 1
          · have i1 : (i : Int) ≤ (d : Int) := by omega
            go_wp2
            go_roundw
            case rel => first
              | exact ⟨q + 1, by omega, by go_num, HN2.out, HQ.out⟩
              | exact ⟨_, ⟨q + 1, by omega, by go_num, HN2.out, HQ.out⟩, rfl⟩
              | exact ⟨_, _, ⟨q + 1, by omega, by go_num, HN2.out, HQ.out⟩, rfl, rfl⟩
              | exact ⟨_, _, _, ⟨q + 1, by omega, by go_num, HN2.out, HQ.out⟩, rfl, rfl, rfl⟩
            case measure => simp only [intOf]; omega
          · obtain rfl : i = d + 1 := by omega
            have i1 : ¬ ((d : Int) + 1 ≤ (d : Int)) := by omega
            go_wp2
            go_roundw
            case rel => first
              | exact ⟨q + 1, by omega, by go_num, HN2.out, HQ.out⟩
              | exact ⟨_, ⟨q + 1, by omega, by go_num, HN2.out, HQ.out⟩, rfl⟩
              | exact ⟨_, _, ⟨q + 1, by omega, by go_num, HN2.out, HQ.out⟩, rfl, rfl⟩
              | exact ⟨_, _, _, ⟨q + 1, by omega, by go_num, HN2.out, HQ.out⟩, rfl, rfl, rfl⟩
            case measure => simp only [intOf]; omega
    · have e : (q : Int) = m := by omega
      have HR9 := Lib.hid (HFN.out (fun c' h0 h1 => HNO.out c' h0 (by omega)))
      go_wp2
      go_ret
      exact ⟨by rw [HR9.out]; rfl, below_step HB1.out HB.out⟩
end Go.Proofs.YtfhdgcndiljjcabGreat

/- Contracts of the model's comparison of lists and of tables. -/
namespace Go.Proofs.YtfhdgcndiljjcabGreat
open Go.RowKit Go.WideShapes Go.ChangeShapes Go.ChangeAt
set_option maxHeartbeats 1000000 in
theorem l01Same_q (A B : Option Addr) (c d : Nat) (l r : List Int) (w : World) (hl : l.length ≤ 10485760) (hr : r.length ≤ 10485760) (ha : RI w A l) (hb : RI w B r) :
    Calls Tryz.prog 90 #[.slice A l.length c, .slice B r.length d] w fun e w' => e = .returned (.bool (decide (l = r))) ∧ ∃ n, w' = w.drewN n := by
  obtain ⟨R, hR⟩ : ∃ R, decide (l = r) = R := ⟨_, rfl⟩
  rw [hR]
  by_cases hlen : r.length = l.length
  · have HY := Lib.hid (fun (h : ∀ j : Nat, j < l.length → l[j]?.getD 0 = r[j]?.getD 0) => hR.symm.trans (decide_eq_true (List.ext_getElem? (fun i => by
      by_cases hi : i < l.length
      · have := h i hi
        rw [List.getElem?_eq_getElem hi, List.getElem?_eq_getElem (by omega)] at this ⊢
        exact congrArg some this
      · rw [List.getElem?_eq_none (by omega), List.getElem?_eq_none (by omega)]))))
    have HN := Lib.hid (fun (j : Nat) (h : ¬ l[j]?.getD 0 = r[j]?.getD 0) => hR.symm.trans (decide_eq_false (fun he => h (congrArg (fun (u : List Int) => u[j]?.getD 0) he))))
    obtain ⟨N, hN⟩ : ∃ N, l.length = N := ⟨_, rfl⟩
    have HLL := Lib.hid hlen
    rw [hlen]
    rw [hN] at HY hl ⊢
    have HLN := Lib.hid hN
    clear hR hlen hN
    go_enter Tryz.func90, Tryz.ntmps90
    go_wp2
    go_loopw [5] (fun i wr => ∃ j n : Nat, j ≤ N ∧ i = .int .i64 j ∧ wr = w.drewN n ∧ ∀ q : Nat, q < j → l[q]?.getD 0 = r[q]?.getD 0) (fun i _ => N - (intOf i).toNat)
    case atStart => exact ⟨0, 0, Nat.zero_le _, rfl, rfl, fun q h => absurd h (Nat.not_lt_zero _)⟩
    case round =>
      obtain ⟨j, n, hj, rfl, hw, hall⟩ := hrel
      have HW := Lib.hid hw
      have HA := Lib.hid hall
      have hcell : ∀ p : Addr, wr.cell? p = w.cell? p := by intro p; rw [hw]; rfl
      clear hw hall
      by_cases hlt : j < N
      · have hN := HLN.out
        have hlen := HLL.out
        obtain ⟨b, off, rfl, hb1, hc1⟩ := ha (by rintro rfl; simp at hN; omega)
        obtain ⟨b', off', rfl, hb2, hc2⟩ := hb (by rintro rfl; simp at hlen; omega)
        have h1 := (hcell ⟨b, off + j, none⟩).trans (hc1 j (by omega))
        have h2 := (hcell ⟨b', off' + j, none⟩).trans (hc2 j (by omega))
        have hne := HN.out j
        obtain ⟨X, hX⟩ : ∃ x, l[j]?.getD 0 = x := ⟨_, rfl⟩
        obtain ⟨Y, hY⟩ : ∃ x, r[j]?.getD 0 = x := ⟨_, rfl⟩
        rw [hX] at h1 hne
        rw [hY] at h2 hne
        have j1 : (0 : Int) ≤ (j : Int) := by omega
        have j2 : (j : Int) < (N : Int) := by omega
        clear hc1 hc2 ha hb hcell hN hlen
        by_cases hxy : X = Y
        · subst hxy
          have HX := Lib.hid (hX.trans hY.symm)
          clear hX hY hne
          go_wp2
          go_quiet (fail)
          go_wp2
          go_roundw
          case rel => exact ⟨j + 1, n + nq, by omega, by go_num, by rw [HW.out, World.drewN_drewN], fun q hq => (Nat.lt_succ_iff_lt_or_eq.1 hq).elim (HA.out q) (fun h => h ▸ HX.out)⟩
          case measure => simp only [intOf]; omega
        · have HRF := Lib.hid (hne hxy)
          obtain ⟨n1, n2⟩ : (X == Y) = false ∧ (X != Y) = true := ⟨by simpa using hxy, by simpa using hxy⟩
          clear hX hY hne
          go_wp2
          go_quiet (fail)
          go_wp2
          go_ret
          exact ⟨ret_bool HRF.out.symm, n + nq, by rw [HW.out, World.drewN_drewN]⟩
      · obtain rfl : j = N := by omega
        have HRT := Lib.hid (HY.out HA.out)
        clear hcell
        go_wp2
        go_ret
        exact ⟨ret_bool HRT.out.symm, n, HW.out⟩
  · have hRf : R = false := by rw [← hR]; exact decide_eq_false (fun he => hlen (by rw [he]))
    have HRF := Lib.hid hRf
    have hlen2 : ¬ (l.length : Int) = (r.length : Int) := by omega
    obtain ⟨n1, n2⟩ : ((l.length : Int) == (r.length : Int)) = false ∧ ((l.length : Int) != (r.length : Int)) = true := ⟨by simpa using hlen2, by simpa using hlen2⟩
    obtain ⟨N, hN⟩ : ∃ N, l.length = N := ⟨_, rfl⟩
    obtain ⟨M, hM⟩ : ∃ M, r.length = M := ⟨_, rfl⟩
    rw [hN, hM] at n1 n2 hlen2
    rw [hN] at hl ⊢
    rw [hM] at hr ⊢
    clear hR hRf hlen hN hM ha hb
    go_enter Tryz.func90, Tryz.ntmps90
    go_wp2
    go_ret
    exact ⟨ret_bool HRF.out.symm, 0, rfl⟩
/-- rows of a table where they lie -/
def RowsAt (w : World) (A : Option Addr) (t : List (List Int)) : Prop := ∀ k, k < t.length → ∃ b off A' c', A = some ⟨b, off, none⟩ ∧ b < w.heap.size ∧ w.cell? ⟨b, off + k, none⟩ = some (.slice A' (Pl.rw' t k).length c') ∧ RI w A' (Pl.rw' t k)
theorem RP.rowsAt {w : World} {A : Option Addr} {t : List (List Int)} (h : RP w A t) : RowsAt w A t := by
  intro k hk
  obtain ⟨b, off, A', c', rfl, h1, h2, _, h3⟩ := h.at k hk
  exact ⟨b, off, A', c', rfl, h1, h2, h3⟩
set_option maxHeartbeats 1000000 in
theorem l01Same2_any (A B : Option Addr) (c d : Nat) (t u : List (List Int)) (w : World) (hlen : u.length = t.length) (hl : t.length ≤ 1000) (h1 : ∀ k, (Pl.rw' t k).length ≤ 10485760) (h2 : ∀ k, (Pl.rw' u k).length ≤ 10485760) (ha : RP w A t) (hb : RP w B u) :
    Calls Tryz.prog 55 #[.slice A t.length c, .slice B u.length d] w fun e w' => e = .returned (.bool (decide (t = u))) ∧ Below w.heap.size w w' := by
  have HA1 := Lib.hid ha.rowsAt
  have HB1 := Lib.hid hb.rowsAt
  obtain ⟨R, hR⟩ : ∃ R, decide (t = u) = R := ⟨_, rfl⟩
  rw [hR]
  have HY := Lib.hid (fun (h : ∀ j, j < t.length → Pl.rw' t j = Pl.rw' u j) => hR.symm.trans (decide_eq_true (List.ext_getElem? (fun i => by
    by_cases hi : i < t.length
    · have := h i hi
      unfold Pl.rw' at this
      rw [List.getElem?_eq_getElem hi, List.getElem?_eq_getElem (by omega)] at this ⊢
      exact congrArg some this
    · rw [List.getElem?_eq_none (by omega), List.getElem?_eq_none (by omega)]))))
  have HN := Lib.hid (fun j (h : ¬ Pl.rw' t j = Pl.rw' u j) => hR.symm.trans (decide_eq_false (fun he => h (congrArg (fun u => Pl.rw' u j) he))))
  have H1 := Lib.hid h1
  have H2 := Lib.hid h2
  obtain ⟨N, hN⟩ : ∃ N, t.length = N := ⟨_, rfl⟩
  have HLL := Lib.hid hlen
  rw [hlen]
  rw [hN] at HY hl ⊢
  have HLN := Lib.hid hN
  clear hR hlen hN ha hb h1 h2
  go_enter Tryz.func55, Tryz.ntmps55
  go_wp2
  go_loopw [5] (fun i wr => ∃ j : Nat, j ≤ N ∧ i = .int .i64 j ∧ Below w.heap.size w wr ∧ ∀ q, q < j → Pl.rw' t q = Pl.rw' u q) (fun i _ => N - (intOf i).toNat)
  case atStart => exact ⟨0, Nat.zero_le _, rfl, Below.refl _ _, fun q h => absurd h (Nat.not_lt_zero _)⟩
  case round =>
    obtain ⟨j, hj, rfl, hbel, hall⟩ := hrel
    have HB := Lib.hid hbel
    have HA := Lib.hid hall
    clear hbel hall
    by_cases hlt : j < N
    · have hN := HLN.out
      have hlen := HLL.out
      obtain ⟨b, off, A1, c1, rfl, g1, k1, r1⟩ := HA1.out j (by omega)
      obtain ⟨b', off', A2, c2, rfl, g2, k2, r2⟩ := HB1.out j (by omega)
      have e1 := (HB.out.cell (p := ⟨b, off + j, none⟩) g1).trans k1
      have e2 := (HB.out.cell (p := ⟨b', off' + j, none⟩) g2).trans k2
      have hne := HN.out j
      have b1 := H1.out j
      have b2 := H2.out j
      obtain ⟨X, hX⟩ : ∃ x, Pl.rw' t j = x := ⟨_, rfl⟩
      obtain ⟨Y, hY⟩ : ∃ x, Pl.rw' u j = x := ⟨_, rfl⟩
      rw [hX] at e1 hne b1 r1
      rw [hY] at e2 hne b2 r2
      have R1 := Lib.hid (r1.below HB.out)
      have R2 := Lib.hid (r2.below HB.out)
      have j1 : (0 : Int) ≤ (j : Int) := by omega
      have j2 : (j : Int) < (N : Int) := by omega
      by_cases hxy : X = Y
      · have HX := Lib.hid (hX.trans (hxy.trans hY.symm))
        have HQ := Lib.hid (fun n => by have := l01Same_q A1 A2 c1 c2 X Y (wr.drewN n) b1 b2 R1.out R2.out; rw [decide_eq_true hxy] at this; exact this)
        clear hX hY hne k1 k2 r1 r2 hN hlen hxy b1 b2
        obtain ⟨n1, hn1⟩ : ∃ n, X.length = n := ⟨_, rfl⟩
        obtain ⟨n2, hn2⟩ : ∃ n, Y.length = n := ⟨_, rfl⟩
        rw [hn1] at e1 HQ
        rw [hn2] at e2 HQ
        clear hn1 hn2
        go_wp2
        go_quiet ((go_at_call 90; exact Calls.quiet_of (HQ.out _)))
        go_wp2
        go_roundw
        case rel => exact ⟨j + 1, by omega, by go_num, below_drewN HB.out _, fun q hq => (Nat.lt_succ_iff_lt_or_eq.1 hq).elim (HA.out q) (fun h => h ▸ HX.out)⟩
        case measure => simp only [intOf]; omega
      · have HRF := Lib.hid (hne hxy)
        have HQ := Lib.hid (fun n => by have := l01Same_q A1 A2 c1 c2 X Y (wr.drewN n) b1 b2 R1.out R2.out; rw [decide_eq_false hxy] at this; exact this)
        clear hX hY hne k1 k2 r1 r2 hN hlen hxy b1 b2
        obtain ⟨n1, hn1⟩ : ∃ n, X.length = n := ⟨_, rfl⟩
        obtain ⟨n2, hn2⟩ : ∃ n, Y.length = n := ⟨_, rfl⟩
        rw [hn1] at e1 HQ
        rw [hn2] at e2 HQ
        clear hn1 hn2
        go_wp2
        go_quiet ((go_at_call 90; exact Calls.quiet_of (HQ.out _)))
        go_wp2
        go_ret
        exact ⟨ret_bool HRF.out.symm, below_drewN HB.out _⟩
    · obtain rfl : j = N := by omega
      have HRT := Lib.hid (HY.out HA.out)
      go_wp2
      go_ret
      exact ⟨ret_bool HRT.out.symm, HB.out⟩
end Go.Proofs.YtfhdgcndiljjcabGreat

/- Contracts of CutPlane and ChangePlane, of the model. -/
namespace Go.Proofs.YtfhdgcndiljjcabGreat
open Go.RowKit Go.WideShapes Go.ChangeShapes Go.ChangeAt
theorem cut_row {m : Int} {d : Nat} {t : List (List Int)} (hs : Pl.Ok m d t) (e q : Nat) (he : e ≤ d) (hq : q ≤ e) : Ser.cut m (e - q) (Pl.pc t q) = (Pl.rw' t q).take (e - q + 1) := by
  refine Ser.list_ext (by rw [Ser.cut_length, List.length_take, hs.row q (by omega)]; omega) (fun i hi => ?_)
  rw [Ser.cut_length] at hi
  rw [Ser.co_cut (by omega), Int.emod_eq_of_lt (hs.pc q i).1 (hs.pc q i).2]
  unfold Pl.pc Ser.co
  rw [List.getElem?_take_of_lt (by omega)]
set_option maxHeartbeats 2000000 in
set_option maxRecDepth 100000 in
theorem l03Cut_any (m : Int) (d : Nat) (A : Option Addr) (c : Nat) (t : List (List Int)) (e : Nat) (w : World) (hs : Pl.Ok m d t) (hr : RP w A t) (he : e ≤ d) :
    Calls Tryz.prog 54 #[.slice A t.length c, .int .i64 e] w fun e' w' => ∃ v, e' = .returned v ∧ OwnR w' w.heap.size w'.heap.size v (Pl.tab m e (Pl.pc t)) ∧ Below w.heap.size w w' := by
  have HR := Lib.hid hr
  have HS := Lib.hid hs
  have hl := hs.len
  have hd2 := hs.d2
  obtain ⟨L, hL⟩ : ∃ L, t.length = L := ⟨_, rfl⟩
  have HL := Lib.hid (hL.symm.trans hl)
  have hLb : L ≤ 11 := by omega
  have HE := Lib.hid he
  have heb : e ≤ 10 := by omega
  rw [hL]
  clear hr hs hL hl he
  go_enter Tryz.func54, Tryz.ntmps54
  go_wp2
  go_loopw [5, 6] (fun r i wr => ∃ q : Nat, q ≤ e + 1 ∧ i = .int .i64 q ∧ OwnR wr w.heap.size wr.heap.size r ((Pl.tab m e (Pl.pc t)).take q) ∧ Below w.heap.size w wr) (fun _ i _ => e + 1 - (intOf i).toNat)
  case atStart => exact ⟨0, Nat.zero_le _, rfl, by simpa using OwnR.none0 w, below_one _ _⟩
  case round =>
    obtain ⟨q, hq, rfl, hown, hbel⟩ := hrel
    have HB := Lib.hid hbel
    have HO := Lib.hid hown
    have hsz := hbel.size
    clear hown
    by_cases hlt : q < e + 1
    · have hLd := HL.out
      have hed := HE.out
      obtain ⟨b, off, A1, c1, rfl, hb, hc, hcap, hri⟩ := HR.out.at q (by rw [HS.out.len]; omega)
      have e1 := (hbel.cell (p := ⟨b, off + q, none⟩) hb).trans hc
      have hrl := HS.out.row q (by omega)
      obtain ⟨row, hrow⟩ : ∃ row, (Pl.rw' t q).take (e - q + 1) = row := ⟨_, rfl⟩
      have hrowl : row.length = e - q + 1 := by rw [← hrow, List.length_take, hrl]; omega
      have hst : (Pl.tab m e (Pl.pc t)).take (q + 1) = (Pl.tab m e (Pl.pc t)).take q ++ [row] := by rw [Pl.tab_take_succ m e _ q (by omega), cut_row HS.out e q hed (by omega), hrow]
      have HA := Lib.hid (l01Own_any A1 c1 row wr (by intro h; rw [h] at hrowl; simp at hrowl) (by omega) (by rw [← hrow]; exact (hri.below hbel).take _))
      have HLEN := Lib.hid (show ((Pl.tab m e (Pl.pc t)).take q).length ≤ 1000000000000 by rw [List.length_take, Pl.tab_length]; omega)
      obtain ⟨M, hM⟩ : ∃ M, row.length = M := ⟨_, rfl⟩
      obtain ⟨N, hN⟩ : ∃ N, (Pl.rw' t q).length = N := ⟨_, rfl⟩
      rw [hM] at HA
      rw [hN] at e1 hcap hrl
      obtain ⟨b1, off1, hA1⟩ : ∃ b1 off1, A1 = some ⟨b1, off1, none⟩ := by
        obtain ⟨b1, off1, h1, _⟩ := hri.at 0 (by rw [hN]; omega)
        exact ⟨b1, off1, h1⟩
      subst hA1
      have HST := Lib.hid hst
      have HMM := Lib.hid hM
      have j0 : (0 : Int) ≤ (q : Int) := by omega
      have j1 : (q : Int) < (L : Int) := by omega
      have j2 : (q : Int) ≤ (e : Int) := by omega
      have j3 : (e : Int) - (q : Int) + 1 = (M : Int) := by omega
      have j4 : M ≤ c1 := by omega
      have j5 : (M : Int) ≤ (c1 : Int) := by omega
      have j6 : M ≤ 11 := by omega
      clear hst hrow hri hc hLd hbel hrowl hM hN hrl hcap hed
      go_wp2_with fail
      refine HA.out.mono ?_
      rintro e' w5 ⟨u, rfl, hou, hb5⟩
      obtain ⟨Au, cu, rfl, -⟩ := hou.form
      go_wp2_with (at_builtin; refine wp_pushU _ _ _ (by rfl) (by rfl) Tryz.underlying22 w.heap.size wr.heap.size _ _ (by rfl) (HO.out.keep hb5) hb5.size (.slice Au row.length cu) row (hou.more hsz) (fun g hg => (hou.lt g hg).1) w5.heap.size rfl (by rfl) HLEN.out (Nat.le_trans hsz hb5.size) ?_; intro v' w1 ho1 hpb)
      have HB1 := Lib.hid ((HB.out.trans (hb5.mono hsz)).trans hpb)
      have HO1 := Lib.hid ho1
      clear ho1 hpb hou hb5
      go_wp2
      go_roundw
      case rel => exact ⟨q + 1, by omega, by go_num, by rw [HST.out]; exact HO1.out, HB1.out⟩
      case measure => simp only [intOf]; omega
    · obtain rfl : q = e + 1 := by omega
      have ho := HO.out
      rw [Pl.tab_take_all] at ho
      have HF := Lib.hid ho
      clear ho
      go_wp2
      go_ret
      exact ⟨_, rfl, HF.out, HB.out⟩
end Go.Proofs.YtfhdgcndiljjcabGreat

