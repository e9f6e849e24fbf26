/- Contracts of the two trial divisions. -/
import Derived.Test.YtkhdbphdeabgnaaCode
import Derived.Test.YtkhdbphdeabgnaaPrm
import Derived.Deep.LoopGhost
import Derived.LoopN
import Derived.WalkMore
import Derived.Outline
namespace Go.Proofs.Ytkhdbphdeabgnaa
open Go.RowKit Go.WideShapes Go.ChangeShapes Go.ChangeAt

set_option maxHeartbeats 1000000 in
theorem l01Prime_any (n : Int) (w : World) (h1 : -1000000000000 ≤ n) (h2 : n ≤ 1000000000000) :
    Calls Try.prog 91 #[.int .i64 n] w fun e w' => e = .returned (.bool (Num.prB n)) ∧ w = w' := by
  go_enter Try.func91, Try.ntmps91
  go_wp2
  go_loop [3] (fun d => ∃ D : Nat, 2 ≤ D ∧ D ≤ 1000001 ∧ d = .int .i64 D ∧ Num.LowI D n) (fun d => 1000002 - (intOf d).toNat)
  case atStart => exact ⟨2, by omega, by omega, rfl, Num.LowI.two n⟩
  case round =>
    obtain ⟨D, d1, d2, rfl, hlow⟩ := hrel
    have HL := Lib.hid hlow
    clear hlow
    obtain ⟨p1, p2⟩ := Num.sq_le (d := (D : Int)) (c := 1000001) (by omega) (by omega)
    have p3 : (D : Int) * D ≤ 1000002000001 := by omega
    clear p2
    by_cases hsq : (D : Int) * D ≤ n
    · have hlin := Num.lin_sq (d := (D : Int)) (k := 2) (by omega) (by omega)
      by_cases hz : n % (D : Int) = 0
      · have HF := Lib.hid (Num.prB_no D d1 (by omega) hz)
        have hz' : (n % (D : Int) == 0) = true := by simpa using hz
        clear hz hlin
        go_wp2
        go_ret
        exact ⟨ret_bool HF.out.symm, rfl⟩
      · have HN := Lib.hid (Num.LowI.succ HL.out hz)
        have hz' : (n % (D : Int) == 0) = false := by simpa using hz
        have hD : D ≤ 1000000 := by
          apply Nat.le_of_not_lt; intro hlt
          obtain rfl : D = 1000001 := by omega
          omega
        clear hz hlin
        go_wp2
        go_round
        case rel => exact ⟨D + 1, by omega, by omega, by go_num, HN.out⟩
        case measure => simp only [intOf]; omega
    · by_cases hn : 2 ≤ n
      · have HF := Lib.hid (Num.LowI.prime HL.out (by omega) (by omega))
        go_wp2
        go_ret
        exact ⟨ret_bool (by rw [HF.out]), rfl⟩
      · have HF := Lib.hid (show Num.prB n = false by rw [Num.prB_small (by omega)]; simp; omega)
        go_wp2
        go_ret
        exact ⟨ret_bool (by rw [HF.out]), rfl⟩

theorem idx0 (x y : Value) (w : World) : (Instr.index 66 (.agg #[x, y]) (.int .i64 0)).run Try.prog w = .ok x w := by kernel_rfl
theorem idx1 (x y : Value) (w : World) : (Instr.index 66 (.agg #[x, y]) (.int .i64 1)).run Try.prog w = .ok y w := by kernel_rfl

set_option maxHeartbeats 1000000 in
theorem isPrime_any (n : Int) (w : World) (h2 : n ≤ 1000000000000) :
    Calls Try.prog 85 #[.int .i64 n] w fun e w' => e = .returned (.bool (Num.prB n)) ∧ w = w' := by
  by_cases h4 : n < 4
  · have HF := Lib.hid (Num.prB_small h4)
    go_enter Try.func85, Try.ntmps85
    go_wp2
    go_step3
    go_wp2
    rw [Exit.noGoto_ret]
    go_ret
    exact ⟨ret_bool (by rw [HF.out]), rfl⟩
  · have i0 := idx0
    have i1 := idx1
    by_cases hz2 : n % 2 = 0
    · have HF := Lib.hid (Num.prB_no (n := n) 2 (by omega) (by omega) hz2)
      go_enter Try.func85, Try.ntmps85
      go_wp2
      go_step3
      go_wp2
      go_step3
      go_wp2
      refine wp_loop_rounds 1 ?_
      rw [rounds_succ]
      go_wp2
      rw [Exit.noGoto_ret]
      go_ret
      exact ⟨ret_bool HF.out.symm, rfl⟩
    · by_cases hz3 : n % 3 = 0
      · have HF := Lib.hid (Num.prB_no (n := n) 3 (by omega) (by omega) hz3)
        go_enter Try.func85, Try.ntmps85
        go_wp2
        go_step3
        go_wp2
        go_step3
        go_wp2
        refine wp_loop_rounds 1 ?_
        rw [rounds_succ]
        go_wp2
        rw [Exit.noGoto_ret]
        go_ret
        exact ⟨ret_bool HF.out.symm, rfl⟩
      · have HS := Lib.hid (Num.LowI.start hz2 hz3)
        have HP := Lib.hid (show (n % 2 != 0 && n % 3 != 0) = true by simp [hz2, hz3])
        go_enter Try.func85, Try.ntmps85
        go_wp2
        go_step3
        go_wp2
        go_step3
        go_wp2
        clear hz2 hz3
        go_loopg [3, 4] 1000100 (fun g p m wr => w = wr ∧ ∃ M : Nat, p = .bool true ∧ m = .int .i64 M ∧ 6 ≤ M ∧ M ≤ 1000008 ∧ M % 6 = 0 ∧ g + M = 1000106 ∧ Num.LowI (M - 1) n)
        case atStart => exact ⟨rfl, 6, by rw [HP.out], rfl, by omega, by omega, by omega, by omega, HS.out⟩
        case round =>
          obtain ⟨rfl, M, rfl, rfl, m1, m2, m6, hg, hlow⟩ := hrel
          have HL := Lib.hid hlow
          have HG := Lib.hid hg
          have H6 := Lib.hid m6
          clear hlow hg m6
          obtain ⟨p1, p2⟩ := Num.sq_le (d := (M : Int) - 1) (c := 1000007) (by omega) (by omega)
          have p3 : ((M : Int) - 1) * (M - 1) ≤ 1000014000049 := by omega
          clear p2
          by_cases hsq : ((M : Int) - 1) * (M - 1) ≤ n
          · have hlin := Num.lin_sq (d := (M : Int) - 1) (k := 5) (by omega) (by omega)
            by_cases ha : n % ((M : Int) - 1) = 0
            · have HF := Lib.hid (Num.prB_no (n := n) (M - 1) (by omega) (by omega) (by rw [← ha]; congr 1; omega))
              have ha' : (n % ((M : Int) - 1) == 0) = true := by simpa using ha
              clear ha
              go_wp2
              refine wp_loop_rounds 3 ?_
              rw [rounds_succ]
              go_wp2
              rw [Exit.noGoto_ret]
              go_ret
              exact ⟨ret_bool HF.out.symm, rfl⟩
            · have ha' : (n % ((M : Int) - 1) == 0) = false := by simpa using ha
              by_cases hb : n % ((M : Int) + 1) = 0
              · have HF := Lib.hid (Num.prB_no (n := n) (M + 1) (by omega) (by omega) (by rw [← hb]; congr 1))
                have hb' : (n % ((M : Int) + 1) == 0) = true := by simpa using hb
                clear ha hb
                go_wp2
                refine wp_loop_rounds 3 ?_
                rw [rounds_succ]
                go_wp2
                rw [rounds_succ]
                go_wp2
                rw [Exit.noGoto_ret]
                go_ret
                exact ⟨ret_bool HF.out.symm, rfl⟩
              · have HN := Lib.hid (Num.LowI.six HL.out m1 H6.out ha hb)
                have hb' : (n % ((M : Int) + 1) == 0) = false := by simpa using hb
                have hM : M ≤ 1000002 := by
                  apply Nat.le_of_not_lt; intro hlt
                  have := Num.sq_le (d := 1000002) (c := (M : Int) - 1) (by omega) (by omega)
                  omega
                clear ha hb
                go_wp2
                refine wp_loop_rounds 3 ?_
                rw [rounds_succ]
                go_wp2
                rw [rounds_succ]
                go_wp2
                rw [rounds_succ]
                go_wp2
                have hG := HG.out
                go_roundg (gk - 6)
                case measure => omega
                case rel => exact ⟨rfl, M + 6, by first | rfl | rw [HP.out], by go_num, by omega, by omega, by have := H6.out; omega, by omega, HN.out⟩
          · have HF := Lib.hid (Num.LowI.prime (d := M - 1) HL.out (by omega) (by rw [show ((M - 1 : Nat) : Int) = (M : Int) - 1 from by omega]; omega))
            go_wp2
            go_ret
            exact ⟨ret_bool HF.out.symm, rfl⟩

end Go.Proofs.Ytkhdbphdeabgnaa
