/- Contracts of the model's functions that look at series and make them. -/
import Derived.Test.YtcnkpfikafaocaaAdd
namespace Go.Proofs.Ytcnkpfikafaocaa
open Go.RowKit Go.WideShapes Go.ChangeShapes Go.ChangeAt

set_option maxHeartbeats 2000000 in
theorem l02Alike_any (m : Int) (A : Option Addr) (c : Nat) (l : List Int) (m' : Int) (A' : Option Addr) (c' : Nat) (l' : List Int) (w : World) (hl : l.length ≤ 9223372036854775807) (hl' : l'.length ≤ 9223372036854775807) (hr : RI w A l) (hr' : RI w A' l') :
    Calls Try.prog 61 #[.agg #[.int .i64 m, .slice A l.length c], .agg #[.int .i64 m', .slice A' l'.length c']] w fun e w' => e = .returned (.int .i64 (code2 m l m' l')) ∧ Below w.heap.size w w' := by
  obtain ⟨W, hW⟩ : ∃ W, ((w.alloc (.cells #[.int .i64 m, .slice A l.length c] 26)).alloc (.cells #[.int .i64 m', .slice A' l'.length c'] 26)) = W := ⟨_, rfl⟩
  obtain ⟨b1, b2, hwb⟩ := box2_new w m m' A A' l.length c l'.length c' W hW
  have B1 := Lib.hid b1
  have B2 := Lib.hid b2
  have HB := Lib.hid hwb
  have HW := Lib.hid hW
  have R1 := Lib.hid (hr.below hwb)
  have R2 := Lib.hid (hr'.below hwb)
  clear b1 b2 hwb hW hr hr'
  by_cases h1 : isS m l = true
  · have H1 := Lib.hid (l02Is_any m A c l W hl R1.out)
    have H2 := Lib.hid (fun W0 (h : Below W.heap.size W W0) => l02Is_any m' A' c' l' W0 hl' (R2.out.below h))
    by_cases h2 : isS m' l' = true
    · have hal : (code2 m l m' l' = if m = m' ∧ l.length = l'.length then 0 else 2) := by unfold code2; rw [if_pos ⟨h1, h2⟩]
      have k1 := H1.out
      rw [h1] at k1
      have K1 := Lib.hid k1
      have K2 : Hid (∀ W0, Below W.heap.size W W0 → Calls Try.prog 70 #[.agg #[.int .i64 m', .slice A' l'.length c']] W0 fun e w' => e = .returned (.bool true) ∧ Below W0.heap.size W0 w') := Lib.hid (fun W0 h => by have := H2.out W0 h; rw [h2] at this; exact this)
      have HAL := Lib.hid hal
      clear H1 H2 k1 hal
      by_cases hm : m = m'
      · subst hm
        by_cases hn : l.length = l'.length
        · have hc : code2 m l m l' = 0 := by rw [HAL.out, if_pos ⟨rfl, hn⟩]
          have HC := Lib.hid hc
          have hn2 : (l.length : Int) = (l'.length : Int) := by omega
          clear hc HAL hn
          go_enter Try.func61, Try.ntmps61
          go_wp2_with fail
          rw [HW.out]
          refine K1.out.mono ?_
          rintro e w1 ⟨rfl, hb1⟩
          obtain ⟨x1, x2, x3⟩ := B1.out.keep hb1
          obtain ⟨y1, y2, y3⟩ := B2.out.keep hb1
          go_wp2_with fail
          refine (K2.out _ hb1).mono ?_
          rintro e w2 ⟨rfl, hb2⟩
          clear x1 x2 x3 y1 y2 y3
          obtain ⟨x1, x2, x3⟩ := B1.out.keep (below_step hb1 hb2)
          obtain ⟨y1, y2, y3⟩ := B2.out.keep (below_step hb1 hb2)
          go_wp2
          go_ret
          exact ⟨ret_int HC.out.symm, below_step HB.out (below_step hb1 hb2)⟩
        · have hc : code2 m l m l' = 2 := by rw [HAL.out, if_neg (fun h => hn h.2)]
          have HC := Lib.hid hc
          have hn2 : ¬ (l.length : Int) = (l'.length : Int) := by omega
          obtain ⟨n1, n2⟩ : ((l.length : Int) == (l'.length : Int)) = false ∧ ((l.length : Int) != (l'.length : Int)) = true := ⟨by simpa using hn2, by simpa using hn2⟩
          clear hc HAL hn
          go_enter Try.func61, Try.ntmps61
          go_wp2_with fail
          rw [HW.out]
          refine K1.out.mono ?_
          rintro e w1 ⟨rfl, hb1⟩
          obtain ⟨x1, x2, x3⟩ := B1.out.keep hb1
          obtain ⟨y1, y2, y3⟩ := B2.out.keep hb1
          go_wp2_with fail
          refine (K2.out _ hb1).mono ?_
          rintro e w2 ⟨rfl, hb2⟩
          clear x1 x2 x3 y1 y2 y3
          obtain ⟨x1, x2, x3⟩ := B1.out.keep (below_step hb1 hb2)
          obtain ⟨y1, y2, y3⟩ := B2.out.keep (below_step hb1 hb2)
          go_wp2
          go_ret
          exact ⟨ret_int HC.out.symm, below_step HB.out (below_step hb1 hb2)⟩
      · have hc : code2 m l m' l' = 2 := by rw [HAL.out, if_neg (fun h => hm h.1)]
        have HC := Lib.hid hc
        obtain ⟨n1, n2⟩ : (m == m') = false ∧ (m != m') = true := ⟨by simpa using hm, by simpa using hm⟩
        clear hc HAL
        go_enter Try.func61, Try.ntmps61
        go_wp2_with fail
        rw [HW.out]
        refine K1.out.mono ?_
        rintro e w1 ⟨rfl, hb1⟩
        obtain ⟨x1, x2, x3⟩ := B1.out.keep hb1
        obtain ⟨y1, y2, y3⟩ := B2.out.keep hb1
        go_wp2_with fail
        refine (K2.out _ hb1).mono ?_
        rintro e w2 ⟨rfl, hb2⟩
        clear x1 x2 x3 y1 y2 y3
        obtain ⟨x1, x2, x3⟩ := B1.out.keep (below_step hb1 hb2)
        obtain ⟨y1, y2, y3⟩ := B2.out.keep (below_step hb1 hb2)
        go_wp2
        go_ret
        exact ⟨ret_int HC.out.symm, below_step HB.out (below_step hb1 hb2)⟩
    · have h2' : isS m' l' = false := by simpa using h2
      have HC := Lib.hid (show code2 m l m' l' = 1 by unfold code2; rw [if_neg (fun h => h2 h.2)])
      have k1 := H1.out
      rw [h1] at k1
      have K1 := Lib.hid k1
      have K2 : Hid (∀ W0, Below W.heap.size W W0 → Calls Try.prog 70 #[.agg #[.int .i64 m', .slice A' l'.length c']] W0 fun e w' => e = .returned (.bool false) ∧ Below W0.heap.size W0 w') := Lib.hid (fun W0 h => by have := H2.out W0 h; rw [h2'] at this; exact this)
      clear H1 H2 k1 h2 h2'
      go_enter Try.func61, Try.ntmps61
      go_wp2_with fail
      rw [HW.out]
      refine K1.out.mono ?_
      rintro e w1 ⟨rfl, hb1⟩
      obtain ⟨x1, x2, x3⟩ := B1.out.keep hb1
      obtain ⟨y1, y2, y3⟩ := B2.out.keep hb1
      go_wp2_with fail
      refine (K2.out _ hb1).mono ?_
      rintro e w2 ⟨rfl, hb2⟩
      go_wp2
      go_ret
      exact ⟨ret_int HC.out.symm, below_step HB.out (below_step hb1 hb2)⟩
  · have h1' : isS m l = false := by simpa using h1
    have HC := Lib.hid (show code2 m l m' l' = 1 by unfold code2; rw [if_neg (fun h => h1 h.1)])
    have H1 := l02Is_any m A c l W hl R1.out
    rw [h1'] at H1
    have K1 := Lib.hid H1
    clear H1 h1 h1'
    go_enter Try.func61, Try.ntmps61
    go_wp2_with fail
    rw [HW.out]
    refine K1.out.mono ?_
    rintro e w1 ⟨rfl, hb1⟩
    obtain ⟨x1, x2, x3⟩ := B1.out.keep hb1
    obtain ⟨y1, y2, y3⟩ := B2.out.keep hb1
    go_wp2
    go_ret
    exact ⟨ret_int HC.out.symm, below_step HB.out hb1⟩

end Go.Proofs.Ytcnkpfikafaocaa
