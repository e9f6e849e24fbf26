/- Contracts of OrderOfSeries, of the program and of the model. -/
import Derived.Test.YtcnkpfikafaocabSok
namespace Go.Proofs.Ytcnkpfikafaocab
open Go.RowKit Go.WideShapes Go.ChangeShapes Go.ChangeAt

/-- the least index from k on with a number other than 0 -/
def ordF (l : List Int) : Nat → Nat → Int × Int
  | 0, _ => (0, 5)
  | f + 1, k => if Ser.co l k = 0 then ordF l f (k + 1) else ((k : Int), 0)
def ordM (m : Int) (l : List Int) : Int × Int := if isS m l = true then ordF l l.length 0 else (0, 1)
theorem ordF_zero (l : List Int) (f k : Nat) (h : Ser.co l k = 0) : ordF l (f + 1) k = ordF l f (k + 1) := by rw [ordF, if_pos h]
theorem ordF_not (l : List Int) (f k : Nat) (h : ¬ Ser.co l k = 0) : ordF l (f + 1) k = ((k : Int), 0) := by rw [ordF, if_neg h]

set_option maxHeartbeats 2000000 in
theorem OrderOfSeries_any (m : Int) (A : Option Addr) (c : Nat) (l : List Int) (w : World) (hl : l.length ≤ 1048576) (hr : RI w A l) :
    Calls Try.prog 22 #[.agg #[.int .i64 m, .slice A l.length c]] w fun e w' => e = .returned (.tuple #[.int .i64 (ordM m l).1, .int .i64 (ordM m l).2]) ∧ Below w.heap.size w w' := by
  obtain ⟨W, hW, b1, b4, hwb⟩ := pro0 w m A l.length c
  have B1 := Lib.hid b1
  have HB := Lib.hid hwb
  have HW := Lib.hid hW
  have R1 := Lib.hid (hr.below hwb)
  have HC := Lib.hid (codeOfSeries1_any (w.heap.size + 1) m A c l W (by omega) R1.out b4)
  clear b1 b4 hwb hW hr
  by_cases h0 : isS m l = true
  · have HF := Lib.hid (show ordM m l = ordF l l.length 0 by unfold ordM; rw [if_pos h0])
    have hc := HC.out
    rw [code1_isS h0] at hc
    have HC0 := Lib.hid hc
    clear hc HC
    go_enter Try.func22, Try.ntmps22
    go_wp2_with fail
    rw [HW.out]
    refine HC0.out.mono ?_
    rintro e w1 ⟨rfl, hb1⟩
    obtain ⟨x1, x2⟩ := box_in B1.out hb1
    have HR := Lib.hid (R1.out.below hb1)
    go_wp2
    go_loop [16] (fun i => ∃ k f : Nat, k + f = l.length ∧ i = .int .i64 k ∧ ordF l l.length 0 = ordF l f k) (fun i => l.length - (intOf i).toNat)
    case atStart => exact ⟨0, l.length, Nat.zero_add _, rfl, rfl⟩
    case round =>
      obtain ⟨k, f, hk, rfl, hq⟩ := hrel
      have HQ := Lib.hid hq
      have hk2 : k ≤ l.length := by omega
      have HK := Lib.hid hk
      clear hq hk
      by_cases hlt : k < l.length
      · obtain ⟨b, off, rfl, hb, hc⟩ := HR.out.at k hlt
        obtain ⟨f, rfl⟩ : ∃ f', f = f' + 1 := ⟨f - 1, by have := HK.out; omega⟩
        by_cases hz : Ser.co l k = 0
        · have HN := Lib.hid (ordF_zero l f k hz)
          rw [hz] at hc
          clear hz
          go_wp2
          go_round
          case rel => exact ⟨k + 1, f, by have := HK.out; omega, by go_num, by rw [HQ.out, HN.out]⟩
          case measure => simp only [intOf]; omega
        · have HN := Lib.hid (ordF_not l f k hz)
          obtain ⟨n1, n2⟩ := ne_facts hz
          obtain ⟨X, hX⟩ : ∃ X, Ser.co l k = X := ⟨_, rfl⟩
          rw [hX] at hc n1 n2 hz
          clear hX
          go_wp2
          go_ret2
          exact ⟨ret_i2 (by rw [HF.out, HQ.out, HN.out]) (by rw [HF.out, HQ.out, HN.out]), below_step HB.out hb1⟩
      · obtain rfl : f = 0 := by have := HK.out; omega
        go_wp2
        go_ret2
        exact ⟨ret_i2 (by rw [HF.out, HQ.out]; rfl) (by rw [HF.out, HQ.out]; rfl), below_step HB.out hb1⟩
  · have h0' : isS m l = false := by simpa using h0
    have HF := Lib.hid (show ordM m l = (0, 1) by unfold ordM; rw [if_neg h0])
    have hc := HC.out
    rw [code1_no h0'] at hc
    have HC0 := Lib.hid hc
    clear hc HC h0
    go_enter Try.func22, Try.ntmps22
    go_wp2_with fail
    rw [HW.out]
    refine HC0.out.mono ?_
    rintro e w1 ⟨rfl, hb1⟩
    go_wp2
    go_ret2
    exact ⟨ret_i2 (by rw [HF.out]) (by rw [HF.out]), below_step HB.out hb1⟩

set_option maxHeartbeats 2000000 in
theorem sOrderOfSeries_any (m : Int) (A : Option Addr) (c : Nat) (l : List Int) (w : World) (hl : l.length ≤ 1048576) (hr : RI w A l) :
    Calls Try.prog 21 #[.agg #[.int .i64 m, .slice A l.length c]] w fun e w' => e = .returned (.tuple #[.int .i64 (ordM m l).1, .int .i64 (ordM m l).2]) ∧ Below w.heap.size w w' := by
  obtain ⟨W, hW⟩ : ∃ W, w.alloc (.cells #[.int .i64 m, .slice A l.length c] 27) = W := ⟨_, rfl⟩
  have b1 : Box W w.heap.size m A l.length c := by rw [← hW]; exact Box.new _ _ _ _ _
  have hwb : Below w.heap.size w W := by rw [← hW]; exact below_one _ _
  have B1 := Lib.hid b1
  have HB := Lib.hid hwb
  have HW := Lib.hid hW
  have R1 := Lib.hid (hr.below hwb)
  have hc := l02Is_any m A c l W (by omega) R1.out
  clear b1 hwb hW hr
  by_cases h0 : isS m l = true
  · have HF := Lib.hid (show ordM m l = ordF l l.length 0 by unfold ordM; rw [if_pos h0])
    rw [h0] at hc
    have HC0 := Lib.hid hc
    clear hc
    go_enter Try.func21, Try.ntmps21
    go_wp2_with fail
    rw [HW.out]
    refine HC0.out.mono ?_
    rintro e w1 ⟨rfl, hb1⟩
    obtain ⟨x1, x2⟩ := box_in B1.out hb1
    have HR := Lib.hid (R1.out.below hb1)
    go_wp2
    go_loop [4] (fun i => ∃ k f : Nat, k + f = l.length ∧ i = .int .i64 k ∧ ordF l l.length 0 = ordF l f k) (fun i => l.length - (intOf i).toNat)
    case atStart => exact ⟨0, l.length, Nat.zero_add _, rfl, rfl⟩
    case round =>
      obtain ⟨k, f, hk, rfl, hq⟩ := hrel
      have HQ := Lib.hid hq
      have hk2 : k ≤ l.length := by omega
      have HK := Lib.hid hk
      clear hq hk
      by_cases hlt : k < l.length
      · obtain ⟨b, off, rfl, hb, hc⟩ := HR.out.at k hlt
        obtain ⟨f, rfl⟩ : ∃ f', f = f' + 1 := ⟨f - 1, by have := HK.out; omega⟩
        by_cases hz : Ser.co l k = 0
        · have HN := Lib.hid (ordF_zero l f k hz)
          rw [hz] at hc
          clear hz
          go_wp2
          go_round
          case rel => exact ⟨k + 1, f, by have := HK.out; omega, by go_num, by rw [HQ.out, HN.out]⟩
          case measure => simp only [intOf]; omega
        · have HN := Lib.hid (ordF_not l f k hz)
          obtain ⟨n1, n2⟩ := ne_facts hz
          obtain ⟨X, hX⟩ : ∃ X, Ser.co l k = X := ⟨_, rfl⟩
          rw [hX] at hc n1 n2 hz
          clear hX
          go_wp2
          go_ret2
          exact ⟨ret_i2 (by rw [HF.out, HQ.out, HN.out]) (by rw [HF.out, HQ.out, HN.out]), below_step HB.out hb1⟩
      · obtain rfl : f = 0 := by have := HK.out; omega
        go_wp2
        go_ret2
        exact ⟨ret_i2 (by rw [HF.out, HQ.out]; rfl) (by rw [HF.out, HQ.out]; rfl), below_step HB.out hb1⟩
  · have h0' : isS m l = false := by simpa using h0
    have HF := Lib.hid (show ordM m l = (0, 1) by unfold ordM; rw [if_neg h0])
    rw [h0'] at hc
    have HC0 := Lib.hid hc
    clear hc h0
    go_enter Try.func21, Try.ntmps21
    go_wp2_with fail
    rw [HW.out]
    refine HC0.out.mono ?_
    rintro e w1 ⟨rfl, hb1⟩
    go_wp2
    go_ret2
    exact ⟨ret_i2 (by rw [HF.out]) (by rw [HF.out]), below_step HB.out hb1⟩
end Go.Proofs.Ytcnkpfikafaocab
