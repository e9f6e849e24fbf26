/- Contracts of ValueOfSeries, of the program and of the model. -/
import Derived.Test.YtcnkpfikafaocaaSca
import Derived.Test.YtcnkpfikafaocaaVat
import Derived.Test.YtcnkpfikafaocaaTmS
namespace Go.Proofs.Ytcnkpfikafaocaa
open Go.RowKit Go.WideShapes Go.ChangeShapes Go.ChangeAt

def valM (m : Int) (l : List Int) (x : Int) : Int × Int := if codeSN m l x = 0 then (valR m x l, 0) else (0, codeSN m l x)
theorem serAll {m : Int} {d : Nat} {l : List Int} (h : SerOk m d l) : allIn 0 (m - 1) l = true := by
  refine List.all_eq_true.2 (fun x hx => ?_)
  obtain ⟨i, hi, rfl⟩ := List.mem_iff_getElem.1 hx
  have := h.red i
  unfold Ser.co at this
  rw [List.getElem?_eq_getElem hi] at this
  exact inB_yes this.1 (by have := this.2; simp only [Option.getD_some] at this; omega)

set_option maxHeartbeats 2000000 in
theorem ValueOfSeries_any (m : Int) (A : Option Addr) (c : Nat) (l : List Int) (k : Int) (w : World) (hl : l.length ≤ 1048576) (hr : RI w A l) :
    Calls Try.prog 48 #[.agg #[.int .i64 m, .slice A l.length c], .int .i64 k] w fun e w' => e = .returned (.tuple #[.int .i64 (valM m l k).1, .int .i64 (valM m l k).2]) ∧ Below w.heap.size w w' := by
  obtain ⟨W, hW⟩ : ∃ W, w.alloc (.cells #[.int .i64 m, .slice A l.length c] 26) = W := ⟨_, rfl⟩
  have b1 : Box W w.heap.size m A l.length c := by rw [← hW]; exact Box.new _ _ _ _ _
  have hwb : Below w.heap.size w W := by rw [← hW]; exact below_one _ _
  have B1 := Lib.hid b1
  have HB := Lib.hid hwb
  have HW := Lib.hid hW
  have R1 := Lib.hid (hr.below hwb)
  have hc := codeOfSeriesAndNumber_any m A c l k W hl R1.out
  clear b1 hwb hW hr
  by_cases h0 : codeSN m l k = 0
  · obtain ⟨d, e1, s1, k1, k2⟩ := codeSN_ok h0
    have HF := Lib.hid (show valM m l k = (valR m k l, 0) by unfold valM; rw [if_pos h0])
    rw [h0] at hc
    have HC0 := Lib.hid hc
    have HV := Lib.hid (fun W0 (h : RI W0 A l) => valueAt_any m k A c l W0 s1.m1 s1.m2 k1 k2 (by have := s1.d2; omega) (serAll s1) h)
    clear hc h0 e1 s1
    go_enter Try.func48, Try.ntmps48
    go_wp2_with fail
    rw [HW.out]
    refine HC0.out.mono ?_
    rintro e w1 ⟨rfl, hb1⟩
    obtain ⟨x1, x2⟩ := box_in B1.out hb1
    go_wp2_with fail
    refine (HV.out _ (R1.out.below hb1)).mono ?_
    rintro e w2 ⟨rfl, rfl⟩
    go_wp2
    go_ret2
    exact ⟨ret_i2 (by rw [HF.out]) (by rw [HF.out]), below_step HB.out hb1⟩
  · have HF := Lib.hid (show valM m l k = (0, codeSN m l k) by unfold valM; rw [if_neg h0])
    obtain ⟨n1, n2⟩ := ne_facts h0
    obtain ⟨C, hC⟩ : ∃ C, codeSN m l k = C := ⟨_, rfl⟩
    rw [hC] at n1 n2 h0 hc
    have HC := Lib.hid hC
    have HC0 := Lib.hid hc
    clear hc hC
    go_enter Try.func48, Try.ntmps48
    go_wp2_with fail
    rw [HW.out]
    refine HC0.out.mono ?_
    rintro e w1 ⟨rfl, hb1⟩
    go_wp2
    go_ret2
    exact ⟨ret_i2 (by rw [HF.out]) (by rw [HF.out, HC.out]), below_step HB.out hb1⟩

set_option maxHeartbeats 4000000 in
theorem sValueOfSeries_any (m : Int) (A : Option Addr) (c : Nat) (l : List Int) (k : Int) (w : World) (hl : l.length ≤ 1048576) (hr : RI w A l) :
    Calls Try.prog 49 #[.agg #[.int .i64 m, .slice A l.length c], .int .i64 k] w fun e w' => e = .returned (.tuple #[.int .i64 (valM m l k).1, .int .i64 (valM m l k).2]) ∧ Below w.heap.size w w' := by
  obtain ⟨W, hW⟩ : ∃ W, w.alloc (.cells #[.int .i64 m, .slice A l.length c] 26) = W := ⟨_, rfl⟩
  have b1 : Box W w.heap.size m A l.length c := by rw [← hW]; exact Box.new _ _ _ _ _
  have hwb : Below w.heap.size w W := by rw [← hW]; exact below_one _ _
  have B1 := Lib.hid b1
  have HB := Lib.hid hwb
  have HW := Lib.hid hW
  have R1 := Lib.hid (hr.below hwb)
  have hc := l02Is_any m A c l W (by omega) R1.out
  clear b1 hwb hW hr
  by_cases h0 : isS m l = true
  · have HCS := Lib.hid (codeSN_split m l k h0)
    rw [h0] at hc
    have HC0 := Lib.hid hc
    clear hc
    by_cases hk : inB k 0 (m - 1) = true
    · obtain ⟨d, e1, s1, k1, k2⟩ := codeSN_ok (show codeSN m l k = 0 by rw [HCS.out, if_pos hk])
      have m1 := s1.m1
      have m2 := s1.m2
      have hd := s1.d2
      have hm0 : ¬ m = 0 := by omega
      have HF := Lib.hid (show valM m l k = (valR m k l, 0) by unfold valM; rw [if_pos (by rw [HCS.out, if_pos hk])])
      have HDG := Lib.hid (fun W0 => l02Degree_any m A l.length c d W0 e1 (by omega))
      have HS := Lib.hid s1
      have HE := Lib.hid e1
      clear e1 s1 h0
      go_enter Try.func49, Try.ntmps49
      go_wp2_with fail
      rw [HW.out]
      refine HC0.out.mono ?_
      rintro e w0 ⟨rfl, hb0⟩
      obtain ⟨x1, x2⟩ := box_in B1.out hb0
      go_wp2_with (go_at_call 99; refine (l01In_any _ _ _ _).mono ?_; rintro e w' ⟨rfl, rfl⟩)
      refine (HDG.out _).mono ?_
      rintro e w1 ⟨rfl, hb1⟩
      have hb2 := below_step hb0 hb1
      have B2 := Lib.hid (B1.out.keep hb2)
      have R2 := Lib.hid (R1.out.below hb2)
      have HB2 := Lib.hid (below_step HB.out hb2)
      clear x1 x2 hb0 hb1 hb2
      obtain ⟨x1, x2, -⟩ := B2.out
      go_wp2
      go_loopw [6, 7] (fun v i wr => ∃ (j : Nat) (I : Int), j ≤ l.length ∧ I = (j : Int) - 1 ∧ v = .int .i64 (valR m k (l.drop j)) ∧ i = .int .i64 I ∧ ∃ q, wr = w1.drewN q) (fun _ i _ => (intOf i + 1).toNat)
      case atStart => exact ⟨l.length, _, Nat.le_refl _, by have := HE.out; omega, by rw [List.drop_length]; rfl, rfl, 0, rfl⟩
      case round =>
        obtain ⟨j, I, hj, hI, rfl, rfl, q, rfl⟩ := hrel
        rcases j with _ | t
        · obtain rfl : I = -1 := by omega
          clear hI
          go_wp2
          go_ret2
          exact ⟨ret_i2 (by rw [HF.out]; rfl) (by rw [HF.out]), below_drewN HB2.out _⟩
        · obtain rfl : I = (t : Int) := by omega
          obtain ⟨b, off, rfl, hb, hck⟩ := R2.out.at t (by omega)
          obtain ⟨q1, q2⟩ := HS.out.red t
          obtain ⟨v1, v2⟩ := valR_bd m k (by omega) (l.drop (t + 1))
          have HV := Lib.hid (show valR m k (l.drop t) = (valR m k (l.drop (t + 1)) * k + Ser.co l t) % m from valR_drop m k l t (by omega))
          obtain ⟨y, hy⟩ : ∃ y, Ser.co l t = y := ⟨_, rfl⟩
          obtain ⟨V, hV⟩ : ∃ V, valR m k (l.drop (t + 1)) = V := ⟨_, rfl⟩
          rw [hy] at hck q1 q2
          rw [hV] at v1 v2 ⊢
          have p1 := Int.mul_nonneg v1 k1
          have p2 := (mul_bd (x := V) (y := k) v1 (by omega) (by omega) (by omega)).2
          have HY := Lib.hid hy
          have HVV := Lib.hid hV
          have j0 : (0 : Int) ≤ (t : Int) := by omega
          have j1 : (t : Int) < (l.length : Int) := by omega
          clear hy hV hI
          go_wp2
          go_quiet (fail)
          go_wp2
          go_roundw
          case rel => exact ⟨t, _, by omega, rfl, by rw [HV.out, HY.out, HVV.out], rfl, _, rfl⟩
          case measure => simp only [intOf]; omega
    · have HF := Lib.hid (show valM m l k = (0, 2) by unfold valM; rw [if_neg (by rw [HCS.out, if_neg hk]; decide), HCS.out, if_neg hk])
      have hk' : inB k 0 (m - 1) = false := by simpa using hk
      obtain ⟨d, -, s1⟩ := serOk_of h0
      have m1 := s1.m1
      have m2 := s1.m2
      clear h0 hk s1
      go_enter Try.func49, Try.ntmps49
      go_wp2_with fail
      rw [HW.out]
      refine HC0.out.mono ?_
      rintro e w1 ⟨rfl, hb1⟩
      obtain ⟨x1, x2⟩ := box_in B1.out hb1
      go_wp2_with (go_at_call 99; refine (l01In_any _ _ _ _).mono ?_; rintro e w' ⟨rfl, rfl⟩)
      go_ret2
      exact ⟨ret_i2 (by rw [HF.out]) (by rw [HF.out]), below_step HB.out hb1⟩
  · have h0' : isS m l = false := by simpa using h0
    have HF := Lib.hid (show valM m l k = (0, 1) by unfold valM codeSN; rw [if_neg h0]; rfl)
    rw [h0'] at hc
    have HC0 := Lib.hid hc
    clear hc h0
    go_enter Try.func49, Try.ntmps49
    go_wp2_with fail
    rw [HW.out]
    refine HC0.out.mono ?_
    rintro e w1 ⟨rfl, hb1⟩
    go_wp2
    go_ret2
    exact ⟨ret_i2 (by rw [HF.out]) (by rw [HF.out]), below_step HB.out hb1⟩
end Go.Proofs.Ytcnkpfikafaocaa
