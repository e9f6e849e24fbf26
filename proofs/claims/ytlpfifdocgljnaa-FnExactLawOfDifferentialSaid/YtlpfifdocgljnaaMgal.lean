/- Texts of contracts, joined. -/
import Derived.Test.YtlpfifdocgljnaaMgag
import Derived.Test.YtlpfifdocgljnaaMgai
/- Contracts of ComposeSeries, of the model. -/
namespace Go.Proofs.Ytlpfifdocgljnaa
open Go.RowKit Go.WideShapes Go.ChangeShapes Go.ChangeAt

set_option maxHeartbeats 8000000 in
set_option maxRecDepth 100000 in
theorem l02Compose_any (m : Int) (D : Nat) (A : Option Addr) (c : Nat) (l : List Int) (A' : Option Addr) (c' : Nat) (l' : List Int) (w : World) (m1 : 2 ≤ m) (m2 : m ≤ 10000) (hD : D ≤ 1000) (hl : D + 1 ≤ l.length) (hl2 : l.length ≤ 1000) (hl' : l'.length ≤ 1000) (hs : Ser.Red m l) (hs' : Ser.Red m l') (hz : Ser.co l' 0 = 0) (hr : RI w A l) (hr' : RI w A' l') :
    Calls Try.prog 100 #[.int .i64 m, .slice A l.length c, .slice A' l'.length c', .int .i64 D] w fun e w' => ∃ v, e = .returned v ∧ OwnI w' w.heap.size v (Ser.horC m D (Ser.co l) (Ser.co l') (D + 1)) ∧ Below w.heap.size w w' := by
  have HS := Lib.hid hs
  have HS' := Lib.hid hs'
  have HR := Lib.hid hr
  have HR' := Lib.hid hr'
  have HZ := Lib.hid hz
  have hm0 : ¬ m = 0 := by omega
  have hmk : ∀ W : World, (Instr.makeSlice 25 (.int .i64 ((D : Int) + 1)) (.int .i64 ((D : Int) + 1))).run Try.prog W = .ok (.slice (some ⟨W.heap.size, 0, none⟩) (D + 1) (D + 1)) (W.alloc (.cells (madeCells #[.int .i64 0] (D + 1)) 2)) := by
    intro W
    have := run_make_row' (P := Try.prog) 25 2 (.int .i64 0) 8 Try.underlying25 info64 rfl .i64 .i64 (D + 1) (by omega) (by omega) W
    rwa [show ((D + 1 : Nat) : Int) = (D : Int) + 1 by omega] at this
  have HO0 := Lib.hid (OwnI.made w (D + 1) (by unfold maxLen; omega))
  clear hs hs' hr hr' hz
  go_enter Try.func100, Try.ntmps100
  go_wp2
  all_goals
    go_loopw [9, 10] (fun s9 s10 wr => ∃ (j t : Nat) (I : Int), j + t = D + 1 ∧ I = (t : Int) - 1 ∧ s10 = .int .i64 I ∧ OwnI wr w.heap.size s9 (Ser.horC m D (Ser.co l) (Ser.co l') j) ∧ Below w.heap.size w wr) (fun _ s10 _ => (intOf s10 + 1).toNat)
    case atStart => exact ⟨0, D + 1, _, by omega, by omega, rfl, HO0.out, below_one _ _⟩
    case round =>
      obtain ⟨j, t, I, hjt, hI, rfl, own, hbl⟩ := hrel
      have OW := Lib.hid own
      have HB := Lib.hid hbl
      clear own hbl hmk HO0
      rcases t with _ | i
      · obtain rfl : j = D + 1 := by omega
        obtain rfl : I = -1 := by omega
        clear hI hjt
        go_wp2
        go_ret
        exact ⟨_, rfl, OW.out, HB.out⟩
      · obtain rfl : I = (i : Int) := by omega
        clear hI
        obtain ⟨A1, c1, rfl, r1⟩ := OW.out.form
        have hred := Ser.horC_red (m := m) (by omega) D (Ser.co l) (Ser.co l') HS.out j
        have ht := l02Times_any m D A1 c1 _ A' c' l' wr m1 m2 hD (by rw [Ser.horC_length]; omega) hl' hred HS'.out r1 (HR'.out.below HB.out)
        have HT := Lib.hid ht
        obtain ⟨L3, hL3⟩ : ∃ L3, Ser.mulL m D (Ser.horC m D (Ser.co l) (Ser.co l') j) l' = L3 := ⟨_, rfl⟩
        have hlen3 : L3.length = D + 1 := by rw [← hL3, Ser.mulL_length]
        have h30 : L3[0]?.getD 0 = 0 := by
          have : Ser.co L3 0 = 0 := by rw [← hL3]; unfold Ser.mulL; rw [Ser.co_cut (Nat.zero_le _), Ser.mul_at, Ser.cv_zero, HZ.out, Int.mul_zero, Int.zero_emod]
          exact this
        rw [hL3] at HT
        have hst : L3.set 0 (Ser.co l i) = Ser.horC m D (Ser.co l) (Ser.co l') (j + 1) := by
          rw [← hL3]
          have e : D - j = i := by omega
          show (Ser.cut m D (Ser.mul (Ser.co (Ser.horC m D (Ser.co l) (Ser.co l') j)) (Ser.co l'))).set 0 (Ser.co l i) = (Ser.cut m D (Ser.mul (Ser.co (Ser.horC m D (Ser.co l) (Ser.co l') j)) (Ser.co l'))).set 0 (Ser.co l (D - j))
          rw [e]
        clear ht hL3 r1 hred
        go_wp2_with fail
        refine HT.out.mono ?_
        rintro e w3 ⟨s3, rfl, ho3, hb3⟩
        obtain ⟨g3, c3, rfl⟩ := ho3.openv (by intro h; rw [h] at hlen3; simp at hlen3)
        have hb9 := below_step HB.out hb3
        obtain ⟨b, off, rfl, hbb, hci⟩ := (HR.out.below hb9).at i (by omega)
        obtain ⟨Z, hZ⟩ : ∃ Z, Ser.co l i = Z := ⟨_, rfl⟩
        obtain ⟨zz1, zz2⟩ := HS.out i
        rw [hZ] at hci hst zz1 zz2
        rw [hlen3] at ho3 ⊢
        obtain ⟨-, -, o3, o4⟩ := ho3.cells
        have d1 := o3 0 (by omega)
        rw [h30] at d1
        have f1 := o4 0
        have hset := ho3.set 0 Z
        rw [hst] at hset
        have hg3 := (ho3.lt g3 rfl).1
        have hwr := HB.out.size
        have HSET := Lib.hid (hset.more hwr)
        have BX := Lib.hid (hb9.setCell (p := ⟨g3, 0, none⟩) (by show w.heap.size ≤ g3; omega) (.int .i64 Z)).drew
        have hzm : Z % m = Z := Int.emod_eq_of_lt zz1 zz2
        have hzm2 : Z.tmod m = Z := by rw [Int.tmod_eq_emod_of_nonneg zz1]; exact hzm
        have w0 : (0 : Int) + Z = Z := Int.zero_add _
        have w1 : IntKind.i64.wrap Z = Z := by rw [IntKind.wrap_i64]; omega
        have j0 : (0 : Int) ≤ (i : Int) := by omega
        have j1 : (i : Int) < (l.length : Int) := by omega
        have j2 : (0 : Int) < (D : Int) + 1 := by omega
        clear ho3 hb3 hb9 hZ hst o3 o4 hset h30
        go_wp2
        go_still_tail 12, (by kernel_rfl)
        change wpList _ _ _ _ _ w3.drew
        go_wp2
        go_roundw
        case rel => exact ⟨j + 1, i, _, by omega, rfl, by first | rfl | go_num, HSET.out, BX.out⟩
        case measure => simp only [intOf]; omega

theorem l02Compose_ok (m : Int) (d : Nat) (A : Option Addr) (c : Nat) (l : List Int) (A' : Option Addr) (c' : Nat) (l' : List Int) (w : World) (hs : SerOk m d l) (hs' : SerOk m d l') (hz : Ser.co l' 0 = 0) (hr : RI w A l) (hr' : RI w A' l') :
    Calls Try.prog 100 #[.int .i64 m, .slice A l.length c, .slice A' l'.length c', .int .i64 d] w fun e w' => ∃ v, e = .returned v ∧ OwnI w' w.heap.size v (Ser.cmpL m d l l') ∧ Below w.heap.size w w' :=
  l02Compose_any m d A c l A' c' l' w hs.m1 hs.m2 (by have := hs.d2; omega) (by have := hs.len; omega) (by have := hs.len; have := hs.d2; omega) (by have := hs'.len; have := hs'.d2; omega) hs.red hs'.red hz hr hr'

end Go.Proofs.Ytlpfifdocgljnaa

/- Contracts of InverseOfSeries, of the model. -/
namespace Go.Proofs.Ytlpfifdocgljnaa
open Go.RowKit Go.WideShapes Go.ChangeShapes Go.ChangeAt

theorem inv_next (m u S : Int) : (m - S % m) * u % m = (-u * S) % m := by
  have h1 : (m - S % m) % m = (0 - S) % m := Ser.sub_cong (by simp) (Int.emod_emod _ _)
  have h2 : (m - S % m) * u % m = (0 - S) * u % m := Ser.mul_cong h1 rfl
  rw [h2, Int.zero_sub, Int.neg_mul, Int.neg_mul, Int.mul_comm]
theorem invC_next (m u : Int) (a : Nat → Int) (k : Nat) : Ser.invC m u a (k + 1) = Ser.invC m u a k ++ [(m - Ser.psum (fun q => a (q + 1) * Ser.co (Ser.invC m u a k) (k - q)) (k + 1) % m) * u % m] := by
  rw [inv_next, Ser.invC, Ser.cv_succ, Ser.co_over (l := Ser.invC m u a k) (by rw [Ser.invC_length]; exact Nat.le_refl _), Int.mul_zero, Int.zero_add, Ser.cv_psum]
  rfl

end Go.Proofs.Ytlpfifdocgljnaa

