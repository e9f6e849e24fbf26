/- Texts of contracts, joined. -/
import Derived.Test.YtpmbojbdppbkgaaMgae
import Derived.Test.YtpmbojbdppbkgaaMgag
/- Contracts of ComposeSeries, of the model. -/
namespace Go.Proofs.Ytpmbojbdppbkgaa
open Go.RowKit Go.WideShapes Go.ChangeShapes Go.ChangeAt

set_option maxHeartbeats 8000000 in
set_option maxRecDepth 100000 in
theorem l02Compose_any (m : Int) (D : Nat) (A : Option Addr) (c : Nat) (l : List Int) (A' : Option Addr) (c' : Nat) (l' : List Int) (w : World) (m1 : 2 ≤ m) (m2 : m ≤ 10000) (hD : D ≤ 1000) (hl : D + 1 ≤ l.length) (hl2 : l.length ≤ 1000) (hl' : l'.length ≤ 1000) (hs : Ser.Red m l) (hs' : Ser.Red m l') (hz : Ser.co l' 0 = 0) (hr : RI w A l) (hr' : RI w A' l') :
    Calls Try.prog 114 #[.int .i64 m, .slice A l.length c, .slice A' l'.length c', .int .i64 D] w fun e w' => ∃ v, e = .returned v ∧ OwnI w' w.heap.size v (Ser.horC m D (Ser.co l) (Ser.co l') (D + 1)) ∧ Below w.heap.size w w' := by
  have HS := Lib.hid hs
  have HS' := Lib.hid hs'
  have HR := Lib.hid hr
  have HR' := Lib.hid hr'
  have HZ := Lib.hid hz
  have hm0 : ¬ m = 0 := by omega
  have hmk : ∀ W : World, (Instr.makeSlice 26 (.int .i64 ((D : Int) + 1)) (.int .i64 ((D : Int) + 1))).run Try.prog W = .ok (.slice (some ⟨W.heap.size, 0, none⟩) (D + 1) (D + 1)) (W.alloc (.cells (madeCells #[.int .i64 0] (D + 1)) 2)) := by
    intro W
    have := run_make_row' (P := Try.prog) 26 2 (.int .i64 0) 8 Try.underlying26 info64 rfl .i64 .i64 (D + 1) (by omega) (by omega) W
    rwa [show ((D + 1 : Nat) : Int) = (D : Int) + 1 by omega] at this
  have HO0 := Lib.hid (OwnI.made w (D + 1) (by unfold maxLen; omega))
  clear hs hs' hr hr' hz
  go_enter Try.func114, Try.ntmps114
  go_wp2
  all_goals
    go_loopw [9, 10] (fun s9 s10 wr => ∃ (j t : Nat) (I : Int), j + t = D + 1 ∧ I = (t : Int) - 1 ∧ s10 = .int .i64 I ∧ OwnI wr w.heap.size s9 (Ser.horC m D (Ser.co l) (Ser.co l') j) ∧ Below w.heap.size w wr) (fun _ s10 _ => (intOf s10 + 1).toNat)
    case atStart => exact ⟨0, D + 1, _, by omega, by omega, rfl, HO0.out, below_one _ _⟩
    case round =>
      obtain ⟨j, t, I, hjt, hI, rfl, own, hbl⟩ := hrel
      have OW := Lib.hid own
      have HB := Lib.hid hbl
      clear own hbl hmk HO0
      rcases t with _ | i
      · obtain rfl : j = D + 1 := by omega
        obtain rfl : I = -1 := by omega
        clear hI hjt
        go_wp2
        go_ret
        exact ⟨_, rfl, OW.out, HB.out⟩
      · obtain rfl : I = (i : Int) := by omega
        clear hI
        obtain ⟨A1, c1, rfl, r1⟩ := OW.out.form
        have hred := Ser.horC_red (m := m) (by omega) D (Ser.co l) (Ser.co l') HS.out j
        have ht := l02Times_any m D A1 c1 _ A' c' l' wr m1 m2 hD (by rw [Ser.horC_length]; omega) hl' hred HS'.out r1 (HR'.out.below HB.out)
        have HT := Lib.hid ht
        obtain ⟨L3, hL3⟩ : ∃ L3, Ser.mulL m D (Ser.horC m D (Ser.co l) (Ser.co l') j) l' = L3 := ⟨_, rfl⟩
        have hlen3 : L3.length = D + 1 := by rw [← hL3, Ser.mulL_length]
        have h30 : L3[0]?.getD 0 = 0 := by
          have : Ser.co L3 0 = 0 := by rw [← hL3]; unfold Ser.mulL; rw [Ser.co_cut (Nat.zero_le _), Ser.mul_at, Ser.cv_zero, HZ.out, Int.mul_zero, Int.zero_emod]
          exact this
        rw [hL3] at HT
        have hst : L3.set 0 (Ser.co l i) = Ser.horC m D (Ser.co l) (Ser.co l') (j + 1) := by
          rw [← hL3]
          have e : D - j = i := by omega
          show (Ser.cut m D (Ser.mul (Ser.co (Ser.horC m D (Ser.co l) (Ser.co l') j)) (Ser.co l'))).set 0 (Ser.co l i) = (Ser.cut m D (Ser.mul (Ser.co (Ser.horC m D (Ser.co l) (Ser.co l') j)) (Ser.co l'))).set 0 (Ser.co l (D - j))
          rw [e]
        clear ht hL3 r1 hred
        go_wp2_with fail
        refine HT.out.mono ?_
        rintro e w3 ⟨s3, rfl, ho3, hb3⟩
        obtain ⟨g3, c3, rfl⟩ := ho3.openv (by intro h; rw [h] at hlen3; simp at hlen3)
        have hb9 := below_step HB.out hb3
        obtain ⟨b, off, rfl, hbb, hci⟩ := (HR.out.below hb9).at i (by omega)
        obtain ⟨Z, hZ⟩ : ∃ Z, Ser.co l i = Z := ⟨_, rfl⟩
        obtain ⟨zz1, zz2⟩ := HS.out i
        rw [hZ] at hci hst zz1 zz2
        rw [hlen3] at ho3 ⊢
        obtain ⟨-, -, o3, o4⟩ := ho3.cells
        have d1 := o3 0 (by omega)
        rw [h30] at d1
        have f1 := o4 0
        have hset := ho3.set 0 Z
        rw [hst] at hset
        have hg3 := (ho3.lt g3 rfl).1
        have hwr := HB.out.size
        have HSET := Lib.hid (hset.more hwr)
        have BX := Lib.hid (hb9.setCell (p := ⟨g3, 0, none⟩) (by show w.heap.size ≤ g3; omega) (.int .i64 Z)).drew
        have hzm : Z % m = Z := Int.emod_eq_of_lt zz1 zz2
        have hzm2 : Z.tmod m = Z := by rw [Int.tmod_eq_emod_of_nonneg zz1]; exact hzm
        have w0 : (0 : Int) + Z = Z := Int.zero_add _
        have w1 : IntKind.i64.wrap Z = Z := by rw [IntKind.wrap_i64]; omega
        have j0 : (0 : Int) ≤ (i : Int) := by omega
        have j1 : (i : Int) < (l.length : Int) := by omega
        have j2 : (0 : Int) < (D : Int) + 1 := by omega
        clear ho3 hb3 hb9 hZ hst o3 o4 hset h30
        go_wp2
        go_still_tail 12, (by kernel_rfl)
        change wpList _ _ _ _ _ w3.drew
        go_wp2
        go_roundw
        case rel => exact ⟨j + 1, i, _, by omega, rfl, by first | rfl | go_num, HSET.out, BX.out⟩
        case measure => simp only [intOf]; omega

theorem l02Compose_ok (m : Int) (d : Nat) (A : Option Addr) (c : Nat) (l : List Int) (A' : Option Addr) (c' : Nat) (l' : List Int) (w : World) (hs : SerOk m d l) (hs' : SerOk m d l') (hz : Ser.co l' 0 = 0) (hr : RI w A l) (hr' : RI w A' l') :
    Calls Try.prog 114 #[.int .i64 m, .slice A l.length c, .slice A' l'.length c', .int .i64 d] w fun e w' => ∃ v, e = .returned v ∧ OwnI w' w.heap.size v (Ser.cmpL m d l l') ∧ Below w.heap.size w w' :=
  l02Compose_any m d A c l A' c' l' w hs.m1 hs.m2 (by have := hs.d2; omega) (by have := hs.len; omega) (by have := hs.len; have := hs.d2; omega) (by have := hs'.len; have := hs'.d2; omega) hs.red hs'.red hz hr hr'

end Go.Proofs.Ytpmbojbdppbkgaa

/- Contracts of InverseOfSeries, of the model. -/
namespace Go.Proofs.Ytpmbojbdppbkgaa
open Go.RowKit Go.WideShapes Go.ChangeShapes Go.ChangeAt

theorem inv_next (m u S : Int) : (m - S % m) * u % m = (-u * S) % m := by
  have h1 : (m - S % m) % m = (0 - S) % m := Ser.sub_cong (by simp) (Int.emod_emod _ _)
  have h2 : (m - S % m) * u % m = (0 - S) * u % m := Ser.mul_cong h1 rfl
  rw [h2, Int.zero_sub, Int.neg_mul, Int.neg_mul, Int.mul_comm]
theorem invC_next (m u : Int) (a : Nat → Int) (k : Nat) : Ser.invC m u a (k + 1) = Ser.invC m u a k ++ [(m - Ser.psum (fun q => a (q + 1) * Ser.co (Ser.invC m u a k) (k - q)) (k + 1) % m) * u % m] := by
  rw [inv_next, Ser.invC, Ser.cv_succ, Ser.co_over (l := Ser.invC m u a k) (by rw [Ser.invC_length]; exact Nat.le_refl _), Int.mul_zero, Int.zero_add, Ser.cv_psum]
  rfl

set_option maxHeartbeats 8000000 in
set_option maxRecDepth 100000 in
theorem l02Inverse_any (m : Int) (d : Nat) (A : Option Addr) (c : Nat) (l : List Int) (w : World) (hs : SerOk m d l) (hr : RI w A l) :
    Calls Try.prog 136 #[.int .i64 m, .slice A l.length c, .int .i64 d] w fun e w' => ∃ v, e = .returned v ∧ OwnI w' w.heap.size v (Ser.invC m (egI m (Ser.co l 0)).2 (Ser.co l) d) ∧ Below w.heap.size w w' := by
  have HS := Lib.hid hs
  have HR := Lib.hid hr
  have m1 := hs.m1
  have m2 := hs.m2
  have hd := hs.d2
  have hd1 := hs.d1
  have hlen := hs.len
  have hm0 : ¬ m = 0 := by omega
  obtain ⟨r1, r2⟩ := hs.red 0
  obtain ⟨-, -, u1, u2⟩ := eg_fact m _ r1 r2
  obtain ⟨b0, off0, rfl, hb0, hc0⟩ := hr.at 0 (by omega)
  have hc0' : w.cell? ⟨b0, off0, none⟩ = some (.int .i64 (Ser.co l 0)) := hc0
  obtain ⟨X, hX⟩ : ∃ X, Ser.co l 0 = X := ⟨_, rfl⟩
  rw [hX] at r1 r2 u1 u2 hc0' ⊢
  have HI := Lib.hid (fun W0 => l01Inv_any m X W0 r1 r2 m2)
  obtain ⟨u, hu⟩ : ∃ u, (egI m X).2 = u := ⟨_, rfl⟩
  rw [hu] at u1 u2 HI ⊢
  have z0 : (0 : Int) < (l.length : Int) := by omega
  obtain ⟨a, ha⟩ : ∃ a, Ser.co l = a := ⟨_, rfl⟩
  rw [ha]
  have HAE := Lib.hid ha
  have HLN := Lib.hid hlen
  clear hs hr hu hX ha hc0 hlen
  go_enter Try.func136, Try.ntmps136
  go_wp2_with (go_at_call 138; refine (HI.out _).mono ?_; rintro e w' ⟨rfl, rfl⟩)
  clear hc0'
  go_loopw [8, 9, 10, 11] (fun s8 s9 _ _ wr => ∃ n k : Nat, n = k + 1 ∧ k ≤ d ∧ s9 = .int .i64 n ∧ OwnI wr w.heap.size s8 (Ser.invC m u a k) ∧ Below w.heap.size w wr) (fun _ s9 _ _ _ => d + 2 - (intOf s9).toNat)
  case atStart => exact ⟨1, 0, rfl, Nat.zero_le _, rfl, OwnI.one w u, below_one _ _⟩
  case round =>
    obtain ⟨n, k, hkn, hk, rfl, own, hbl⟩ := hrel
    have OW := Lib.hid own
    have HB := Lib.hid hbl
    obtain ⟨Ao, co, rfl, ro⟩ := own.form
    have RO := Lib.hid ro
    have HKL := Lib.hid (Ser.invC_length m u a k)
    have HKN := Lib.hid hkn
    have hsz : w.heap.size ≤ wr.heap.size := hbl.size
    clear own hbl ro
    by_cases hlt : n ≤ d
    · have hlt2 : (n : Int) ≤ (d : Int) := by omega
      obtain ⟨f, hf⟩ : ∃ f, f = fun q => a (q + 1) * Ser.co (Ser.invC m u a k) (k - q) := ⟨_, rfl⟩
      have HF := Lib.hid hf
      have hnx := invC_next m u a k
      rw [← hf] at hnx
      have HNX := Lib.hid hnx
      have HRED := Lib.hid (Ser.invC_red (m := m) (u := u) (by omega) u1 u2 a k)
      clear hf hnx hkn
      go_wp2
      go_loopw [10, 11] (fun s10 s11 wx => ∃ i j : Nat, i = j + 1 ∧ j ≤ k + 1 ∧ s11 = .int .i64 i ∧ s10 = .int .i64 (Ser.psum f j % m) ∧ ∃ q, wx = wr.drewN q) (fun _ s11 _ => n + 1 - (intOf s11).toNat)
      case atStart => exact ⟨1, 0, rfl, by omega, rfl, by simp [Ser.psum], 0, rfl⟩
      case round =>
        obtain ⟨i, j, hij, hj, rfl, rfl, q, rfl⟩ := hrel
        have hkn := HKN.out
        have hkl := HKL.out
        by_cases hin : i ≤ n
        · have hin2 : (i : Int) ≤ (n : Int) := by omega
          obtain ⟨b, off, hbe, hb, hc⟩ := HR.out.at i (by have := HLN.out; omega)
          injection hbe with hbe
          injection hbe with hbe1 hbe2
          subst hbe1 hbe2
          have hc1 := (HB.out.cell (p := ⟨b0, off0 + i, none⟩) hb).trans hc
          obtain ⟨b', off', hAo, hb', hc'⟩ := RO.out.at (n - i) (by omega)
          subst hAo
          have r1 := HS.out.red i
          have r2 := HRED.out (n - i)
          rw [HAE.out] at r1 hc1
          have hst : Ser.psum f (j + 1) = Ser.psum f j + a i * Ser.co (Ser.invC m u a k) (n - i) := by rw [Ser.psum, HF.out, hij, hkn, Nat.add_sub_add_right]
          obtain ⟨Y, hY⟩ : ∃ Y, a i = Y := ⟨_, rfl⟩
          obtain ⟨Z, hZ⟩ : ∃ Z, Ser.co (Ser.invC m u a k) (n - i) = Z := ⟨_, rfl⟩
          rw [hY] at r1 hc1 hst
          rw [hZ] at r2 hc' hst
          have hmod : (Ser.psum f j % m + Y * Z) % m = Ser.psum f (j + 1) % m := by rw [hst, Int.emod_add_emod]
          have s1 := Int.emod_nonneg (Ser.psum f j) hm0
          have s2 := Int.emod_lt_of_pos (Ser.psum f j) (show 0 < m by omega)
          obtain ⟨T, hT⟩ : ∃ T, Ser.psum f j % m = T := ⟨_, rfl⟩
          rw [hT] at hmod s1 s2
          have p1 := Int.mul_nonneg r1.1 r2.1
          have p2 := (mul_bd (x := Y) (y := Z) r1.1 (by omega) (by omega) (by omega)).2
          have HMOD := Lib.hid hmod
          have HT := Lib.hid hT
          have j0 : (0 : Int) ≤ (i : Int) := by omega
          have j1 : (i : Int) < (l.length : Int) := by have := HLN.out; omega
          have j2 : (0 : Int) ≤ (n : Int) - (i : Int) := by omega
          have j3 : (n : Int) - (i : Int) < ((Ser.invC m u a k).length : Int) := by omega
          have j5 : ((n : Int) - (i : Int)).toNat = n - i := by omega
          have HIJ := Lib.hid hij
          clear hY hZ hT hst hmod hc hb hb' hkn hkl hij
          rw [HT.out]
          go_wp2
          go_quiet (fail)
          go_wp2
          go_roundw
          case rel => exact ⟨i + 1, j + 1, by have := HIJ.out; omega, by have := HIJ.out; have := HKN.out; omega, by go_num, by rw [← HMOD.out], _, rfl⟩
          case measure => simp only [intOf]; omega
        · obtain rfl : j = k + 1 := by omega
          have HIJ := Lib.hid hij
          have hin2 : ¬ (i : Int) ≤ (n : Int) := by omega
          have s1 := Int.emod_nonneg (Ser.psum f (k + 1)) hm0
          have s2 := Int.emod_lt_of_pos (Ser.psum f (k + 1)) (show 0 < m by omega)
          obtain ⟨T, hT⟩ : ∃ T, Ser.psum f (k + 1) % m = T := ⟨_, rfl⟩
          have HN2 := HNX.out
          rw [hT] at s1 s2 HN2 ⊢
          have HN3 := Lib.hid HN2
          have p1 : 0 ≤ (m - T) * u := Int.mul_nonneg (by omega) u1
          have p2 := (mul_bd (x := m - T) (y := u) (by omega) (by omega) (by omega) (by omega)).2
          obtain ⟨V, hV⟩ : ∃ V, m - T = V := ⟨_, rfl⟩
          rw [hV] at p1 p2 HN2 HN3
          have w1 : IntKind.i64.wrap V = V := by rw [IntKind.wrap_i64]; omega
          have OW2 := Lib.hid (OwnI.drewN OW.out q)
          have HB2 := Lib.hid (below_drewN HB.out q)
          clear hT HN2 hin hkn hkl hij
          go_wp2_with (at_builtin; refine wp_push _ _ _ (by rfl) (by rfl) Try.underlying26 w.heap.size _ _ (by rfl) OW2.out (V * u % m) (by rfl) (by have := HKL.out; omega) hsz ?_; intro v' w1 ho1 hpb)
          have HO3 := Lib.hid ho1
          have HB3 := Lib.hid (HB2.out.trans hpb)
          clear ho1 hpb
          go_wp2
          go_roundw
          case rel => exact ⟨n + 1, n, rfl, hlt, by go_num, by rw [show n = k + 1 from HKN.out, HN3.out]; exact HO3.out, HB3.out⟩
          case measure => simp only [intOf]; omega
    · have hlt2 : ¬ (n : Int) ≤ (d : Int) := by omega
      obtain rfl : k = d := by omega
      clear hkn
      go_wp2
      go_ret
      exact ⟨_, rfl, OW.out, HB.out⟩

end Go.Proofs.Ytpmbojbdppbkgaa

