/- The walk of the law of moduli. -/
import Derived.Test.YtkhdbphdeabgnaaMdF
import Derived.Test.YtkhdbphdeabgnaaLst
import Derived.Test.YtkhdbphdeabgnaaLik
import Derived.Test.YtkhdbphdeabgnaaRbR
import Derived.Deep.DeepCutAuto
namespace Go.Proofs.Ytkhdbphdeabgnaa
open Go.RowKit Go.WideShapes Go.ChangeShapes Go.ChangeAt

theorem RB.at2 {w w' : World} {A : Option Addr} {n : Nat} (h : RB w w.heap.size A n) (hb : Below w.heap.size w w') : RB w' w'.heap.size A n := by
  intro hn
  obtain ⟨ad, e, hlt, hc⟩ := h hn
  refine ⟨ad, e, Nat.lt_of_lt_of_le hlt hb.size, fun k hk => ?_⟩
  obtain ⟨y, a, b, c⟩ := hc k hk
  exact ⟨y, a, b, (hb.cell (p := ad.add k) (by rw [add_block]; exact hlt)).trans c⟩

set_option maxHeartbeats 8000000 in
set_option maxRecDepth 100000 in
theorem FnModulo_walk (a0 : Option Addr) (len0 cap0 : Nat) (w : World) (hmax : len0 ≤ 9223372036854775807) (hrb : RB w w.heap.size a0 len0) :
    Calls Try.prog 3 #[.slice a0 len0 cap0] w fun e w' => e = .returned (.bool true) ∧ Below w.heap.size w w' := by
  by_cases hle : (len0 : Int) ≤ 4096
  · have HRB := Lib.hid hrb
    have hn4 : len0 ≤ 4096 := by omega
    clear hrb
    go_enter Try.func3, Try.ntmps3
    go_wp2_with fail
    refine (big_any _ _ _ _ hmax).mono ?_
    rintro e wa ⟨rfl, rfl⟩
    go_wp2_with fail
    refine (DrawInverseModulo_any _ _ _ _ hn4 HRB.out).mono ?_
    rintro e w1 ⟨m, a, rfl, hb1⟩
    have B1 := Lib.hid hb1
    clear hb1
    obtain ⟨X, C1, hXC⟩ : ∃ X C, invM m a = (X, C) := ⟨_, _, rfl⟩
    have HI1 : Hid (∀ W : World, Calls Try.prog 17 #[.int .i64 m, .int .i64 a] W fun e w' => e = .returned (.tuple #[.int .i64 X, .int .i64 C1]) ∧ Below W.heap.size W w') :=
      Lib.hid (fun W => by have := InverseModulo_any m a W; rw [hXC] at this; exact this)
    have HS1 : Hid (∀ W : World, Calls Try.prog 18 #[.int .i64 m, .int .i64 a] W fun e w' => e = .returned (.tuple #[.int .i64 X, .int .i64 C1]) ∧ Below W.heap.size W w') :=
      Lib.hid (fun W => by have := sInverseModulo_any m a W; rw [hXC] at this; exact this)
    have HX := Lib.hid hXC
    obtain ⟨N, C3, hNC⟩ : ∃ N C, ordM m a = (N, C) := ⟨_, _, rfl⟩
    have HI2 : Hid (∀ W : World, Calls Try.prog 19 #[.int .i64 m, .int .i64 a] W fun e w' => e = .returned (.tuple #[.int .i64 N, .int .i64 C3]) ∧ Below W.heap.size W w') :=
      Lib.hid (fun W => by have := OrderModulo_any m a W; rw [hNC] at this; exact this)
    have HS2 : Hid (∀ W : World, Calls Try.prog 20 #[.int .i64 m, .int .i64 a] W fun e w' => e = .returned (.tuple #[.int .i64 N, .int .i64 C3]) ∧ Below W.heap.size W w') :=
      Lib.hid (fun W => by have := sOrderModulo_any m a W; rw [hNC] at this; exact this)
    have HN := Lib.hid hNC
    obtain ⟨U, C5, hUC⟩ : ∃ U C, uniM m a = (U, C) := ⟨_, _, rfl⟩
    have HI3 : Hid (∀ W : World, Calls Try.prog 21 #[.int .i64 m, .int .i64 a] W fun e w' => e = .returned (.tuple #[.bool U, .int .i64 C5]) ∧ Below W.heap.size W w') :=
      Lib.hid (fun W => by have := IsUnit_any m a W; rw [hUC] at this; exact this)
    have HS3 : Hid (∀ W : World, Calls Try.prog 22 #[.int .i64 m, .int .i64 a] W fun e w' => e = .returned (.tuple #[.bool U, .int .i64 C5]) ∧ Below W.heap.size W w') :=
      Lib.hid (fun W => by have := sIsUnit_any m a W; rw [hUC] at this; exact this)
    have HU := Lib.hid hUC
    obtain ⟨E, hE⟩ : ∃ E, isM m = E := ⟨_, rfl⟩
    have HI4 : Hid (∀ W : World, Calls Try.prog 23 #[.int .i64 m] W fun e w' => e = .returned (.bool E) ∧ W = w') :=
      Lib.hid (fun W => by have := IsModulus_any m W; rw [hE] at this; exact this)
    have HS4 : Hid (∀ W : World, Calls Try.prog 24 #[.int .i64 m] W fun e w' => e = .returned (.bool E) ∧ W = w') :=
      Lib.hid (fun W => by have := sIsModulus_any m W; rw [hE] at this; exact this)
    clear hXC hNC hUC hE
    go_wp2_with fail
    refine (HI1.out _).mono ?_
    rintro e w2 ⟨rfl, hb⟩
    have B2 := Lib.hid (B1.out.trans (hb.mono B1.out.size))
    clear hb
    go_wp2_with fail
    refine (HS1.out _).mono ?_
    rintro e w3 ⟨rfl, hb⟩
    have B3 := Lib.hid (B2.out.trans (hb.mono B2.out.size))
    clear hb
    go_wp2_with fail
    refine (HI2.out _).mono ?_
    rintro e w4 ⟨rfl, hb⟩
    have B4 := Lib.hid (B3.out.trans (hb.mono B3.out.size))
    clear hb
    go_wp2_with fail
    refine (HS2.out _).mono ?_
    rintro e w5 ⟨rfl, hb⟩
    have B5 := Lib.hid (B4.out.trans (hb.mono B4.out.size))
    clear hb
    go_wp2_with fail
    refine (HI3.out _).mono ?_
    rintro e w6 ⟨rfl, hb⟩
    have B6 := Lib.hid (B5.out.trans (hb.mono B5.out.size))
    clear hb
    go_wp2_with fail
    refine (HS3.out _).mono ?_
    rintro e w7 ⟨rfl, hb⟩
    have B7 := Lib.hid (B6.out.trans (hb.mono B6.out.size))
    clear hb
    go_wp2_with fail
    refine (HI4.out _).mono ?_
    rintro e w8 ⟨rfl, rfl⟩
    go_wp2_with fail
    refine (HS4.out _).mono ?_
    rintro e w9 ⟨rfl, rfl⟩
    clear HI1 HS1 HI2 HS2 HI3 HS3 HI4 HS4 B1 B2 B3 B4 B5 B6
    go_upto_if 123 with fail
    go_cut [17, 18, 19, 20, 21, 22] from 123 to 174 (fun _ _ _ _ _ _ wx => Below w.heap.size w wx)
    case first =>
      by_cases hC : C1 = 0
      · subst hC
        have hA := modA (m := m) (a := a) (by rw [HX.out])
        rw [HX.out, HN.out, HU.out] at hA
        obtain ⟨h1, h2, h3, ⟨n, u, h4, h5, h6, h7, h8, h9, h10⟩, h11⟩ := hA
        injection h4 with h4a h4b
        injection h11 with h11a h11b
        subst h4a h11a
        have K3 := Lib.hid h3
        have K5 := Lib.hid h5
        have K10 := Lib.hid h10
        have z1 : ((u : Nat) : Int) % ((n : Nat) : Int) = 0 := by omega
        have z2 : ¬ ((n : Nat) : Int) = 0 := by omega
        have z3 : (1 : Int) ≤ (n : Int) := by omega
        have z4 : ((u % n : Nat) : Int) = 0 := by omega
        clear h3 h4b h5 h10 h11b
        go_wp2_with fail
        refine (MultiplyModulo_any _ _ _ _).mono ?_
        rintro e w10 ⟨rfl, hb⟩
        rw [K3.out]
        have B10 := Lib.hid (B7.out.trans (hb.mono B7.out.size))
        clear hb
        go_wp2_with fail
        refine (CountUnits_any _ _).mono ?_
        rintro e w11 ⟨rfl, hb⟩
        rw [K5.out]
        have B11 := Lib.hid (B10.out.trans (hb.mono B10.out.size))
        clear hb
        go_wp2_with fail
        refine (PowerModulo_any _ _ _ _).mono ?_
        rintro e w12 ⟨rfl, hb⟩
        rw [K10.out]
        have B12 := Lib.hid (B11.out.trans (hb.mono B11.out.size))
        clear hb
        go_wp2_with fail
        go_meet
        case rel => exact B12.out
      · obtain ⟨n1, n2⟩ := ne_facts hC
        go_wp2_with fail
        go_meet
        case rel => exact B7.out
    case rest =>
      have HW := Lib.hid hcut
      clear hcut HX HN HU B7
      go_wp2_with fail
      refine (DrawSolveModulo_any _ _ _ _ hn4 (HRB.out.at2 HW.out)).mono ?_
      rintro e w20 ⟨k, b, c, rfl, hb⟩
      have B20 := Lib.hid (HW.out.trans (hb.mono HW.out.size))
      clear hb
      obtain ⟨Y, CS, hYC⟩ : ∃ Y C, solM k b c = (Y, C) := ⟨_, _, rfl⟩
      have HI1 : Hid (∀ W : World, Calls Try.prog 29 #[.int .i64 k, .int .i64 b, .int .i64 c] W fun e w' => e = .returned (.tuple #[.int .i64 Y, .int .i64 CS]) ∧ Below W.heap.size W w') :=
        Lib.hid (fun W => by have := SolveModulo_any k b c W; rw [hYC] at this; exact this)
      have HS1 : Hid (∀ W : World, Calls Try.prog 30 #[.int .i64 k, .int .i64 b, .int .i64 c] W fun e w' => e = .returned (.tuple #[.int .i64 Y, .int .i64 CS]) ∧ Below W.heap.size W w') :=
        Lib.hid (fun W => by have := sSolveModulo_any k b c W; rw [hYC] at this; exact this)
      have HY := Lib.hid hYC
      clear hYC
      go_wp2_with fail
      refine (HI1.out _).mono ?_
      rintro e w21 ⟨rfl, hb⟩
      have B21 := Lib.hid (B20.out.trans (hb.mono B20.out.size))
      clear hb
      go_wp2_with fail
      refine (HS1.out _).mono ?_
      rintro e w22 ⟨rfl, hb⟩
      have B22 := Lib.hid (B21.out.trans (hb.mono B21.out.size))
      clear hb B20 B21 HI1 HS1
      go_upto_region 23 with fail
      go_cut [208] from 203 to 207 (fun q wx => q = .bool ((CS == 0) || (CS == 4)) ∧ wx = w22)
      case first =>
        by_cases h5 : CS = 0
        · subst h5
          go_wp2_with fail
          go_meet
          case rel => exact ⟨by simp, rfl⟩
        · obtain ⟨n1, n2⟩ := ne_facts h5
          by_cases h6 : CS = 4
          · subst h6
            go_wp2_with fail
            go_meet
            case rel => exact ⟨by simp, rfl⟩
          · have n3 : (CS == 4) = false := by simp [h6]
            go_wp2_with fail
            go_meet
            case rel => exact ⟨by simp [n1, n3], rfl⟩
      case rest =>
        obtain ⟨rfl, rfl⟩ := hcut
        go_upto_if 208 with fail
        go_cut [30, 31] from 208 to 242 (fun _ _ wx => Below w.heap.size w wx)
        case first =>
          by_cases h5 : CS = 0
          · subst h5
            have hbb : (((0 : Int) == 0) || ((0 : Int) == 4)) = true := by decide
            rw [hbb]
            clear hbb
            obtain ⟨k1, k2, b1, b2, c1, c2, g, g1, g2, g3, hz, _⟩ := modB (k := k) (b := b) (c := c) (.inl (by rw [HY.out]))
            have hz' := hz (by rw [HY.out])
            rw [HY.out] at hz'
            obtain ⟨s1, s2, s3, s4⟩ := hz'
            have G1 := Lib.hid g1
            have p1 : 0 ≤ b * Y := Int.mul_nonneg b1 s2
            have p2 : b * Y ≤ 100000000 := by
              have e1 : b * Y ≤ 10000 * Y := Int.mul_le_mul_of_nonneg_right (by omega) s2
              dsimp only at s3
              omega
            dsimp only at s2 s3 s4
            clear g1 hz
            go_wp2_with fail
            refine (CommonDivisor_any _ _ _).mono ?_
            rintro e w30 ⟨rfl, hb⟩
            rw [G1.out]
            have B30 := Lib.hid (B22.out.trans (hb.mono B22.out.size))
            clear hb
            go_wp2_with fail
            go_meet
            case rel => exact B30.out
          · obtain ⟨n1, n2⟩ := ne_facts h5
            by_cases h6 : CS = 4
            · subst h6
              have hbb : (((4 : Int) == 0) || ((4 : Int) == 4)) = true := by decide
              rw [hbb]
              clear hbb
              obtain ⟨k1, k2, b1, b2, c1, c2, g, g1, g2, g3, _, hz⟩ := modB (k := k) (b := b) (c := c) (.inr (by rw [HY.out]))
              have s1 := hz (by rw [HY.out])
              obtain ⟨n3, n4⟩ := ne_facts s1
              have G1 := Lib.hid g1
              clear g1 hz
              go_wp2_with fail
              refine (CommonDivisor_any _ _ _).mono ?_
              rintro e w30 ⟨rfl, hb⟩
              rw [G1.out]
              have B30 := Lib.hid (B22.out.trans (hb.mono B22.out.size))
              clear hb
              go_wp2_with fail
              go_meet
              case rel => exact B30.out
            · have hbb : ((CS == 0) || (CS == 4)) = false := by simp [h5, h6]
              rw [hbb]
              clear hbb n1 n2
              go_wp2_with fail
              go_meet
              case rel => exact B22.out
        case rest =>
          have HV := Lib.hid hcut
          clear hcut HY B22
          go_wp2_with fail
          refine (DrawRootsModulo_any _ _ _ _ hn4 (HRB.out.at2 HV.out)).mono ?_
          rintro e w40 ⟨q, v, rfl, l, ho, hl, hb⟩
          have B40 := Lib.hid (HV.out.trans (hb.mono HV.out.size))
          obtain ⟨A4, c4, rfl, hri⟩ := ho.form
          have R4 := Lib.hid hri
          have O4 := Lib.hid ho
          have hl2 : l.length ≤ 1048576 := by omega
          clear hri ho hb hl
          go_wp2_with fail
          refine (RootsModulo_any _ _ _ _ _ hl2 R4.out).mono ?_
          rintro e w41 ⟨v1, rfl, ho1, hb⟩
          have B41 := Lib.hid (B40.out.trans (hb.mono B40.out.size))
          have O5 := Lib.hid (O4.out.keep hb)
          have O1 := Lib.hid ho1
          clear hb ho1
          go_wp2_with fail
          refine (sRootsModulo_any _ _ _ _ _ hl2 (OwnI.ri O5.out)).mono ?_
          rintro e w42 ⟨v2, rfl, ho2, hb⟩
          have B42 := Lib.hid (B41.out.trans (hb.mono B41.out.size))
          have P1 := Lib.hid (O1.out.keep hb)
          have O2 := Lib.hid ho2
          clear hb ho2
          go_wp2_with fail
          refine (DrawRemainderOf_any _ _ _ _ hn4 (HRB.out.at2 B42.out)).mono ?_
          rintro e w43 ⟨r, s, rfl, r1, r2, s1, s2, hb⟩
          have B43 := Lib.hid (B42.out.trans (hb.mono B42.out.size))
          have P2 := Lib.hid (P1.out.keep hb)
          have Q2 := Lib.hid (O2.out.keep hb)
          clear hb
          obtain ⟨Z, C9, hZC⟩ : ∃ Z C, remM r s = (Z, C) := ⟨_, _, rfl⟩
          have HI1 : Hid (∀ W : World, Calls Try.prog 36 #[.int .i64 r, .int .i64 s] W fun e w' => e = .returned (.tuple #[.int .i64 Z, .int .i64 C9]) ∧ Below W.heap.size W w') :=
            Lib.hid (fun W => by have := RemainderOf_any r s W; rw [hZC] at this; exact this)
          have HS1 : Hid (∀ W : World, Calls Try.prog 37 #[.int .i64 r, .int .i64 s] W fun e w' => e = .returned (.tuple #[.int .i64 Z, .int .i64 C9]) ∧ Below W.heap.size W w') :=
            Lib.hid (fun W => by have := sRemainderOf_any r s W; rw [hZC] at this; exact this)
          have HZ := Lib.hid hZC
          clear hZC
          go_wp2_with fail
          refine (HI1.out _).mono ?_
          rintro e w44 ⟨rfl, hb⟩
          have B44 := Lib.hid (B43.out.trans (hb.mono B43.out.size))
          have P3 := Lib.hid (P2.out.keep hb)
          have Q3 := Lib.hid (Q2.out.keep hb)
          clear hb
          go_wp2_with fail
          refine (HS1.out _).mono ?_
          rintro e w45 ⟨rfl, hb⟩
          have B45 := Lib.hid (B44.out.trans (hb.mono B44.out.size))
          have P4 := Lib.hid (P3.out.keep hb)
          have Q4 := Lib.hid (Q3.out.keep hb)
          clear hb HI1 HS1
          obtain ⟨RR, CR, hRR⟩ : ∃ R C, rooM q l = (R, C) := ⟨_, _, rfl⟩
          have hlen : RR.length ≤ 10485760 := by have := rooM_len q l; rw [hRR] at this; dsimp only at this; omega
          have P5 : Hid (OwnI w45 w40.heap.size v1 RR) := Lib.hid (by have := P4.out; rw [hRR] at this; exact this)
          have Q5 : Hid (OwnI w45 w41.heap.size v2 RR) := Lib.hid (by have := Q4.out; rw [hRR] at this; exact this)
          rw [hRR]
          clear hRR
          obtain ⟨A6, c6, rfl, t6⟩ := P5.out.form
          obtain ⟨A7, c7, rfl, t7⟩ := Q5.out.form
          have T6 := Lib.hid t6
          have T7 := Lib.hid t7
          clear t6 t7
          by_cases h9 : C9 = 0
          · subst h9
            have hD := modD (r := r) (s := s) (by rw [HZ.out])
            rw [HZ.out] at hD
            obtain ⟨d1, d2, d3, d4, d5, d6, d7⟩ := hD
            dsimp only at d5 d6 d7
            go_wp2_with fail
            refine (likeInts_q _ _ _ _ RR _ hlen T6.out T7.out).mono ?_
            rintro e w46 ⟨rfl, nn, rfl⟩
            go_wp2
            go_ret
            exact ⟨rfl, below_drewN B45.out _⟩
          · obtain ⟨n1, n2⟩ := ne_facts h9
            go_wp2_with fail
            refine (likeInts_q _ _ _ _ RR _ hlen T6.out T7.out).mono ?_
            rintro e w46 ⟨rfl, nn, rfl⟩
            go_wp2
            go_ret
            exact ⟨rfl, below_drewN B45.out _⟩
  · go_enter Try.func3, Try.ntmps3
    go_wp2_with (go_at_call 15; refine (big_any _ _ _ _ hmax).mono ?_; rintro e wa ⟨rfl, rfl⟩)
    go_ret
    exact ⟨rfl, Below.refl _ _⟩

end Go.Proofs.Ytkhdbphdeabgnaa
