/- The walk of the law of integers. -/
import Derived.Test.YtkhdbphdeabgnaaLik
import Derived.Test.YtkhdbphdeabgnaaPfa
import Derived.Test.YtkhdbphdeabgnaaVal
import Derived.Test.YtkhdbphdeabgnaaBid
import Derived.Test.YtkhdbphdeabgnaaDrw
import Derived.Test.YtkhdbphdeabgnaaIntN
import Derived.Test.YtkhdbphdeabgnaaRbR
import Derived.Deep.DeepCutAuto
namespace Go.Proofs.Ytkhdbphdeabgnaa
open Go.RowKit Go.WideShapes Go.ChangeShapes Go.ChangeAt

theorem RB.at_ {w w' : World} {A : Option Addr} {n : Nat} (h : RB w w.heap.size A n) (hb : Below w.heap.size w w') : RB w' w'.heap.size A n := by
  intro hn
  obtain ⟨ad, e, hlt, hc⟩ := h hn
  refine ⟨ad, e, Nat.lt_of_lt_of_le hlt hb.size, fun k hk => ?_⟩
  obtain ⟨y, a, b, c⟩ := hc k hk
  exact ⟨y, a, b, (hb.cell (p := ad.add k) (by rw [add_block]; exact hlt)).trans c⟩
theorem lz_gz (d : Nat) : ∀ k, k ≤ d → lz (d : Int) k = ((Num.gzR (Num.rowL d) k : Nat) : Int)
  | 0, _ => rfl
  | k + 1, h => by
    rw [lz, lz_gz d k (by omega), Num.gzR, Num.rowL_get d (k + 1) h]
    unfold gcdI binI
    simp
theorem bin_pascal {a b : Int} (ha : 0 < a) (hb : 0 < b) : binI a b = binI (a - 1) b + binI (a - 1) (b - 1) := by
  unfold binI
  obtain ⟨n, hn⟩ : ∃ n : Nat, a = ((n + 1 : Nat) : Int) := ⟨a.toNat - 1, by omega⟩
  obtain ⟨k, hk⟩ : ∃ k : Nat, b = ((k + 1 : Nat) : Int) := ⟨b.toNat - 1, by omega⟩
  rw [show a.toNat = n + 1 by omega, show b.toNat = k + 1 by omega, show (a - 1).toNat = n by omega, show (b - 1).toNat = k by omega, Num.bin_succ]
  omega
theorem facM_code (x : Int) : (facM x).2 = 0 ∧ inB x 1 1000000000000 = true ∧ (facM x).1 = facN x.toNat ∨ (facM x).2 = 2 ∧ inB x 1 1000000000000 = false := by
  unfold facM
  by_cases h : inB x 1 1000000000000 = true
  · left; rw [if_pos h]; exact ⟨rfl, h, rfl⟩
  · right; rw [if_neg h]; exact ⟨rfl, by simpa using h⟩

set_option maxHeartbeats 8000000 in
set_option maxRecDepth 100000 in
theorem FnIntegers_walk (a0 : Option Addr) (len0 cap0 : Nat) (w : World) (hmax : len0 ≤ 9223372036854775807) (hrb : RB w w.heap.size a0 len0) :
    Calls Try.prog 4 #[.slice a0 len0 cap0] w fun e w' => e = .returned (.bool true) ∧ Below w.heap.size w w' := by
  by_cases hle : (len0 : Int) ≤ 4096
  · have HRB := Lib.hid hrb
    have hn4 : len0 ≤ 4096 := by omega
    clear hrb
    go_enter Try.func4, Try.ntmps4
    go_wp2_with fail
    refine (big_any _ _ _ _ hmax).mono ?_
    rintro e wa ⟨rfl, rfl⟩
    go_wp2_with fail
    refine (DrawPrimeFactors_any _ _ _ _ hn4 HRB.out).mono ?_
    rintro e w1 ⟨x, rfl, hb1⟩
    have B1 := Lib.hid hb1
    clear hb1
    obtain ⟨R, C, hRC⟩ : ∃ R C, facM x = (R, C) := ⟨_, _, rfl⟩
    obtain ⟨r1, r2, r3⟩ := facM_bd x
    rw [hRC] at r1 r2 r3
    dsimp only at r1 r2 r3
    have HS : Hid (∀ W : World, Calls Try.prog 41 #[.int .i64 x] W fun e w' => ∃ v, e = .returned (.tuple #[v, .int .i64 C]) ∧ OwnR w' W.heap.size w'.heap.size v R ∧ Below W.heap.size W w') :=
      Lib.hid (fun W => by have := sPrimeFactors_any x W; rw [hRC] at this; exact this)
    have HI : Hid (∀ W : World, Calls Try.prog 40 #[.int .i64 x] W fun e w' => ∃ v, e = .returned (.tuple #[v, .int .i64 C]) ∧ OwnR w' W.heap.size w'.heap.size v R ∧ Below W.heap.size W w') :=
      Lib.hid (fun W => by have := PrimeFactors_any x W; rw [hRC] at this; exact this)
    have H3 := Lib.hid r3
    have HRC := Lib.hid hRC
    clear hRC r3
    go_wp2_with fail
    refine (HI.out _).mono ?_
    rintro e w2 ⟨v2, rfl, ho2, hb2⟩
    have B2 := Lib.hid (B1.out.trans (hb2.mono B1.out.size))
    have O2 := Lib.hid ho2
    clear ho2 hb2
    go_wp2_with fail
    refine (HS.out _).mono ?_
    rintro e w3 ⟨v3, rfl, ho3, hb3⟩
    have B3 := Lib.hid (B2.out.trans (hb3.mono B2.out.size))
    have O3 := Lib.hid ho3
    have P2 := Lib.hid (O2.out.keep hb3)
    have Z3 := Lib.hid hb3.size
    clear ho3 hb3
    go_wp2_with fail
    refine (rows5_any _ _ _ _ _ _ R _ (by omega) (fun i => by have := H3.out i; omega) P2.out O3.out).mono ?_
    rintro e w4 ⟨rfl, hb4⟩
    have B4 := Lib.hid (B3.out.trans (hb4.mono B3.out.size))
    have Q2 := Lib.hid (P2.out.keep (hb4.mono Z3.out))
    clear hb4
    obtain ⟨A2, c2, rfl, -⟩ := Q2.out.read
    go_upto_if 62 with fail
    go_cut [8, 9, 10, 11, 12, 13, 14] from 63 to 141 (fun _ _ _ _ _ _ _ wx => Below w.heap.size w wx)
    case first =>
      by_cases hC : C = 0
      · subst hC
        rcases facM_code x with ⟨_, f2, f3⟩ | ⟨f1, _⟩
        · rw [HRC.out] at f3
          dsimp only at f3
          obtain ⟨x1, x2⟩ := (inB_iff _ _ _).1 f2
          obtain ⟨N, rfl⟩ := Int.eq_ofNat_of_zero_le (show 0 ≤ x by omega)
          rw [Int.toNat_natCast] at f3
          have HR := Lib.hid f3
          have hlen : R.length = (Num.fz 2 N).length := by rw [f3]; simp [facN]
          have HL := Lib.hid hlen
          have hN1 : 1 ≤ N := by omega
          have hN2 : N ≤ 1000000000000 := by omega
          have hisI : isI (N : Int) = true := isI_iff.2 ⟨by omega, by omega⟩
          have HISI := Lib.hid hisI
          clear f2 f3 hlen hisI
          go_wp2
          go_loopw [8, 9] (fun p i wr => ∃ j : Nat, j ≤ R.length ∧ i = .int .i64 j ∧ p = .int .i64 (Num.prodF ((Num.fz 2 N).take j) : Nat) ∧ Below w4.heap.size w4 wr) (fun _ i _ => R.length - (intOf i).toNat)
          case atStart => exact ⟨0, Nat.zero_le _, rfl, rfl, Below.refl _ _⟩
          case round =>
            obtain ⟨j, hj, rfl, rfl, hbel⟩ := hrel
            have HB := Lib.hid hbel
            clear hbel
            by_cases hlt : j < R.length
            · obtain ⟨g, cc, A1, d1, e1, g1, k1, -, o1, -⟩ := Q2.out.row j hlt
              injection e1 with e1 e1b e1c
              subst e1
              clear e1b e1c
              obtain ⟨y, hy⟩ : ∃ y, (Num.fz 2 N)[j]? = some y := ⟨_, List.getElem?_eq_getElem (by rw [← HL.out]; exact hlt)⟩
              have hrow : R[j]?.getD [] = [((y.1 : Nat) : Int), ((y.2 : Nat) : Int)] := by
                rw [HR.out]; unfold facN; rw [List.getElem?_map, hy]; rfl
              obtain ⟨p1, p2, p3, p4⟩ := Num.fz_row N hN1 y (List.mem_of_getElem? hy)
              obtain ⟨t1, t2⟩ := Num.fz_take N hN1 j y hy
              rw [hrow] at k1 o1
              obtain ⟨g', c3, e3⟩ := o1.openv (by simp)
              injection e3 with e3 e3b e3c
              subst e3
              clear e3b e3c
              obtain ⟨_, q2, q3, _⟩ := o1.cells
              have k2 := q3 0 (by simp)
              have k3 := q3 1 (by simp)
              obtain ⟨P, K⟩ := y
              dsimp only at p1 p2 p3 p4 t1 t2 k1 k2 k3
              simp only [List.length_cons, List.length_nil, List.getElem?_cons_zero, List.getElem?_cons_succ, Option.getD_some] at k1 k2 k3
              obtain ⟨D, hD⟩ : ∃ D, Num.prodF ((Num.fz 2 N).take j) = D := ⟨_, rfl⟩
              rw [hD] at t1 t2 ⊢
              have T1 := Lib.hid t1
              have T2 := Lib.hid t2
              have hKN : K ≤ N := by
                have h1 := (t2 K (Nat.le_refl _)).2
                have h2 : K < 2 ^ K := Nat.lt_two_pow_self
                have h3 : 2 ^ K ≤ P ^ K := Nat.pow_le_pow_left p1 K
                have h4 := (t2 0 (by omega)).1
                rw [Nat.pow_zero, Nat.mul_one] at h4
                have h5 : P ^ K ≤ D * P ^ K := Nat.le_mul_of_pos_left _ h4
                omega
              have P4 := Lib.hid p4
              have HPI : Hid (priM (P : Int) = (true, 0)) := Lib.hid (by rw [priM, if_pos (isI_iff.2 ⟨by omega, by omega⟩), p3])
              have HVA : Hid ((P : Int) ≤ 1000 → valM (P : Int) (N : Int) = (((K : Nat) : Int), 0)) := Lib.hid (fun h => by
                rw [valM, if_pos ⟨h, p3⟩, if_pos HISI.out, if_neg (by omega), tk_nat P p1 N hN1, P4.out])
              have K1 := Lib.hid k1
              have K2 := Lib.hid k2
              have K3 := Lib.hid k3
              have m1 := (HB.out.cell (p := ⟨g, j, none⟩) g1).trans k1
              have m2 := (HB.out.cell (p := ⟨g', 0, none⟩) q2).trans k2
              have m3 := (HB.out.cell (p := ⟨g', 1, none⟩) q2).trans k3
              clear hy hrow o1 q3 k1 k2 k3 p3 p4 t1 t2 hD
              go_wp2_with fail
              refine (IsPrimeNumber_any _ _).mono ?_
              rintro e w5 ⟨rfl, hb5⟩
              rw [HPI.out]
              have B5 := Lib.hid (HB.out.trans (hb5.mono HB.out.size))
              have m4 := (B5.out.cell (p := ⟨g, j, none⟩) g1).trans K1.out
              have m5 := (B5.out.cell (p := ⟨g', 0, none⟩) q2).trans K2.out
              have m6 := (B5.out.cell (p := ⟨g', 1, none⟩) q2).trans K3.out
              clear hb5
              by_cases hp : (P : Int) ≤ 1000
              · go_wp2_with fail
                refine (ValuationOf_any _ _ _).mono ?_
                rintro e w6 ⟨rfl, hb6⟩
                rw [HVA.out hp]
                have B6 := Lib.hid (B5.out.trans (hb6.mono B5.out.size))
                have m7 := (B6.out.cell (p := ⟨g, j, none⟩) g1).trans K1.out
                have m8 := (B6.out.cell (p := ⟨g', 0, none⟩) q2).trans K2.out
                have m9 := (B6.out.cell (p := ⟨g', 1, none⟩) q2).trans K3.out
                clear hb6
                go_wp2
                go_loop [8, 14] (fun p k => ∃ (U T : Nat), T + U = K ∧ k = .int .i64 U ∧ p = .int .i64 (D * P ^ T : Nat)) (fun _ k => (intOf k).toNat)
                case atStart => exact ⟨K, 0, by omega, rfl, by rw [Nat.pow_zero, Nat.mul_one]⟩
                case round =>
                  obtain ⟨U, T, hTU, rfl, rfl⟩ := hrel
                  have HTU := Lib.hid hTU
                  have hUK : U ≤ K := by omega
                  by_cases hU : 0 < U
                  · have hq := T2.out (T + 1) (by omega)
                    have hqe : D * P ^ (T + 1) = D * P ^ T * P := by rw [Nat.pow_succ, Nat.mul_assoc]
                    rw [hqe] at hq
                    obtain ⟨Q, hQ⟩ : ∃ Q, D * P ^ T = Q := ⟨_, rfl⟩
                    rw [hQ] at hq ⊢
                    have z1 : 0 ≤ (Q : Int) * (P : Int) := by rw [← Int.natCast_mul]; exact Int.natCast_nonneg _
                    have z2 : (Q : Int) * (P : Int) ≤ 1000000000000 := by rw [← Int.natCast_mul]; omega
                    have HQ := Lib.hid hQ
                    have HQE := Lib.hid hqe
                    clear hq hqe hQ hTU
                    go_wp2
                    go_round
                    case rel => exact ⟨U - 1, T + 1, by have := HTU.out; omega, by go_num, by rw [HQE.out, HQ.out, Int.natCast_mul]⟩
                    case measure => simp only [intOf]; omega
                  · obtain rfl : U = 0 := by omega
                    obtain rfl : T = K := by omega
                    clear hTU
                    go_wp2
                    go_roundw
                    case rel => first | exact ⟨j + 1, by omega, by go_num, by rw [T1.out], B6.out⟩ | ((repeat apply Exists.intro); exact ⟨⟨j + 1, by omega, by go_num, by rw [T1.out], B6.out⟩, rfl⟩)
                    case measure => first | (simp only [intOf]; omega) | (simp [intOf]; omega) | (show R.length - ((j : Int) + 1).toNat < R.length - ((j : Nat) : Int).toNat; omega)
              · have hp' : ¬ (P : Int) ≤ 1000 := hp
                go_wp2
                go_loop [8, 14] (fun p k => ∃ (U T : Nat), T + U = K ∧ k = .int .i64 U ∧ p = .int .i64 (D * P ^ T : Nat)) (fun _ k => (intOf k).toNat)
                case atStart => exact ⟨K, 0, by omega, rfl, by rw [Nat.pow_zero, Nat.mul_one]⟩
                case round =>
                  obtain ⟨U, T, hTU, rfl, rfl⟩ := hrel
                  have HTU := Lib.hid hTU
                  have hUK : U ≤ K := by omega
                  by_cases hU : 0 < U
                  · have hq := T2.out (T + 1) (by omega)
                    have hqe : D * P ^ (T + 1) = D * P ^ T * P := by rw [Nat.pow_succ, Nat.mul_assoc]
                    rw [hqe] at hq
                    obtain ⟨Q, hQ⟩ : ∃ Q, D * P ^ T = Q := ⟨_, rfl⟩
                    rw [hQ] at hq ⊢
                    have z1 : 0 ≤ (Q : Int) * (P : Int) := by rw [← Int.natCast_mul]; exact Int.natCast_nonneg _
                    have z2 : (Q : Int) * (P : Int) ≤ 1000000000000 := by rw [← Int.natCast_mul]; omega
                    have HQ := Lib.hid hQ
                    have HQE := Lib.hid hqe
                    clear hq hqe hQ hTU
                    go_wp2
                    go_round
                    case rel => exact ⟨U - 1, T + 1, by have := HTU.out; omega, by go_num, by rw [HQE.out, HQ.out, Int.natCast_mul]⟩
                    case measure => simp only [intOf]; omega
                  · obtain rfl : U = 0 := by omega
                    obtain rfl : T = K := by omega
                    clear hTU
                    go_wp2
                    go_roundw
                    case rel => first | exact ⟨j + 1, by omega, by go_num, by rw [T1.out], B5.out⟩ | ((repeat apply Exists.intro); exact ⟨⟨j + 1, by omega, by go_num, by rw [T1.out], B5.out⟩, rfl⟩)
                    case measure => first | (simp only [intOf]; omega) | (simp [intOf]; omega) | (show R.length - ((j : Int) + 1).toNat < R.length - ((j : Nat) : Int).toNat; omega)
            · obtain rfl : j = R.length := by omega
              have hfin : Num.prodF ((Num.fz 2 N).take R.length) = N := by
                rw [HL.out, List.take_length]; exact Num.fz_prod _ 2 N (Nat.le_refl _) (by omega) hN1
              rw [hfin]
              clear hfin
              go_wp2_with fail
              go_meet
              case rel => exact B4.out.trans (HB.out.mono B4.out.size)
        · rw [HRC.out] at f1
          dsimp only at f1; omega
      · obtain ⟨n1, n2⟩ := ne_facts hC
        go_wp2_with fail
        go_meet
        case rel => exact B4.out
    case rest =>
      have HW := Lib.hid hcut
      clear hcut
      go_wp2_with fail
      refine (DrawBinomialNumber_any _ _ _ _ hn4 (HRB.out.at_ HW.out)).mono ?_
      rintro e w10 ⟨a, b, rfl, hb10⟩
      have B10 := Lib.hid (HW.out.trans (hb10.mono HW.out.size))
      clear hb10
      obtain ⟨X, C5, hXC⟩ : ∃ X C5, binM a b = (X, C5) := ⟨_, _, rfl⟩
      have HBI : Hid (∀ W : World, Calls Try.prog 46 #[.int .i64 a, .int .i64 b] W fun e w' => e = .returned (.tuple #[.int .i64 X, .int .i64 C5]) ∧ W = w') :=
        Lib.hid (fun W => by have := BinomialNumber_any a b W; rw [hXC] at this; exact this)
      have HBS : Hid (∀ W : World, Calls Try.prog 47 #[.int .i64 a, .int .i64 b] W fun e w' => e = .returned (.tuple #[.int .i64 X, .int .i64 C5]) ∧ Below W.heap.size W w') :=
        Lib.hid (fun W => by have := sBinomialNumber_any a b W; rw [hXC] at this; exact this)
      have HXC := Lib.hid hXC
      clear hXC
      go_wp2_with fail
      refine (HBI.out _).mono ?_
      rintro e w11 ⟨rfl, rfl⟩
      go_wp2_with fail
      refine (HBS.out _).mono ?_
      rintro e w12 ⟨rfl, hb12⟩
      have B12 := Lib.hid (B10.out.trans (hb12.mono B10.out.size))
      clear hb12
      go_upto_region 33 with fail
      go_cut [176] from 167 to 175 (fun q wx => q = .bool ((C5 == 0) && (decide (0 < a) && decide (0 < b))) ∧ wx = w12)
      case first =>
        by_cases h5 : C5 = 0
        · subst h5
          by_cases ha : 0 < a
          · by_cases hb : 0 < b
            · go_wp2_with fail
              go_meet
              case rel => exact ⟨by simp [ha, hb], rfl⟩
            · go_wp2_with fail
              go_meet
              case rel => exact ⟨by simp [ha, hb], rfl⟩
          · have hand : ((0 : Int) == 0 && (decide (0 < a) && decide (0 < b))) = false := by simp [ha]
            go_wp2_with fail
            go_meet
            case rel => refine ⟨?_, rfl⟩; first | (rw [hand]; done) | (rw [hand]; rfl) | (simp [ha]; done) | (trace_state; exact congrArg Value.bool (by simp [ha]))
        · obtain ⟨n1, n2⟩ := ne_facts h5
          go_wp2_with fail
          go_meet
          case rel => exact ⟨by simp [n1], rfl⟩
      case rest =>
        obtain ⟨rfl, rfl⟩ := hcut
        go_upto_if 176 with fail
        go_cut [21, 22, 23, 24] from 176 to 204 (fun _ _ _ _ wx => Below w.heap.size w wx)
        case first =>
          by_cases hBB : ((C5 == 0) && (decide (0 < a) && decide (0 < b))) = true
          · simp only [Bool.and_eq_true, decide_eq_true_eq, beq_iff_eq] at hBB
            obtain ⟨rfl, ha, hb⟩ := hBB
            have hBB2 : (((0 : Int) == 0) && (decide (0 < a) && decide (0 < b))) = true := by simp [ha, hb]
            rw [hBB2]
            clear hBB2
            have hin : inB a 0 60 = true ∧ inB b 0 60 = true ∧ X = binI a b := by
              have h1 := HXC.out
              unfold binM at h1
              by_cases q1 : inB a 0 60 = true
              · by_cases q2 : inB b 0 60 = true
                · rw [q1, q2] at h1; simp at h1; exact ⟨q1, q2, h1.symm⟩
                · have q2' : inB b 0 60 = false := by simpa using q2
                  rw [q1, q2'] at h1; simp at h1
              · have q1' : inB a 0 60 = false := by simpa using q1
                rw [q1'] at h1; simp at h1
            obtain ⟨q1, q2, q3⟩ := hin
            obtain ⟨u1, u2⟩ := (inB_iff _ _ _).1 q1
            obtain ⟨u3, u4⟩ := (inB_iff _ _ _).1 q2
            have hpas := bin_pascal ha hb
            rw [← q3] at hpas
            obtain ⟨Y, hY⟩ : ∃ Y, binI (a - 1) b = Y := ⟨_, rfl⟩
            obtain ⟨Z, hZ⟩ : ∃ Z, binI (a - 1) (b - 1) = Z := ⟨_, rfl⟩
            obtain ⟨y1, y2⟩ := binI_bd (n := a - 1) (k := b) (by omega)
            obtain ⟨z1, z2⟩ := binI_bd (n := a - 1) (k := b - 1) (by omega)
            have HY : Hid (binM (a - 1) b = (Y, 0)) := Lib.hid (by rw [binM, inB_yes (by omega) (by omega), inB_yes (by omega) (by omega), hY]; rfl)
            have HZ : Hid (binM (a - 1) (b - 1) = (Z, 0)) := Lib.hid (by rw [binM, inB_yes (by omega) (by omega), inB_yes (by omega) (by omega), hZ]; rfl)
            rw [hY] at y1 y2 hpas
            rw [hZ] at z1 z2 hpas
            have hne : (X != Y + Z) = false := by rw [hpas]; simp
            clear q1 q2 q3 hpas hY hZ
            go_wp2_with fail
            refine (BinomialNumber_any _ _ _).mono ?_
            rintro e w13 ⟨rfl, rfl⟩
            rw [HY.out]
            go_wp2_with fail
            refine (BinomialNumber_any _ _ _).mono ?_
            rintro e w14 ⟨rfl, rfl⟩
            rw [HZ.out]
            go_wp2_with fail
            go_meet
            case rel => exact B12.out
          · have hBB' : ((C5 == 0) && (decide (0 < a) && decide (0 < b))) = false := by simpa using hBB
            clear hBB
            rw [hBB']
            go_wp2_with fail
            go_meet
            case rel => exact B12.out
        case rest =>
          have HV := Lib.hid hcut
          clear hcut HBI HBS HXC
          go_wp2_with fail
          refine (DrawBinomialDivisor_any _ _ _ _ hn4 (HRB.out.at_ HV.out)).mono ?_
          rintro e w20 ⟨d, rfl, hb20⟩
          have B20 := Lib.hid (HV.out.trans (hb20.mono HV.out.size))
          clear hb20
          obtain ⟨G, hG⟩ : ∃ G, (if inB d 2 60 then lz d (d.toNat - 1) else 0) = G := ⟨_, rfl⟩
          obtain ⟨C9, hC9⟩ : ∃ C9 : Int, (if inB d 2 60 then (0 : Int) else 2) = C9 := ⟨_, rfl⟩
          have HDI : Hid (∀ W : World, Calls Try.prog 49 #[.int .i64 d] W fun e w' => e = .returned (.tuple #[.int .i64 G, .int .i64 C9]) ∧ Below W.heap.size W w') :=
            Lib.hid (fun W => by have := BinomialDivisor_any d W; rw [hG, hC9] at this; exact this)
          have HDS : Hid (∀ W : World, Calls Try.prog 50 #[.int .i64 d] W fun e w' => e = .returned (.tuple #[.int .i64 G, .int .i64 C9]) ∧ Below W.heap.size W w') :=
            Lib.hid (fun W => by have := sBinomialDivisor_any d W; rw [hG, hC9] at this; exact this)
          have HG := Lib.hid hG
          have HC9 := Lib.hid hC9
          clear hG hC9
          go_wp2_with fail
          refine (HDI.out _).mono ?_
          rintro e w21 ⟨rfl, hb21⟩
          have B21 := Lib.hid (B20.out.trans (hb21.mono B20.out.size))
          clear hb21
          go_wp2_with fail
          refine (HDS.out _).mono ?_
          rintro e w22 ⟨rfl, hb22⟩
          have B22 := Lib.hid (B21.out.trans (hb22.mono B21.out.size))
          clear hb22
          go_upto_if 226 with fail
          go_cut [30, 31] from 227 to 268 (fun _ _ wx => Below w.heap.size w wx)
          case first =>
            by_cases hd : inB d 2 60 = true
            · obtain ⟨d1, d2⟩ := (inB_iff _ _ _).1 hd
              obtain rfl : C9 = 0 := by have := HC9.out; rw [if_pos hd] at this; exact this.symm
              have hG2 : lz d (d.toNat - 1) = G := by have := HG.out; rw [if_pos hd] at this; exact this
              obtain ⟨Dn, rfl⟩ := Int.eq_ofNat_of_zero_le (show 0 ≤ d by omega)
              rw [Int.toNat_natCast, lz_gz Dn _ (by omega)] at hG2
              obtain ⟨y, t, hf, ht1, ht2⟩ := Num.gz_facts (d := Dn) (by omega) (by omega)
              have HM : Hid (facM (Dn : Int) = (rowF y :: t.map rowF, 0)) := Lib.hid (by
                rw [facM, if_pos (inB_yes (by omega) (by omega)), Int.toNat_natCast, facN, hf]; rfl)
              have hGG : (t = [] → G = ((y.1 : Nat) : Int)) ∧ (t ≠ [] → G = 1) :=
                ⟨fun h => by rw [← hG2, ht1 h], fun h => by rw [← hG2, ht2 h]; rfl⟩
              have HGG := Lib.hid hGG
              have htl : t.length ≤ 1000000 := by
                have := facN_len (N := Dn) (by omega) (by omega)
                unfold facN at this
                rw [hf] at this
                simp at this
                omega
              clear hd hG2 hf ht1 ht2 hGG
              go_wp2_with fail
              refine (PrimeFactors_any _ _).mono ?_
              rintro e w23 ⟨v, rfl, ho, hb23⟩
              rw [HM.out] at ho ⊢
              have B23 := Lib.hid (B22.out.trans (hb23.mono B22.out.size))
              clear hb23
              obtain ⟨g, cc, A1, dd, rfl, g1, k1, -, o1, -⟩ := ho.row 0 (by simp)
              clear ho
              simp only [List.getElem?_cons_zero, Option.getD_some] at k1 o1
              have hrl : (rowF y).length = 2 := rfl
              rw [hrl] at k1 o1
              obtain ⟨g', c3, e3⟩ := o1.openv (by simp [rowF])
              injection e3 with e3 e3b e3c
              subst e3
              clear e3b e3c
              obtain ⟨_, q2, q3, _⟩ := o1.cells
              have k2 := q3 0 (by simp [rowF])
              simp only [rowF, List.getElem?_cons_zero, Option.getD_some] at k2
              clear o1 q3 hrl
              rcases t with _ | ⟨y2, t⟩
              · have hg1 := HGG.out.1 rfl
                subst hg1
                simp only [List.map_nil, List.length_cons, List.length_nil]
                go_wp2_with fail
                go_meet
                case rel => exact B23.out
              · have hg1 := HGG.out.2 (by simp)
                subst hg1
                simp only [List.map_cons, List.length_cons, List.length_map] at htl ⊢
                go_wp2_with fail
                go_meet
                case rel => exact B23.out
            · obtain rfl : C9 = 2 := by have := HC9.out; rw [if_neg hd] at this; exact this.symm
              go_wp2_with fail
              go_meet
              case rel => exact B22.out
          case rest =>
            have HZ := Lib.hid hcut
            clear hcut
            go_wp2_with fail
            refine (DrawValuationOf_any _ _ _ _ hn4 (HRB.out.at_ HZ.out)).mono ?_
            rintro e w30 ⟨p, q, rfl, hb30⟩
            have B30 := Lib.hid (HZ.out.trans (hb30.mono HZ.out.size))
            clear hb30
            obtain ⟨V, C12, hVC⟩ : ∃ V C12, valM p q = (V, C12) := ⟨_, _, rfl⟩
            have HVI : Hid (∀ W : World, Calls Try.prog 44 #[.int .i64 p, .int .i64 q] W fun e w' => e = .returned (.tuple #[.int .i64 V, .int .i64 C12]) ∧ Below W.heap.size W w') :=
              Lib.hid (fun W => by have := ValuationOf_any p q W; rw [hVC] at this; exact this)
            have HVS : Hid (∀ W : World, Calls Try.prog 52 #[.int .i64 p, .int .i64 q] W fun e w' => e = .returned (.tuple #[.int .i64 V, .int .i64 C12]) ∧ W = w') :=
              Lib.hid (fun W => by have := sValuationOf_any p q W; rw [hVC] at this; exact this)
            clear hVC
            go_wp2_with fail
            refine (HVI.out _).mono ?_
            rintro e w31 ⟨rfl, hb31⟩
            have B31 := Lib.hid (B30.out.trans (hb31.mono B30.out.size))
            clear hb31
            go_wp2_with fail
            refine (HVS.out _).mono ?_
            rintro e w32 ⟨rfl, rfl⟩
            go_wp2
            go_ret
            exact ⟨rfl, B31.out⟩
  · go_enter Try.func4, Try.ntmps4
    go_wp2_with (go_at_call 15; refine (big_any _ _ _ _ hmax).mono ?_; rintro e wa ⟨rfl, rfl⟩)
    go_ret
    exact ⟨rfl, Below.refl _ _⟩

end Go.Proofs.Ytkhdbphdeabgnaa
