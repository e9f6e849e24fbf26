/- Texts of contracts, joined. -/
import Derived.Test.YtfhdgcndiljjcabMgad
import Derived.Test.YtfhdgcndiljjcabMgab
import Derived.Test.YtfhdgcndiljjcabMgaa
import Derived.BigQuiet
import Derived.Deep.QuietTactic
import Derived.Test.YtfhdgcndiljjcabMgae
/- Contract of the model's numerators. -/
namespace Go.Proofs.Ytfhdgcndiljjcab
open Go.RowKit Go.WideShapes Go.ChangeShapes Go.ChangeAt

theorem pow_bd7' {p : Nat} (h : p ≤ 7) {i : Nat} (hi : i ≤ 3) (h1 : 1 ≤ p) : 1 ≤ p ^ i ∧ p ^ i ≤ 343 := by
  refine ⟨Nat.pow_pos h1, ?_⟩
  refine Nat.le_trans (Nat.pow_le_pow_left h i) ?_
  exact Nat.le_trans (Nat.pow_le_pow_right (by omega) hi) (by decide)
/-- the model's sum so far -/
def nsum (p : Nat) (v : Nat → Int) (k i : Nat) : Int := Ser.psum (fun j => (p : Int) ^ (k - j) * (Nmr.num p v j * v (k - j) ^ (p ^ j))) i
theorem nsum_end (p : Nat) (v : Nat → Int) (k : Nat) : nsum p v k (k + 1) = Nmr.num p v (k + 1) := by
  rw [Nmr.num_succ, Nmr.hs_psum]; rfl
theorem nsum_step (m : Int) (p : Nat) (v : Nat → Int) (k i : Nat) :
    (nsum p v k i % m + ((p : Int) ^ (k - i) % m * (Nmr.num p v i % m) % m) * (v (k - i) ^ (p ^ i) % m)) % m = nsum p v k (i + 1) % m := by
  unfold nsum
  rw [Ser.psum]
  refine Ser.add_cong (Int.emod_emod _ _) ?_
  rw [← Int.mul_assoc]
  exact Ser.mul_cong ((Int.emod_emod _ _).trans (Ser.mul_cong (Int.emod_emod _ _) (Int.emod_emod _ _))) (Int.emod_emod _ _)
set_option maxHeartbeats 4000000 in
set_option maxRecDepth 100000 in
theorem l09Numerators_any (p : Nat) (m : Int) (A : Option Addr) (c : Nat) (l : List Int) (w : World) (h1 : 2 ≤ m) (h2 : m ≤ 100000000) (p1 : 1 ≤ p) (p7 : p ≤ 7) (hn : l.length ≤ 3) (hx : ∀ i, 0 ≤ Ser.co l i ∧ Ser.co l i ≤ 100000000) (hr : RI w A l) :
    Calls Try.prog 31 #[.int .i64 p, .int .i64 m, .slice A l.length c] w fun e w' => ∃ v, e = .returned v ∧ OwnI w' w.heap.size v (Nmr.numR m p (Ser.co l) (l.length + 1)) ∧ Below w.heap.size w w' := by
  have HR := Lib.hid hr
  have HX := Lib.hid hx
  obtain ⟨n, hN⟩ : ∃ n, l.length = n := ⟨_, rfl⟩
  have HN := Lib.hid hN
  have HPW := Lib.hid (fun x k W0 (h : 0 ≤ x ∧ x ≤ 100000000) (hk : k ≤ 1000000) => l01PowB_any m x k W0 h.1 h.2 h1 h2 (by omega))
  have HMO := Lib.hid (fun x : Int => (⟨Int.emod_nonneg x (by omega), Int.emod_lt_of_pos x (by omega)⟩ : 0 ≤ x % m ∧ x % m < m))
  have HMU := Lib.hid (fun x y (h : 0 ≤ x ∧ x < m) (h' : 0 ≤ y ∧ y < m) => mulGr h.1 h.2 h'.1 h'.2 h2)
  have HP := Lib.hid (fun i (hi : i ≤ 3) => pow_bd7' (p := p) p7 hi p1)
  have HST := Lib.hid (fun k i => nsum_step m p (Ser.co l) k i)
  rw [hN] at hn ⊢
  have u1 : OwnI (w.alloc (.cells #[.int .i64 (1 % m)] 2)) w.heap.size (.slice (some ⟨w.heap.size, 0, none⟩) 1 1) (Nmr.numR m p (Ser.co l) 1) := OwnI.one _ _
  obtain ⟨W, hW⟩ : ∃ W, w.alloc (.cells #[.int .i64 (1 % m)] 2) = W := ⟨_, rfl⟩
  rw [hW] at u1
  have U1 := Lib.hid u1
  have HWB := Lib.hid (show Below w.heap.size w W by rw [← hW]; exact below_one _ _)
  have HW := Lib.hid hW
  have HM0 : ¬ m = 0 := by omega
  clear hr hx hN hW u1
  go_enter Try.func31, Try.ntmps31
  go_upto_region 2 with fail
  rw [HW.out]
  go_wp2
  go_loopw [7, 8, 9, 10, 11, 12] (fun s7 s8 _ _ _ _ wr => ∃ (k : Nat) (A1 : Option Addr) (c1 : Nat), k ≤ n ∧ s8 = .int .i64 ((k : Int) + 1) ∧ s7 = .slice A1 (k + 1) c1 ∧ OwnI wr w.heap.size (.slice A1 (k + 1) c1) (Nmr.numR m p (Ser.co l) (k + 1)) ∧ Below w.heap.size w wr) (fun _ s8 _ _ _ _ _ => n + 2 - (intOf s8).toNat)
  case atStart => exact ⟨0, _, _, Nat.zero_le _, rfl, rfl, U1.out, HWB.out⟩
  case round =>
    clear U1 HWB HW
    obtain ⟨wo, hwo⟩ : ∃ wo, wo = wr := ⟨_, rfl⟩
    subst hwo
    obtain ⟨k, A1, c1, hk, rfl, rfl, ho, hb⟩ := hrel
    have HO := Lib.hid ho
    have HB := Lib.hid hb
    clear ho hb
    by_cases hlt : k < n
    · have i1 : (k : Int) + 1 ≤ (n : Int) := by omega
      go_wp2
      go_loopw [9, 10, 11, 12] (fun s9 s10 s11 _ wx => Below wo.heap.size wo wx ∧ ∃ i : Nat, i ≤ k + 1 ∧ s11 = .int .i64 i ∧ s10 = .int .i64 (p ^ i : Nat) ∧ s9 = .int .i64 (nsum p (Ser.co l) k i % m)) (fun _ _ s11 _ _ => k + 2 - (intOf s11).toNat)
      case atStart => exact ⟨Below.refl _ _, 0, Nat.zero_le _, rfl, rfl, rfl⟩
      case round =>
        obtain ⟨hbx, i, hi, rfl, rfl, rfl⟩ := hrel
        have HBX := Lib.hid hbx
        by_cases hil : i < k + 1
        · have i2 : (i : Int) < (k : Int) + 1 := by omega
          obtain ⟨r, hsub⟩ : ∃ r : Nat, (k : Int) - (i : Int) = (r : Int) := ⟨k - i, by omega⟩
          have hsn : k - i = r := by omega
          have hl1 := Nmr.numR_length m p (Ser.co l) (k + 1)
          obtain ⟨g1, o1, rfl, hg1, hc1⟩ := (HO.out.ri.below hbx).at i (by rw [hl1]; exact hil)
          rw [Nmr.numR_co hil] at hc1
          obtain ⟨g2, o2, rfl, hg2, hc2⟩ := ((HR.out.below HB.out).below hbx).at r (by rw [HN.out]; omega)
          have hst := HST.out k i
          rw [hsn] at hst
          have hxr := HX.out r
          have hpi := HP.out i (by omega)
          have hS := HMO.out (nsum p (Ser.co l) k i)
          have hN1 := HMO.out (Nmr.num p (Ser.co l) i)
          have hQ := HMO.out ((p : Int) ^ r)
          obtain ⟨S, hS9⟩ : ∃ S, nsum p (Ser.co l) k i % m = S := ⟨_, rfl⟩
          obtain ⟨S2, hS2⟩ : ∃ S2, nsum p (Ser.co l) k (i + 1) % m = S2 := ⟨_, rfl⟩
          obtain ⟨V, hV⟩ : ∃ V, Ser.co l r = V := ⟨_, rfl⟩
          obtain ⟨K, hK9⟩ : ∃ K, p ^ i = K := ⟨_, rfl⟩
          obtain ⟨N, hNN⟩ : ∃ N, Nmr.num p (Ser.co l) i % m = N := ⟨_, rfl⟩
          obtain ⟨Q, hQQ⟩ : ∃ Q, (p : Int) ^ r % m = Q := ⟨_, rfl⟩
          rw [hK9, hV] at hst
          obtain ⟨T, hTT⟩ : ∃ T, V ^ K % m = T := ⟨_, rfl⟩
          have hT := HMO.out (V ^ K)
          rw [hTT] at hT hst
          rw [hS9] at hS hst
          rw [hS2] at hst
          rw [hNN] at hN1 hst hc1
          rw [hQQ] at hQ hst
          rw [hV] at hc2 hxr
          rw [hK9] at hpi
          rw [hK9, hS9]
          have hO := HMO.out (Q * N)
          have b1 := HMU.out Q N hQ hN1
          have hQN : (Q * N) % m = Q * N % m := rfl
          obtain ⟨O, hOO⟩ : ∃ O, Q * N % m = O := ⟨_, rfl⟩
          rw [hOO] at hO hst
          have b2 := HMU.out O T hO hT
          have HP1 := Lib.hid (fun W0 (x : Int) (hx : x = (r : Int)) => by have := HPW.out (p : Int) r W0 (by omega) (by omega); rw [hQQ, ← hx] at this; exact this)
          have HP2 := Lib.hid (fun W0 => by have := HPW.out V K W0 hxr (by omega); rw [hTT] at this; exact this)
          have HS2 := Lib.hid hS2
          have HK9 := Lib.hid hK9
          have HST2 := Lib.hid hst
          have HOO := Lib.hid hOO
          have hkp : 0 ≤ (K : Int) * (p : Int) ∧ (K : Int) * (p : Int) ≤ 2401 := by
            refine ⟨Int.mul_nonneg (by omega) (by omega), ?_⟩
            have := Int.mul_le_mul (show (K : Int) ≤ 343 by omega) (show (p : Int) ≤ 7 by omega) (by omega) (by omega)
            omega
          have HKP := Lib.hid (show (K : Int) * (p : Int) = ((p ^ (i + 1) : Nat) : Int) by rw [Nat.pow_succ, HK9.out, Int.natCast_mul])
          have HTM := Lib.hid (show (IntKind.i64.wrap (Q * N)).tmod m = O by rw [show IntKind.i64.wrap (Q * N) = Q * N by rw [IntKind.wrap_i64]; omega, Int.tmod_eq_emod_of_nonneg b1.1]; exact HOO.out)
          have HWK := Lib.hid (show IntKind.i64.wrap (k : Int) = k by rw [IntKind.wrap_i64]; omega)
          have HWR := Lib.hid (show IntKind.i64.wrap ((k : Int) - (i : Int)) = r by rw [IntKind.wrap_i64]; omega)
          have i3 : (0 : Int) ≤ (r : Int) := by omega
          have i4 : (r : Int) < (n : Int) := by omega
          clear hst hS9 hS2 hV hK9 hNN hQQ hTT hOO hl1 HPW HMO HMU HP HST HX HR hxr hQN
          go_wp2_with fail
          go_quiet ((go_at_call 48; exact Calls.quiet_of_same ((HP1.out _ _ (by rw [HWK.out, HWR.out])).mono fun _ _ h => ⟨h.1, h.2.symm⟩)))
          obtain ⟨Z, hZ⟩ : ∃ Z, wr.drewN nq = Z := ⟨_, rfl⟩
          have hbz : Below wr.heap.size wr Z := by rw [← hZ]; exact below_drewN (Below.refl _ _) _
          have hc2' := (hbz.cell (p := ⟨g2, o2 + r, none⟩) hg2).trans hc2
          have hc3 : Z.cell? ⟨g2, o2 + (k + 1 - i - 1), none⟩ = some (.int .i64 V) := by rw [show k + 1 - i - 1 = r by omega]; exact hc2'
          have HBZ := Lib.hid (below_step HBX.out hbz)
          rw [HTM.out, hZ]
          clear hZ hc1 hc2 hc2' hbz hbx HTM HWK HWR
          go_wp2_with (go_at_call 48; with_reducible refine Calls.mono (HP2.out _) ?_; rintro e w' ⟨rfl, rfl⟩)
          rw [HST2.out]
          go_roundw
          case rel => exact ⟨HBZ.out, i + 1, by omega, by go_num, by rw [HKP.out], by rw [HS2.out]⟩
          case measure => simp only [intOf]; omega
        · obtain rfl : i = k + 1 := by omega
          have i2 : ¬ (((k + 1 : Nat) : Int) < (k : Int) + 1) := by omega
          have hst := (Nmr.numR_succ m p (Ser.co l) (k + 1)).symm
          have hlen := Nmr.numR_length m p (Ser.co l) (k + 1)
          have hlen2 := Nmr.numR_length m p (Ser.co l) (k + 1 + 1)
          rw [nsum_end]
          have ho := HO.out.keep hbx
          obtain ⟨L1, hL1⟩ : ∃ L1, Nmr.numR m p (Ser.co l) (k + 1) = L1 := ⟨_, rfl⟩
          obtain ⟨L2, hL2⟩ : ∃ L2, Nmr.numR m p (Ser.co l) (k + 1 + 1) = L2 := ⟨_, rfl⟩
          obtain ⟨E, hE⟩ : ∃ E, Nmr.num p (Ser.co l) (k + 1) % m = E := ⟨_, rfl⟩
          rw [hL1, hE] at hst
          rw [hL2] at hst hlen2
          rw [hL1] at hlen ho
          rw [hE]
          have HL2 := Lib.hid hL2
          have HST2 := Lib.hid hst
          have HLEN := Lib.hid hlen
          have HLEN2 := Lib.hid hlen2
          have HO2 := Lib.hid ho
          have HB2 := Lib.hid (below_step HB.out hbx)
          have hsz : w.heap.size ≤ wr.heap.size := HB2.out.size
          clear hL1 hL2 hE hst hlen hlen2 ho hbx HX HR HPW HMO HMU HP HST
          go_wp2_with (at_builtin; refine wp_push _ _ _ (by rfl) (by rfl) Try.underlying22 w.heap.size _ _ (by rfl) HO2.out E (by rfl) (by rw [HLEN.out]; omega) hsz ?_; intro v' wz hoz hbz)
          rw [HST2.out] at hoz
          obtain ⟨A5, c5, hv5, -⟩ := hoz.form
          subst hv5
          rw [HLEN2.out] at hoz ⊢
          have hbz2 := HB2.out.trans hbz
          go_wp2
          go_roundw
          case rel => exact ⟨k + 1, A5, c5, by omega, by go_num, rfl, by rw [HL2.out]; exact hoz, hbz2⟩
          case measure => simp only [intOf]; omega
    · obtain rfl : k = n := by omega
      have i1 : ¬ ((k : Int) + 1 ≤ (k : Int)) := by omega
      go_wp2
      go_ret
      exact ⟨_, rfl, HO.out, HB.out⟩

end Go.Proofs.Ytfhdgcndiljjcab

/- Contract of l09Rest. -/
namespace Go.Proofs.Ytfhdgcndiljjcab
open Go.RowKit Go.WideShapes Go.ChangeShapes Go.ChangeAt

theorem pow4b {p : Nat} (h : p ≤ 7) {i : Nat} (hi : i ≤ 4) (h1 : 1 ≤ p) : 1 ≤ p ^ i ∧ p ^ i ≤ 2401 := by
  refine ⟨Nat.pow_pos h1, ?_⟩
  refine Nat.le_trans (Nat.pow_le_pow_left h i) ?_
  exact Nat.le_trans (Nat.pow_le_pow_right (by omega) hi) (by decide)
/-- one number of a table is read and written -/
theorem OwnR.poke3 {w : World} {lo hi n c g : Nat} {m : Int} {d : Nat} {f : Nat → Nat → Int} (h : OwnR w lo hi (.slice (some ⟨g, 0, none⟩) n c) (Pl.tab m d f)) (i j M : Nat) (hij : i + j ≤ d) (hM : M = d - i + 1) :
    ∃ b c', w.cell? ⟨g, i, none⟩ = some (.slice (some ⟨b, 0, none⟩) M c') ∧ w.cell? ⟨b, j, none⟩ = some (.int .i64 (f i j % m)) ∧ w.frozen? ⟨b, j, none⟩ = false ∧ lo ≤ b ∧ b < hi ∧ b ≠ g ∧
      ∀ (f' : Nat → Nat → Int) (y : Int), f' i j % m = y → (∀ p q, p + q ≤ d → ¬ (p = i ∧ q = j) → f' p q % m = f p q % m) → OwnR (w.setCell ⟨b, j, none⟩ (.int .i64 y)) lo hi (.slice (some ⟨g, 0, none⟩) n c) (Pl.tab m d f') := by
  have hr : (Pl.rw' (Pl.tab m d f) i).length = M := by rw [Pl.tab_row m d f i (by omega), Ser.cut_length, hM]
  obtain ⟨b, c', g1, g2, g3, g4, hcel⟩ := h.numB i j M (by rw [Pl.tab_length]; omega) hr (by omega)
  obtain ⟨c4, c5, c6, c7⟩ := hcel w (Below.refl _ _)
  rw [Pl.pc_tab hij] at c5
  refine ⟨b, c', c4, c5, c6, g2, g3, g4, fun f' y hy hne => ?_⟩
  have h8 := c7 y
  rw [Pl.tab_put hij hy hne] at h8
  exact h8
/-- less x^q, and y^q -/
def Pl.sub1 (F : Nat → Nat → Int) (q : Nat) : Nat → Nat → Int := fun i j => F i j - (if i = q ∧ j = 0 then 1 else 0)
def Pl.sub2 (F : Nat → Nat → Int) (q : Nat) : Nat → Nat → Int := fun i j => Pl.sub1 F q i j - (if i = 0 ∧ j = q then 1 else 0)
/-- the sum of the first k terms -/
def Pl.restF (p N : Nat) (A : Nat → Int) (F : Nat → Nat → Int) (k : Nat) : Nat → Nat → Int :=
  fun i j => Ser.psum (fun e => (p : Int) ^ (N - e) * A e * Pl.sub2 (Pl.pwF F (p ^ e)) (p ^ e) i j) k
theorem Pl.sub2_high {m : Int} {n q : Nat} (F : Nat → Nat → Int) (h : n < q) : Pl.tab m n (Pl.sub2 F q) = Pl.tab m n F :=
  Pl.tab_congr (Pl.Eq.of m n (fun i j hij => by
    unfold Pl.sub2 Pl.sub1
    rw [if_neg (by omega), if_neg (by omega)]; omega))
theorem Pl.restF_step (W : Int) (n p N : Nat) (A : Nat → Int) (F : Nat → Nat → Int) (k : Nat) (f : Int) (hf : f % W = ((p : Int) ^ (N - k) * A k) % W) :
    Pl.tab W n (fun i j => Pl.pc (Pl.tab W n (Pl.restF p N A F k)) i j + Pl.pc (Pl.tab W n fun i j => Pl.pc (Pl.tab W n (Pl.sub2 (Pl.pwF F (p ^ k)) (p ^ k))) i j * f) i j) = Pl.tab W n (Pl.restF p N A F (k + 1)) :=
  Pl.tab_congr (fun i j hij => by
    rw [Pl.pc_tab hij, Pl.pc_tab hij, Pl.pc_tab hij]
    show _ = (Pl.restF p N A F k i j + (p : Int) ^ (N - k) * A k * Pl.sub2 (Pl.pwF F (p ^ k)) (p ^ k) i j) % W
    refine Ser.add_cong (Int.emod_emod _ _) ((Int.emod_emod _ _).trans ?_)
    rw [Int.mul_comm _ f]
    exact Ser.mul_cong hf (Int.emod_emod _ _))
theorem Pl.restF_zero (W : Int) (n p N : Nat) (A : Nat → Int) (F : Nat → Nat → Int) : (Pl.tab W n fun _ _ => 0) = Pl.tab W n (Pl.restF p N A F 0) := rfl
theorem sub1_at (F : Nat → Nat → Int) (q : Nat) (W : Int) : Pl.sub1 F q q 0 % W = (F q 0 % W - 1) % W := by
  unfold Pl.sub1
  rw [if_pos ⟨rfl, rfl⟩, Int.emod_sub_emod]
theorem sub2_at (F : Nat → Nat → Int) (q : Nat) (W : Int) : Pl.sub2 F q 0 q % W = (Pl.sub1 F q 0 q % W - 1) % W := by
  unfold Pl.sub2
  rw [if_pos ⟨rfl, rfl⟩, Int.emod_sub_emod]
theorem sub1_ne (F : Nat → Nat → Int) (q i j : Nat) (h : ¬ (i = q ∧ j = 0)) : Pl.sub1 F q i j = F i j := by
  unfold Pl.sub1; rw [if_neg h]; omega
theorem sub2_ne (F : Nat → Nat → Int) (q i j : Nat) (h : ¬ (i = 0 ∧ j = q)) : Pl.sub2 F q i j = Pl.sub1 F q i j := by
  unfold Pl.sub2; rw [if_neg h]; omega

set_option maxHeartbeats 16000000 in
set_option maxRecDepth 100000 in
theorem l09Rest_any (p N : Nat) (W : Int) (n : Nat) (v : Nat → Int) (A : Option Addr) (c : Nat) (A' : Option Addr) (c' : Nat) (t : List (List Int)) (w : World) (hp : p = 2 ∨ p = 3 ∨ p = 5 ∨ p = 7) (hN : N ≤ 3) (hok : Pl.OkG W n t)
    (hr : RI w A (Nmr.numR W p v 4)) (hr' : RP w A' t) :
    Calls Try.prog 34 #[.int .i64 p, .int .i64 W, .int .i64 N, .slice A 4 c, .slice A' t.length c'] w fun e w' => ∃ u, e = .returned u ∧ OwnR w' w.heap.size w'.heap.size u (Pl.tab W n (Pl.restF p N (Nmr.num p v) (Pl.pc t) (N + 1))) ∧ Below w.heap.size w w' := by
  have W1 := hok.m1
  have W2 := hok.m2
  have n1 := hok.d1
  have n2 := hok.d2
  have hp7 : p ≤ 7 ∧ 2 ≤ p := by omega
  have HR := Lib.hid hr
  have HR' := Lib.hid hr'
  have HNL := Lib.hid (Nmr.numR_length W p v 4)
  have HNC := Lib.hid (fun k (hk : k < 4) => Nmr.numR_co (m := W) (p := p) (v := v) hk)
  have HZ := Lib.hid (fun W0 => l03Zero_any W n W0 (by omega))
  have HPW := Lib.hid (fun (q : Nat) W0 (h1 : 1 ≤ q) (h2 : q ≤ 1000000) (h : RP W0 A' t) => by
    have := l09Power_any W n A' c' t q W0 hok h1 h2 h
    rw [hok.len] at this
    exact this)
  have HOW := Lib.hid (fun (q : Nat) A1 c1 W0 (h : RP W0 A1 (Pl.tab W n (Pl.pwF (Pl.pc t) q))) => by
    have := l01Own2_any W n A1 c1 (Pl.tab W n (Pl.pwF (Pl.pc t) q)) W0 (hok.tab _) h
    rw [Pl.tab_length, Pl.tab_congr (Pl.pc_tab_eq W n (Pl.pwF (Pl.pc t) q))] at this
    exact this)
  have HPO := Lib.hid (fun (k : Nat) W0 (hk : k ≤ 1000) => l01PowB_any W (p : Int) k W0 (by omega) (by omega) W1 W2 (by omega))
  have HMD := Lib.hid (fun x W0 (h : -1 ≤ x ∧ x ≤ 100000000) => l01ModB_any W x W0 (by omega) W2 (by omega) (by omega))
  have HSC := Lib.hid (fun (k : Nat) (f : Int) A1 c1 W0 (h1 : 0 ≤ f) (h2 : f < W) (h : RP W0 A1 (Pl.tab W n (Pl.sub2 (Pl.pwF (Pl.pc t) (p ^ k)) (p ^ k)))) => by
    have := l03Scale_anyG W n f A1 c1 _ W0 (hok.tab _) h h1 h2
    rw [Pl.tab_length] at this
    exact this)
  have HAD := Lib.hid (fun (k : Nat) (f : Int) A1 c1 A2 c2 W0 (hf : f % W = ((p : Int) ^ (N - k) * Nmr.num p v k) % W) (h : RP W0 A1 (Pl.tab W n (Pl.restF p N (Nmr.num p v) (Pl.pc t) k))) (h' : RP W0 A2 (Pl.tab W n fun i j => Pl.pc (Pl.tab W n (Pl.sub2 (Pl.pwF (Pl.pc t) (p ^ k)) (p ^ k))) i j * f)) => by
    have := l03Add_anyG W n A1 c1 _ A2 c2 _ W0 (hok.tab _) (hok.tab _) h h'
    rw [Pl.tab_length, Pl.tab_length, Pl.restF_step W n p N _ _ k f hf] at this
    exact this)
  have HMO := Lib.hid (fun x : Int => (⟨Int.emod_nonneg x (by omega), Int.emod_lt_of_pos x (by omega)⟩ : 0 ≤ x % W ∧ x % W < W))
  have HMU := Lib.hid (fun x y (h : 0 ≤ x ∧ x < W) (h' : 0 ≤ y ∧ y < W) => mulGr h.1 h.2 h'.1 h'.2 W2)
  have HP4 := Lib.hid (fun k (hk : k ≤ 4) => pow4b (p := p) hp7.1 hk (by omega))
  have HM0 : ¬ W = 0 := by omega
  have hl := hok.len
  rw [hl]
  clear hr hr' hl hok hp
  go_enter Try.func34, Try.ntmps34
  go_wp2_with fail
  refine (HZ.out _).mono ?_
  rintro e w1 ⟨u, rfl, ho, hb⟩
  obtain ⟨A1, c1, hu, -⟩ := ho.len
  subst hu
  rw [Pl.tab_length] at ho ⊢
  rw [Pl.restF_zero W n p N (Nmr.num p v) (Pl.pc t)] at ho
  have HO := Lib.hid ho
  have HB := Lib.hid hb
  clear ho hb HZ
  go_wp2
  go_loopw [12, 13, 14, 15, 16, 17, 18] (fun s12 s13 s14 _ _ _ _ wr => ∃ (k : Nat) (A2 : Option Addr) (c2 : Nat), k ≤ N + 1 ∧ s14 = .int .i64 k ∧ s13 = .int .i64 (p ^ k : Nat) ∧ s12 = .slice A2 (n + 1) c2 ∧ OwnR wr w.heap.size wr.heap.size (.slice A2 (n + 1) c2) (Pl.tab W n (Pl.restF p N (Nmr.num p v) (Pl.pc t) k)) ∧ Below w.heap.size w wr) (fun _ _ s14 _ _ _ _ _ => N + 2 - (intOf s14).toNat)
  case atStart => exact ⟨0, A1, c1, Nat.zero_le _, rfl, rfl, rfl, HO.out, HB.out⟩
  case round =>
    clear HO HB
    obtain ⟨wo, hwo⟩ : ∃ wo, wo = wr := ⟨_, rfl⟩
    subst hwo
    obtain ⟨k, A2, c2, hk, rfl, rfl, rfl, ho, hb⟩ := hrel
    have HO := Lib.hid ho
    have HB := Lib.hid hb
    clear ho hb
    by_cases hkN : k ≤ N
    · have i1 : (k : Int) ≤ (N : Int) := by omega
      have hpk := HP4.out k (by omega)
      have hpo := HPO.out (N - k) wo (by omega)
      have hnb := HMO.out (Nmr.num p v k)
      have hfb := HMO.out ((p : Int) ^ (N - k))
      have hmul := HMU.out _ _ hfb hnb
      have hfe : ((p : Int) ^ (N - k) % W * (Nmr.num p v k % W) % W) % W = ((p : Int) ^ (N - k) * Nmr.num p v k) % W := (Int.emod_emod _ _).trans (Ser.mul_cong (Int.emod_emod _ _) (Int.emod_emod _ _))
      have hfq := HMO.out ((p : Int) ^ (N - k) % W * (Nmr.num p v k % W))
      have HPQ := Lib.hid (fun W0 h => HPW.out (p ^ k) W0 (by omega) (by omega) h)
      have HOQ := Lib.hid (HOW.out (p ^ k))
      have HSQ := Lib.hid (fun A1 c1 W0 h => HSC.out k _ A1 c1 W0 hfq.1 hfq.2 h)
      have HAQ := Lib.hid (fun A1 c1 A2 c2 W0 h h' => HAD.out k _ A1 c1 A2 c2 W0 hfe h h')
      have HPOQ := Lib.hid (fun W0 => HPO.out (N - k) W0 (by omega))
      obtain ⟨K, hK9⟩ : ∃ K, p ^ k = K := ⟨_, rfl⟩
      rw [hK9] at hpk HPQ HOQ HSQ HAQ
      obtain ⟨G, hG⟩ : ∃ G, Pl.pwF (Pl.pc t) K = G := ⟨_, rfl⟩
      rw [hG] at HPQ HOQ HSQ HAQ
      rw [hK9]
      have HK9 := Lib.hid hK9
      have hkp : 0 ≤ (K : Int) * (p : Int) ∧ (K : Int) * (p : Int) ≤ 20000 := by
        refine ⟨Int.mul_nonneg (by omega) (by omega), ?_⟩
        have := Int.mul_le_mul (show (K : Int) ≤ 2401 by omega) (show (p : Int) ≤ 7 by omega) (by omega) (by omega)
        omega
      have HKP := Lib.hid (show (K : Int) * (p : Int) = ((p ^ (k + 1) : Nat) : Int) by rw [Nat.pow_succ, HK9.out, Int.natCast_mul])
      clear hK9 hG hpo hfe
      go_wp2_with fail
      refine (HPQ.out _ (HR'.out.below HB.out)).mono ?_
      rintro e w1 ⟨A3, c3, rfl, hr3, hb3⟩
      go_wp2_with fail
      refine (HOQ.out _ _ _ hr3).mono ?_
      rintro e w2 ⟨u, rfl, ho4, hb4⟩
      obtain ⟨A4, c4, hu, -⟩ := ho4.len
      subst hu
      rw [Pl.tab_length] at ho4 ⊢
      obtain ⟨g4, c4', e4⟩ := ho4.openv (by rw [Pl.tab_length]; omega)
      rw [Pl.tab_length] at e4
      injection e4 with e4a e4b e4c
      subst e4a e4c
      have HB2 := Lib.hid (below_step hb3 hb4)
      have HO4 := Lib.hid ho4
      have hz1 : wo.heap.size ≤ w1.heap.size := hb3.size
      clear hb3 hb4 hr3 ho4 HPQ HOQ
      by_cases hKn : K ≤ n
      · have i2 : (K : Int) ≤ (n : Int) := by omega
        obtain ⟨M, hM⟩ : ∃ M, n - K + 1 = M := ⟨_, rfl⟩
        obtain ⟨b1, q1, p1, p2, p3, p4, p5, pg, p6⟩ := HO4.out.poke3 K 0 M (by omega) hM.symm
        obtain ⟨b2, q2, r1, -, -, -, -, -, -⟩ := HO4.out.poke3 0 K (n + 1) (by omega) (by omega)
        have hx1 := HMO.out (G K 0)
        obtain ⟨X1, hX1⟩ : ∃ X1, G K 0 % W = X1 := ⟨_, rfl⟩
        rw [hX1] at p2 hx1
        have HM1 := Lib.hid (fun W0 => HMD.out (X1 - 1) W0 (by omega))
        have hs1 := p6 (Pl.sub1 G K) ((X1 - 1) % W) (by rw [sub1_at, hX1]) (fun i j _ h => by rw [sub1_ne _ _ _ _ h])
        have hx2 := HMO.out (Pl.sub1 G K 0 K)
        obtain ⟨X2, hX2⟩ : ∃ X2, Pl.sub1 G K 0 K % W = X2 := ⟨_, rfl⟩
        rw [hX2] at hx2
        have HM2 := Lib.hid (fun W0 => HMD.out (X2 - 1) W0 (by omega))
        have hM1 : M ≤ 11 := by omega
        have hM0 : 0 < M := by omega
        have i3 : (0 : Int) < (M : Int) := by omega
        have i4 : (K : Int) < (n : Int) + 1 := by omega
        have i5 : (0 : Int) ≤ (K : Int) := by omega
        have HS1 := Lib.hid hs1
        have P2 := Lib.hid p2
        have R1 := Lib.hid r1
        clear hs1 p6
        go_upto_region 8 with fail
        go_quiet (fail)
        obtain ⟨Z, hZ⟩ : ∃ Z, w2.drewN nq = Z := ⟨_, rfl⟩
        have hbz : Below w2.heap.size w2 Z := by rw [← hZ]; exact below_drewN (Below.refl _ _) _
        have p2z : Z.cell? ⟨b1, 0, none⟩ = some (.int .i64 X1) := by rw [← hZ]; exact P2.out
        have p3z : Z.frozen? ⟨b1, 0, none⟩ = false := by rw [← hZ]; exact p3
        have s1z : OwnR (Z.setCell ⟨b1, 0, none⟩ (.int .i64 ((X1 - 1) % W))) w1.heap.size w2.heap.size (.slice (some ⟨g4, 0, none⟩) (n + 1) c4) (Pl.tab W n (Pl.sub1 G K)) := by
          rw [← hZ]
          show OwnR ((w2.setCell ⟨b1, 0, none⟩ (.int .i64 ((X1 - 1) % W))).drewN nq) _ _ _ _
          exact HS1.out.keep (below_drewN (Below.refl _ _) _)
        have r1z : (Z.setCell ⟨b1, 0, none⟩ (.int .i64 ((X1 - 1) % W))).cell? ⟨g4, 0, none⟩ = some (.slice (some ⟨b2, 0, none⟩) (n + 1) q2) :=
          (World.cell?_of_block (Below.heap_setCell Z ⟨b1, 0, none⟩ _ g4 (fun e => pg e.symm))).trans (by rw [← hZ]; exact R1.out)
        obtain ⟨b3, q3, t1, t2, t3, t4, t5, -, t6⟩ := s1z.poke3 0 K (n + 1) (by omega) (by omega)
        rw [r1z] at t1
        injection t1 with t1
        injection t1 with t1a t1b t1c
        injection t1a with t1a
        injection t1a with t1a
        subst t1a t1c
        rw [hX2] at t2
        have hs2 := t6 (Pl.sub2 G K) ((X2 - 1) % W) (by rw [sub2_at, hX2]) (fun i j _ h => by rw [sub2_ne _ _ _ _ h])
        obtain ⟨Y1, hY1⟩ : ∃ Y1, Z.setCell ⟨b1, 0, none⟩ (.int .i64 ((X1 - 1) % W)) = Y1 := ⟨_, rfl⟩
        rw [hY1] at t2 t3 hs2
        have hy1 : Below wo.heap.size wo Y1 := by rw [← hY1]; exact (below_step HB2.out hbz).setCell (p := ⟨b1, 0, none⟩) (Nat.le_trans hz1 p4) _
        obtain ⟨Y2, hY2⟩ : ∃ Y2, Y1.setCell ⟨b2, K, none⟩ (.int .i64 ((X2 - 1) % W)) = Y2 := ⟨_, rfl⟩
        rw [hY2] at hs2
        have BX := Lib.hid (show Below wo.heap.size wo Y2 by rw [← hY2]; exact hy1.setCell (p := ⟨b2, K, none⟩) (Nat.le_trans hz1 t4) _)
        have OX := Lib.hid hs2
        have HY1 := Lib.hid hY1
        have HY2 := Lib.hid hY2
        rw [hZ]
        clear hZ hbz s1z r1z t6 hs2 hY1 hY2 hy1 HS1 P2 R1 p1 p2 p3 r1 HO4 t1b
        go_wp2_with fail
        refine (HM1.out _).mono ?_
        rintro e w' ⟨rfl, rfl⟩
        go_upto_region 10 with fail
        rw [HY1.out]
        clear HY1 p2z p3z
        go_wp2_with fail
        refine (HM2.out _).mono ?_
        rintro e w' ⟨rfl, rfl⟩
        go_upto_region 11 with fail
        rw [HY2.out]
        clear HY2 t2 t3 HM1 HM2
        -- the factor, the multiple, the sum
        obtain ⟨b5, o5, e5, hb5, hc5⟩ := (HR.out.below (below_step HB.out BX.out)).at k (by rw [HNL.out]; omega)
        rw [HNC.out k (by omega)] at hc5
        obtain ⟨P, hP⟩ : ∃ P, (p : Int) ^ (N - k) % W = P := ⟨_, rfl⟩
        obtain ⟨Q, hQ⟩ : ∃ Q, Nmr.num p v k % W = Q := ⟨_, rfl⟩
        rw [hP, hQ] at hmul HSQ HAQ
        rw [hP] at HPOQ
        rw [hQ] at hc5
        have hNk : (N : Int) - (k : Int) = ((N - k : Nat) : Int) := by omega
        have HPX := Lib.hid (fun W0 (x : Int) (hx : x = ((N - k : Nat) : Int)) => by have := HPOQ.out W0; rw [← hx] at this; exact this)
        have HNK := Lib.hid hNk
        have j1 : (k : Int) < 4 := by omega
        have j2 : (0 : Int) ≤ (k : Int) := by omega
        have HTQ := Lib.hid (show (P * Q).tmod W = P * Q % W from Int.tmod_eq_emod_of_nonneg hmul.1)
        subst e5
        clear hP hQ HPOQ hNk hfb hnb hfq HNC HNL HMU HMO HP4 HMD HSC HAD HPO HPW HOW
        go_wp2_with fail
        with_reducible refine Calls.mono (HPX.out _ _ (by rw [← HNK.out])) ?_
        rintro e w9 ⟨rfl, rfl⟩
        go_wp2_with fail
        refine (HSQ.out _ _ _ OX.out.rp).mono ?_
        rintro e w5 ⟨u, rfl, ho5, hb5'⟩
        obtain ⟨A5, c5, hu, -⟩ := ho5.len
        subst hu
        rw [Pl.tab_length] at ho5 ⊢
        have BX5 := Lib.hid (below_step BX.out hb5')
        go_wp2_with fail
        refine (HAQ.out _ _ _ _ _ (HO.out.keep BX5.out).rp ho5.rp).mono ?_
        rintro e w6 ⟨u, rfl, ho6, hb6⟩
        obtain ⟨A6, c6, hu, -⟩ := ho6.len
        subst hu
        rw [Pl.tab_length] at ho6 ⊢
        have BX6 := Lib.hid (below_step BX5.out hb6)
        have hz6 : w.heap.size ≤ w5.heap.size := by have := HB.out.size; have := BX5.out.size; omega
        have NO := Lib.hid (ho6.low hz6)
        have NB := Lib.hid (below_step HB.out BX6.out)
        clear ho6 hb6 ho5 hb5' hc5 HPX HNK HTQ HSQ HAQ
        go_wp2
        go_roundw
        case rel => exact ⟨k + 1, A6, c6, by omega, by go_num, by rw [HKP.out], rfl, NO.out, NB.out⟩
        case measure => simp only [intOf]; omega
      · have i2 : ¬ (K : Int) ≤ (n : Int) := by omega
        have ho4 := HO4.out
        rw [← Pl.sub2_high G (show n < K by omega)] at ho4
        have OX := Lib.hid ho4
        have BX := HB2
        clear ho4 HO4
        -- the factor, the multiple, the sum
        obtain ⟨b5, o5, e5, hb5, hc5⟩ := (HR.out.below (below_step HB.out BX.out)).at k (by rw [HNL.out]; omega)
        rw [HNC.out k (by omega)] at hc5
        obtain ⟨P, hP⟩ : ∃ P, (p : Int) ^ (N - k) % W = P := ⟨_, rfl⟩
        obtain ⟨Q, hQ⟩ : ∃ Q, Nmr.num p v k % W = Q := ⟨_, rfl⟩
        rw [hP, hQ] at hmul HSQ HAQ
        rw [hP] at HPOQ
        rw [hQ] at hc5
        have hNk : (N : Int) - (k : Int) = ((N - k : Nat) : Int) := by omega
        have HPX := Lib.hid (fun W0 (x : Int) (hx : x = ((N - k : Nat) : Int)) => by have := HPOQ.out W0; rw [← hx] at this; exact this)
        have HNK := Lib.hid hNk
        have j1 : (k : Int) < 4 := by omega
        have j2 : (0 : Int) ≤ (k : Int) := by omega
        have HTQ := Lib.hid (show (P * Q).tmod W = P * Q % W from Int.tmod_eq_emod_of_nonneg hmul.1)
        subst e5
        clear hP hQ HPOQ hNk hfb hnb hfq HNC HNL HMU HMO HP4 HMD HSC HAD HPO HPW HOW
        go_wp2_with fail
        with_reducible refine Calls.mono (HPX.out _ _ (by rw [← HNK.out])) ?_
        rintro e w9 ⟨rfl, rfl⟩
        go_wp2_with fail
        refine (HSQ.out _ _ _ OX.out.rp).mono ?_
        rintro e w5 ⟨u, rfl, ho5, hb5'⟩
        obtain ⟨A5, c5, hu, -⟩ := ho5.len
        subst hu
        rw [Pl.tab_length] at ho5 ⊢
        have BX5 := Lib.hid (below_step BX.out hb5')
        go_wp2_with fail
        refine (HAQ.out _ _ _ _ _ (HO.out.keep BX5.out).rp ho5.rp).mono ?_
        rintro e w6 ⟨u, rfl, ho6, hb6⟩
        obtain ⟨A6, c6, hu, -⟩ := ho6.len
        subst hu
        rw [Pl.tab_length] at ho6 ⊢
        have BX6 := Lib.hid (below_step BX5.out hb6)
        have hz6 : w.heap.size ≤ w5.heap.size := by have := HB.out.size; have := BX5.out.size; omega
        have NO := Lib.hid (ho6.low hz6)
        have NB := Lib.hid (below_step HB.out BX6.out)
        clear ho6 hb6 ho5 hb5' hc5 HPX HNK HTQ HSQ HAQ
        go_wp2
        go_roundw
        case rel => exact ⟨k + 1, A6, c6, by omega, by go_num, by rw [HKP.out], rfl, NO.out, NB.out⟩
        case measure => simp only [intOf]; omega
    · obtain rfl : k = N + 1 := by omega
      have i1 : ¬ (((N + 1 : Nat) : Int) ≤ (N : Int)) := by omega
      go_wp2
      go_ret
      exact ⟨_, rfl, HO.out, HB.out⟩

end Go.Proofs.Ytfhdgcndiljjcab

