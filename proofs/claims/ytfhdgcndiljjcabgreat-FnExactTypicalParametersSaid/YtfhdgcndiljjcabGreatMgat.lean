/- Texts of contracts, joined. -/
import Derived.Test.YtfhdgcndiljjcabGreatMgas
import Derived.Test.YtfhdgcndiljjcabGreatMgaa
import Derived.Laws.OwnMore
/- Contract of l09Rest. -/
namespace Go.Proofs.YtfhdgcndiljjcabGreat
open Go.RowKit Go.WideShapes Go.ChangeShapes Go.ChangeAt
theorem pow4b {p : Nat} (h : p ≤ 7) {i : Nat} (hi : i ≤ 4) (h1 : 1 ≤ p) : 1 ≤ p ^ i ∧ p ^ i ≤ 2401 := by
  refine ⟨Nat.pow_pos h1, ?_⟩
  refine Nat.le_trans (Nat.pow_le_pow_left h i) ?_
  exact Nat.le_trans (Nat.pow_le_pow_right (by omega) hi) (by decide)
/-- one number of a table is read and written -/
theorem OwnR.poke3 {w : World} {lo hi n c g : Nat} {m : Int} {d : Nat} {f : Nat → Nat → Int} (h : OwnR w lo hi (.slice (some ⟨g, 0, none⟩) n c) (Pl.tab m d f)) (i j M : Nat) (hij : i + j ≤ d) (hM : M = d - i + 1) :
    ∃ b c', w.cell? ⟨g, i, none⟩ = some (.slice (some ⟨b, 0, none⟩) M c') ∧ w.cell? ⟨b, j, none⟩ = some (.int .i64 (f i j % m)) ∧ w.frozen? ⟨b, j, none⟩ = false ∧ lo ≤ b ∧ b < hi ∧ b ≠ g ∧
      ∀ (f' : Nat → Nat → Int) (y : Int), f' i j % m = y → (∀ p q, p + q ≤ d → ¬ (p = i ∧ q = j) → f' p q % m = f p q % m) → OwnR (w.setCell ⟨b, j, none⟩ (.int .i64 y)) lo hi (.slice (some ⟨g, 0, none⟩) n c) (Pl.tab m d f') := by
  have hr : (Pl.rw' (Pl.tab m d f) i).length = M := by rw [Pl.tab_row m d f i (by omega), Ser.cut_length, hM]
  obtain ⟨b, c', g1, g2, g3, g4, hcel⟩ := h.numB i j M (by rw [Pl.tab_length]; omega) hr (by omega)
  obtain ⟨c4, c5, c6, c7⟩ := hcel w (Below.refl _ _)
  rw [Pl.pc_tab hij] at c5
  refine ⟨b, c', c4, c5, c6, g2, g3, g4, fun f' y hy hne => ?_⟩
  have h8 := c7 y
  rw [Pl.tab_put hij hy hne] at h8
  exact h8
/-- less x^q, and y^q -/
def Pl.sub1 (F : Nat → Nat → Int) (q : Nat) : Nat → Nat → Int := fun i j => F i j - (if i = q ∧ j = 0 then 1 else 0)
def Pl.sub2 (F : Nat → Nat → Int) (q : Nat) : Nat → Nat → Int := fun i j => Pl.sub1 F q i j - (if i = 0 ∧ j = q then 1 else 0)
/-- the sum of the first k terms -/
def Pl.restF (p N : Nat) (A : Nat → Int) (F : Nat → Nat → Int) (k : Nat) : Nat → Nat → Int :=
  fun i j => Ser.psum (fun e => (p : Int) ^ (N - e) * A e * Pl.sub2 (Pl.pwF F (p ^ e)) (p ^ e) i j) k
theorem Pl.sub2_high {m : Int} {n q : Nat} (F : Nat → Nat → Int) (h : n < q) : Pl.tab m n (Pl.sub2 F q) = Pl.tab m n F :=
  Pl.tab_congr (Pl.Eq.of m n (fun i j hij => by
    unfold Pl.sub2 Pl.sub1
    rw [if_neg (by omega), if_neg (by omega)]; omega))
theorem Pl.restF_step (W : Int) (n p N : Nat) (A : Nat → Int) (F : Nat → Nat → Int) (k : Nat) (f : Int) (hf : f % W = ((p : Int) ^ (N - k) * A k) % W) :
    Pl.tab W n (fun i j => Pl.pc (Pl.tab W n (Pl.restF p N A F k)) i j + Pl.pc (Pl.tab W n fun i j => Pl.pc (Pl.tab W n (Pl.sub2 (Pl.pwF F (p ^ k)) (p ^ k))) i j * f) i j) = Pl.tab W n (Pl.restF p N A F (k + 1)) :=
  Pl.tab_congr (fun i j hij => by
    rw [Pl.pc_tab hij, Pl.pc_tab hij, Pl.pc_tab hij]
    show _ = (Pl.restF p N A F k i j + (p : Int) ^ (N - k) * A k * Pl.sub2 (Pl.pwF F (p ^ k)) (p ^ k) i j) % W
    refine Ser.add_cong (Int.emod_emod _ _) ((Int.emod_emod _ _).trans ?_)
    rw [Int.mul_comm _ f]
    exact Ser.mul_cong hf (Int.emod_emod _ _))
theorem Pl.restF_zero (W : Int) (n p N : Nat) (A : Nat → Int) (F : Nat → Nat → Int) : (Pl.tab W n fun _ _ => 0) = Pl.tab W n (Pl.restF p N A F 0) := rfl
theorem sub1_at (F : Nat → Nat → Int) (q : Nat) (W : Int) : Pl.sub1 F q q 0 % W = (F q 0 % W - 1) % W := by
  unfold Pl.sub1
  rw [if_pos ⟨rfl, rfl⟩, Int.emod_sub_emod]
theorem sub2_at (F : Nat → Nat → Int) (q : Nat) (W : Int) : Pl.sub2 F q 0 q % W = (Pl.sub1 F q 0 q % W - 1) % W := by
  unfold Pl.sub2
  rw [if_pos ⟨rfl, rfl⟩, Int.emod_sub_emod]
theorem sub1_ne (F : Nat → Nat → Int) (q i j : Nat) (h : ¬ (i = q ∧ j = 0)) : Pl.sub1 F q i j = F i j := by
  unfold Pl.sub1; rw [if_neg h]; omega
theorem sub2_ne (F : Nat → Nat → Int) (q i j : Nat) (h : ¬ (i = 0 ∧ j = q)) : Pl.sub2 F q i j = Pl.sub1 F q i j := by
  unfold Pl.sub2; rw [if_neg h]; omega
set_option maxHeartbeats 16000000 in
set_option maxRecDepth 100000 in
theorem l09Rest_any (p N : Nat) (W : Int) (n : Nat) (v : Nat → Int) (A : Option Addr) (c : Nat) (A' : Option Addr) (c' : Nat) (t : List (List Int)) (w : World) (hp : p = 2 ∨ p = 3 ∨ p = 5 ∨ p = 7) (hN : N ≤ 3) (hok : Pl.OkG W n t)
    (hr : RI w A (Nmr.numR W p v 4)) (hr' : RP w A' t) :
    Calls Tryz.prog 84 #[.int .i64 p, .int .i64 W, .int .i64 N, .slice A 4 c, .slice A' t.length c'] w fun e w' => ∃ u, e = .returned u ∧ OwnR w' w.heap.size w'.heap.size u (Pl.tab W n (Pl.restF p N (Nmr.num p v) (Pl.pc t) (N + 1))) ∧ Below w.heap.size w w' := by
  have W1 := hok.m1
  have W2 := hok.m2
  have n1 := hok.d1
  have n2 := hok.d2
  have hp7 : p ≤ 7 ∧ 2 ≤ p := by omega
  have HR := Lib.hid hr
  have HR' := Lib.hid hr'
  have HNL := Lib.hid (Nmr.numR_length W p v 4)
  have HNC := Lib.hid (fun k (hk : k < 4) => Nmr.numR_co (m := W) (p := p) (v := v) hk)
  have HZ := Lib.hid (fun W0 => l03Zero_any W n W0 (by omega))
  have HPW := Lib.hid (fun (q : Nat) W0 (h1 : 1 ≤ q) (h2 : q ≤ 1000000) (h : RP W0 A' t) => by
    have := l09Power_any W n A' c' t q W0 hok h1 h2 h
    rw [hok.len] at this
    exact this)
  have HOW := Lib.hid (fun (q : Nat) A1 c1 W0 (h : RP W0 A1 (Pl.tab W n (Pl.pwF (Pl.pc t) q))) => by
    have := l01Own2_any W n A1 c1 (Pl.tab W n (Pl.pwF (Pl.pc t) q)) W0 (hok.tab _) h
    rw [Pl.tab_length, Pl.tab_congr (Pl.pc_tab_eq W n (Pl.pwF (Pl.pc t) q))] at this
    exact this)
  have HPO := Lib.hid (fun (k : Nat) W0 (hk : k ≤ 1000) => l01PowB_any W (p : Int) k W0 (by omega) (by omega) W1 W2 (by omega))
  have HMD := Lib.hid (fun x W0 (h : -1 ≤ x ∧ x ≤ 100000000) => l01ModB_any W x W0 (by omega) W2 (by omega) (by omega))
  have HSC := Lib.hid (fun (k : Nat) (f : Int) A1 c1 W0 (h1 : 0 ≤ f) (h2 : f < W) (h : RP W0 A1 (Pl.tab W n (Pl.sub2 (Pl.pwF (Pl.pc t) (p ^ k)) (p ^ k)))) => by
    have := l03Scale_anyG W n f A1 c1 _ W0 (hok.tab _) h h1 h2
    rw [Pl.tab_length] at this
    exact this)
  have HAD := Lib.hid (fun (k : Nat) (f : Int) A1 c1 A2 c2 W0 (hf : f % W = ((p : Int) ^ (N - k) * Nmr.num p v k) % W) (h : RP W0 A1 (Pl.tab W n (Pl.restF p N (Nmr.num p v) (Pl.pc t) k))) (h' : RP W0 A2 (Pl.tab W n fun i j => Pl.pc (Pl.tab W n (Pl.sub2 (Pl.pwF (Pl.pc t) (p ^ k)) (p ^ k))) i j * f)) => by
    have := l03Add_anyG W n A1 c1 _ A2 c2 _ W0 (hok.tab _) (hok.tab _) h h'
    rw [Pl.tab_length, Pl.tab_length, Pl.restF_step W n p N _ _ k f hf] at this
    exact this)
  have HMO := Lib.hid (fun x : Int => (⟨Int.emod_nonneg x (by omega), Int.emod_lt_of_pos x (by omega)⟩ : 0 ≤ x % W ∧ x % W < W))
  have HMU := Lib.hid (fun x y (h : 0 ≤ x ∧ x < W) (h' : 0 ≤ y ∧ y < W) => mulGr h.1 h.2 h'.1 h'.2 W2)
  have HP4 := Lib.hid (fun k (hk : k ≤ 4) => pow4b (p := p) hp7.1 hk (by omega))
  have HM0 : ¬ W = 0 := by omega
  have hl := hok.len
  rw [hl]
  clear hr hr' hl hok hp
  go_enter Tryz.func84, Tryz.ntmps84
  go_wp2_with fail
  refine (HZ.out _).mono ?_
  rintro e w1 ⟨u, rfl, ho, hb⟩
  obtain ⟨A1, c1, hu, -⟩ := ho.len
  subst hu
  rw [Pl.tab_length] at ho ⊢
  rw [Pl.restF_zero W n p N (Nmr.num p v) (Pl.pc t)] at ho
  have HO := Lib.hid ho
  have HB := Lib.hid hb
  clear ho hb HZ
  go_wp2
  go_loopw [12, 13, 14, 15, 16, 17, 18] (fun s12 s13 s14 _ _ _ _ wr => ∃ (k : Nat) (A2 : Option Addr) (c2 : Nat), k ≤ N + 1 ∧ s14 = .int .i64 k ∧ s13 = .int .i64 (p ^ k : Nat) ∧ s12 = .slice A2 (n + 1) c2 ∧ OwnR wr w.heap.size wr.heap.size (.slice A2 (n + 1) c2) (Pl.tab W n (Pl.restF p N (Nmr.num p v) (Pl.pc t) k)) ∧ Below w.heap.size w wr) (fun _ _ s14 _ _ _ _ _ => N + 2 - (intOf s14).toNat)
  case atStart => exact ⟨0, A1, c1, Nat.zero_le _, rfl, rfl, rfl, HO.out, HB.out⟩
  case round =>
    clear HO HB
    obtain ⟨wo, hwo⟩ : ∃ wo, wo = wr := ⟨_, rfl⟩
    subst hwo
    obtain ⟨k, A2, c2, hk, rfl, rfl, rfl, ho, hb⟩ := hrel
    have HO := Lib.hid ho
    have HB := Lib.hid hb
    clear ho hb
    by_cases hkN : k ≤ N
    · have i1 : (k : Int) ≤ (N : Int) := by omega
      have hpk := HP4.out k (by omega)
      have hpo := HPO.out (N - k) wo (by omega)
      have hnb := HMO.out (Nmr.num p v k)
      have hfb := HMO.out ((p : Int) ^ (N - k))
      have hmul := HMU.out _ _ hfb hnb
      have hfe : ((p : Int) ^ (N - k) % W * (Nmr.num p v k % W) % W) % W = ((p : Int) ^ (N - k) * Nmr.num p v k) % W := (Int.emod_emod _ _).trans (Ser.mul_cong (Int.emod_emod _ _) (Int.emod_emod _ _))
      have hfq := HMO.out ((p : Int) ^ (N - k) % W * (Nmr.num p v k % W))
      have HPQ := Lib.hid (fun W0 h => HPW.out (p ^ k) W0 (by omega) (by omega) h)
      have HOQ := Lib.hid (HOW.out (p ^ k))
      have HSQ := Lib.hid (fun A1 c1 W0 h => HSC.out k _ A1 c1 W0 hfq.1 hfq.2 h)
      have HAQ := Lib.hid (fun A1 c1 A2 c2 W0 h h' => HAD.out k _ A1 c1 A2 c2 W0 hfe h h')
      have HPOQ := Lib.hid (fun W0 => HPO.out (N - k) W0 (by omega))
      obtain ⟨K, hK9⟩ : ∃ K, p ^ k = K := ⟨_, rfl⟩
      rw [hK9] at hpk HPQ HOQ HSQ HAQ
      obtain ⟨G, hG⟩ : ∃ G, Pl.pwF (Pl.pc t) K = G := ⟨_, rfl⟩
      rw [hG] at HPQ HOQ HSQ HAQ
      rw [hK9]
      have HK9 := Lib.hid hK9
      have hkp : 0 ≤ (K : Int) * (p : Int) ∧ (K : Int) * (p : Int) ≤ 20000 := by
        refine ⟨Int.mul_nonneg (by omega) (by omega), ?_⟩
        have := Int.mul_le_mul (show (K : Int) ≤ 2401 by omega) (show (p : Int) ≤ 7 by omega) (by omega) (by omega)
        omega
      have HKP := Lib.hid (show (K : Int) * (p : Int) = ((p ^ (k + 1) : Nat) : Int) by rw [Nat.pow_succ, HK9.out, Int.natCast_mul])
      clear hK9 hG hpo hfe
      go_wp2_with fail
      refine (HPQ.out _ (HR'.out.below HB.out)).mono ?_
      rintro e w1 ⟨A3, c3, rfl, hr3, hb3⟩
      go_wp2_with fail
      refine (HOQ.out _ _ _ hr3).mono ?_
      rintro e w2 ⟨u, rfl, ho4, hb4⟩
      obtain ⟨A4, c4, hu, -⟩ := ho4.len
      subst hu
      rw [Pl.tab_length] at ho4 ⊢
      obtain ⟨g4, c4', e4⟩ := ho4.openv (by rw [Pl.tab_length]; omega)
      rw [Pl.tab_length] at e4
      injection e4 with e4a e4b e4c
      subst e4a e4c
      have HB2 := Lib.hid (below_step hb3 hb4)
      have HO4 := Lib.hid ho4
      have hz1 : wo.heap.size ≤ w1.heap.size := hb3.size
      clear hb3 hb4 hr3 ho4 HPQ HOQ
      by_cases hKn : K ≤ n
      · have i2 : (K : Int) ≤ (n : Int) := by omega
        obtain ⟨M, hM⟩ : ∃ M, n - K + 1 = M := ⟨_, rfl⟩
        obtain ⟨b1, q1, p1, p2, p3, p4, p5, pg, p6⟩ := HO4.out.poke3 K 0 M (by omega) hM.symm
        obtain ⟨b2, q2, r1, -, -, -, -, -, -⟩ := HO4.out.poke3 0 K (n + 1) (by omega) (by omega)
        have hx1 := HMO.out (G K 0)
        obtain ⟨X1, hX1⟩ : ∃ X1, G K 0 % W = X1 := ⟨_, rfl⟩
        rw [hX1] at p2 hx1
        have HM1 := Lib.hid (fun W0 => HMD.out (X1 - 1) W0 (by omega))
        have hs1 := p6 (Pl.sub1 G K) ((X1 - 1) % W) (by rw [sub1_at, hX1]) (fun i j _ h => by rw [sub1_ne _ _ _ _ h])
        have hx2 := HMO.out (Pl.sub1 G K 0 K)
        obtain ⟨X2, hX2⟩ : ∃ X2, Pl.sub1 G K 0 K % W = X2 := ⟨_, rfl⟩
        rw [hX2] at hx2
        have HM2 := Lib.hid (fun W0 => HMD.out (X2 - 1) W0 (by omega))
        have hM1 : M ≤ 11 := by omega
        have hM0 : 0 < M := by omega
        have i3 : (0 : Int) < (M : Int) := by omega
        have i4 : (K : Int) < (n : Int) + 1 := by omega
        have i5 : (0 : Int) ≤ (K : Int) := by omega
        have HS1 := Lib.hid hs1
        have P2 := Lib.hid p2
        have R1 := Lib.hid r1
        clear hs1 p6
        go_upto_region 8 with fail
        go_quiet (fail)
        obtain ⟨Z, hZ⟩ : ∃ Z, w2.drewN nq = Z := ⟨_, rfl⟩
        have hbz : Below w2.heap.size w2 Z := by rw [← hZ]; exact below_drewN (Below.refl _ _) _
        have p2z : Z.cell? ⟨b1, 0, none⟩ = some (.int .i64 X1) := by rw [← hZ]; exact P2.out
        have p3z : Z.frozen? ⟨b1, 0, none⟩ = false := by rw [← hZ]; exact p3
        have s1z : OwnR (Z.setCell ⟨b1, 0, none⟩ (.int .i64 ((X1 - 1) % W))) w1.heap.size w2.heap.size (.slice (some ⟨g4, 0, none⟩) (n + 1) c4) (Pl.tab W n (Pl.sub1 G K)) := by
          rw [← hZ]
          show OwnR ((w2.setCell ⟨b1, 0, none⟩ (.int .i64 ((X1 - 1) % W))).drewN nq) _ _ _ _
          exact HS1.out.keep (below_drewN (Below.refl _ _) _)
        have r1z : (Z.setCell ⟨b1, 0, none⟩ (.int .i64 ((X1 - 1) % W))).cell? ⟨g4, 0, none⟩ = some (.slice (some ⟨b2, 0, none⟩) (n + 1) q2) :=
          (World.cell?_of_block (Below.heap_setCell Z ⟨b1, 0, none⟩ _ g4 (fun e => pg e.symm))).trans (by rw [← hZ]; exact R1.out)
        obtain ⟨b3, q3, t1, t2, t3, t4, t5, -, t6⟩ := s1z.poke3 0 K (n + 1) (by omega) (by omega)
        rw [r1z] at t1
        injection t1 with t1
        injection t1 with t1a t1b t1c
        injection t1a with t1a
        injection t1a with t1a
        subst t1a t1c
        rw [hX2] at t2
        have hs2 := t6 (Pl.sub2 G K) ((X2 - 1) % W) (by rw [sub2_at, hX2]) (fun i j _ h => by rw [sub2_ne _ _ _ _ h])
        obtain ⟨Y1, hY1⟩ : ∃ Y1, Z.setCell ⟨b1, 0, none⟩ (.int .i64 ((X1 - 1) % W)) = Y1 := ⟨_, rfl⟩
        rw [hY1] at t2 t3 hs2
        have hy1 : Below wo.heap.size wo Y1 := by rw [← hY1]; exact (below_step HB2.out hbz).setCell (p := ⟨b1, 0, none⟩) (Nat.le_trans hz1 p4) _
        obtain ⟨Y2, hY2⟩ : ∃ Y2, Y1.setCell ⟨b2, K, none⟩ (.int .i64 ((X2 - 1) % W)) = Y2 := ⟨_, rfl⟩
        rw [hY2] at hs2
        have BX := Lib.hid (show Below wo.heap.size wo Y2 by rw [← hY2]; exact hy1.setCell (p := ⟨b2, K, none⟩) (Nat.le_trans hz1 t4) _)
        have OX := Lib.hid hs2
        have HY1 := Lib.hid hY1
        have HY2 := Lib.hid hY2
        rw [hZ]
        clear hZ hbz s1z r1z t6 hs2 hY1 hY2 hy1 HS1 P2 R1 p1 p2 p3 r1 HO4 t1b
        go_wp2_with fail
        refine (HM1.out _).mono ?_
        rintro e w' ⟨rfl, rfl⟩
        go_upto_region 10 with fail
        rw [HY1.out]
        clear HY1 p2z p3z
        go_wp2_with fail
        refine (HM2.out _).mono ?_
        rintro e w' ⟨rfl, rfl⟩
        go_upto_region 11 with fail
        rw [HY2.out]
        clear HY2 t2 t3 HM1 HM2
        -- the factor, the multiple, the sum
        obtain ⟨b5, o5, e5, hb5, hc5⟩ := (HR.out.below (below_step HB.out BX.out)).at k (by rw [HNL.out]; omega)
        rw [HNC.out k (by omega)] at hc5
        obtain ⟨P, hP⟩ : ∃ P, (p : Int) ^ (N - k) % W = P := ⟨_, rfl⟩
        obtain ⟨Q, hQ⟩ : ∃ Q, Nmr.num p v k % W = Q := ⟨_, rfl⟩
        rw [hP, hQ] at hmul HSQ HAQ
        rw [hP] at HPOQ
        rw [hQ] at hc5
        have hNk : (N : Int) - (k : Int) = ((N - k : Nat) : Int) := by omega
        have HPX := Lib.hid (fun W0 (x : Int) (hx : x = ((N - k : Nat) : Int)) => by have := HPOQ.out W0; rw [← hx] at this; exact this)
        have HNK := Lib.hid hNk
        have j1 : (k : Int) < 4 := by omega
        have j2 : (0 : Int) ≤ (k : Int) := by omega
        have HTQ := Lib.hid (show (P * Q).tmod W = P * Q % W from Int.tmod_eq_emod_of_nonneg hmul.1)
        subst e5
        clear hP hQ HPOQ hNk hfb hnb hfq HNC HNL HMU HMO HP4 HMD HSC HAD HPO HPW HOW
        go_wp2_with fail
        with_reducible refine Calls.mono (HPX.out _ _ (by rw [← HNK.out])) ?_
        rintro e w9 ⟨rfl, rfl⟩
        go_wp2_with fail
        refine (HSQ.out _ _ _ OX.out.rp).mono ?_
        rintro e w5 ⟨u, rfl, ho5, hb5'⟩
        obtain ⟨A5, c5, hu, -⟩ := ho5.len
        subst hu
        rw [Pl.tab_length] at ho5 ⊢
        have BX5 := Lib.hid (below_step BX.out hb5')
        go_wp2_with fail
        refine (HAQ.out _ _ _ _ _ (HO.out.keep BX5.out).rp ho5.rp).mono ?_
        rintro e w6 ⟨u, rfl, ho6, hb6⟩
        obtain ⟨A6, c6, hu, -⟩ := ho6.len
        subst hu
        rw [Pl.tab_length] at ho6 ⊢
        have BX6 := Lib.hid (below_step BX5.out hb6)
        have hz6 : w.heap.size ≤ w5.heap.size := by have := HB.out.size; have := BX5.out.size; omega
        have NO := Lib.hid (ho6.low hz6)
        have NB := Lib.hid (below_step HB.out BX6.out)
        clear ho6 hb6 ho5 hb5' hc5 HPX HNK HTQ HSQ HAQ
        go_wp2
        go_roundw
        case rel => exact ⟨k + 1, A6, c6, by omega, by go_num, by rw [HKP.out], rfl, NO.out, NB.out⟩
        case measure => simp only [intOf]; omega
      · have i2 : ¬ (K : Int) ≤ (n : Int) := by omega
        have ho4 := HO4.out
        rw [← Pl.sub2_high G (show n < K by omega)] at ho4
        have OX := Lib.hid ho4
        have BX := HB2
        clear ho4 HO4
        -- the factor, the multiple, the sum
        obtain ⟨b5, o5, e5, hb5, hc5⟩ := (HR.out.below (below_step HB.out BX.out)).at k (by rw [HNL.out]; omega)
        rw [HNC.out k (by omega)] at hc5
        obtain ⟨P, hP⟩ : ∃ P, (p : Int) ^ (N - k) % W = P := ⟨_, rfl⟩
        obtain ⟨Q, hQ⟩ : ∃ Q, Nmr.num p v k % W = Q := ⟨_, rfl⟩
        rw [hP, hQ] at hmul HSQ HAQ
        rw [hP] at HPOQ
        rw [hQ] at hc5
        have hNk : (N : Int) - (k : Int) = ((N - k : Nat) : Int) := by omega
        have HPX := Lib.hid (fun W0 (x : Int) (hx : x = ((N - k : Nat) : Int)) => by have := HPOQ.out W0; rw [← hx] at this; exact this)
        have HNK := Lib.hid hNk
        have j1 : (k : Int) < 4 := by omega
        have j2 : (0 : Int) ≤ (k : Int) := by omega
        have HTQ := Lib.hid (show (P * Q).tmod W = P * Q % W from Int.tmod_eq_emod_of_nonneg hmul.1)
        subst e5
        clear hP hQ HPOQ hNk hfb hnb hfq HNC HNL HMU HMO HP4 HMD HSC HAD HPO HPW HOW
        go_wp2_with fail
        with_reducible refine Calls.mono (HPX.out _ _ (by rw [← HNK.out])) ?_
        rintro e w9 ⟨rfl, rfl⟩
        go_wp2_with fail
        refine (HSQ.out _ _ _ OX.out.rp).mono ?_
        rintro e w5 ⟨u, rfl, ho5, hb5'⟩
        obtain ⟨A5, c5, hu, -⟩ := ho5.len
        subst hu
        rw [Pl.tab_length] at ho5 ⊢
        have BX5 := Lib.hid (below_step BX.out hb5')
        go_wp2_with fail
        refine (HAQ.out _ _ _ _ _ (HO.out.keep BX5.out).rp ho5.rp).mono ?_
        rintro e w6 ⟨u, rfl, ho6, hb6⟩
        obtain ⟨A6, c6, hu, -⟩ := ho6.len
        subst hu
        rw [Pl.tab_length] at ho6 ⊢
        have BX6 := Lib.hid (below_step BX5.out hb6)
        have hz6 : w.heap.size ≤ w5.heap.size := by have := HB.out.size; have := BX5.out.size; omega
        have NO := Lib.hid (ho6.low hz6)
        have NB := Lib.hid (below_step HB.out BX6.out)
        clear ho6 hb6 ho5 hb5' hc5 HPX HNK HTQ HSQ HAQ
        go_wp2
        go_roundw
        case rel => exact ⟨k + 1, A6, c6, by omega, by go_num, by rw [HKP.out], rfl, NO.out, NB.out⟩
        case measure => simp only [intOf]; omega
    · obtain rfl : k = N + 1 := by omega
      have i1 : ¬ (((N + 1 : Nat) : Int) ≤ (N : Int)) := by omega
      go_wp2
      go_ret
      exact ⟨_, rfl, HO.out, HB.out⟩
end Go.Proofs.YtfhdgcndiljjcabGreat

/- Contract of l01Own for every list, also empty ones; l09Three. -/
namespace Go.Proofs.YtfhdgcndiljjcabGreat
open Go.RowKit Go.WideShapes Go.ChangeShapes Go.ChangeAt
theorem run_append_zero {P : Program} {w : World} (base : Nat) (t ty e : TypeId) (i : TypeInfo) (size c : Nat) (ht : P.underlying t = some (.slice e)) (hi : P.info? e = some i)
    (v : Value) (n : Nat) (xs : List Value) (hown : w.ownsRow base e size v n xs) :
    (Builtin.append_ #[t, t] ty #[v, .slice none 0 c]).run P w = .ok v w := by
  rcases hown.2 with ⟨rfl, rfl⟩ | ⟨g, cap, cur, rfl, _, _, hnc, _⟩
  · simp [Builtin.append_, run_underlying ht, sizeOf, typeInfo, hi, Builtin.lenOf, Builtin.firstCells]
  · simp [Builtin.append_, run_underlying ht, sizeOf, typeInfo, hi, Builtin.lenOf, Builtin.firstCells, hnc, storeCells]
theorem wpList_append_zero {P : Program} {w : World} {ops : Array Oper} {rest : List Oper} {o : Oper} {a : Act} {Q : Exit → Act → World → Prop} (hgd : o.guard = none) (s x : Operand) (t : TypeId)
    (ho : o.op = .call { callee := .builtin .append, args := #[s, x], argTypes := #[t, t] })
    (base : Nat) (e : TypeId) (i : TypeInfo) (size c : Nat) (ht : P.underlying t = some (.slice e)) (hi : P.info? e = some i)
    (v : Value) (n : Nat) (xs : List Value) (hs : a.eval s = v) (hown : w.ownsRow base e size v n xs) (hx : a.eval x = .slice none 0 c)
    (h : wpList P ops Q rest (a.put o.dst v) w) : wpList P ops Q (o :: rest) a w := by
  refine wpList_plain hgd fun K hK => ?_
  have hrun := run_append_zero (P := P) (w := w) base t o.type e i size c ht hi v n xs hown
  unfold Oper.wp
  simp [execOp, ho, resolve, invoke, builtin, hs, hx, hrun, Result.andThen]
  exact hK _ _ h
set_option maxHeartbeats 2000000 in
theorem l01Own_all (A : Option Addr) (c : Nat) (l : List Int) (w : World) (hl : l.length ≤ 1000) (hr : RI w A l) :
    Calls Tryz.prog 51 #[.slice A l.length c] w fun e w' => ∃ v, e = .returned v ∧ OwnI w' w.heap.size v l ∧ Below w.heap.size w w' := by
  by_cases hne : l = []
  · subst hne
    obtain ⟨i0, hi, hz0, hz1, hz2⟩ := info_parts info64
    have HO := Lib.hid (OwnI.empty' w)
    have HF : OwnI (w.alloc (.cells #[] 2)) w.heap.size (.slice (some ⟨w.heap.size, 0, none⟩) 0 0) [] := OwnI.empty w
    have HF2 := Lib.hid HF
    clear HF
    cases A with
    | none =>
      show Calls Tryz.prog 51 #[.slice none 0 c] w _
      go_enter Tryz.func51, Tryz.ntmps51
      go_wp2_with (at_builtin; refine wpList_append_zero (by rfl) _ _ _ (by rfl) w.heap.size 2 i0 1 c Tryz.underlying26 hi _ 0 [] (by rfl) HO.out (by rfl) ?_)
      go_ret
      exact ⟨_, rfl, HF2.out, below_one _ _⟩
    | some ad =>
      show Calls Tryz.prog 51 #[.slice (some ad) 0 c] w _
      go_enter Tryz.func51, Tryz.ntmps51
      go_wp2_with (at_builtin; refine wpList_append_own _ (by rfl) _ _ _ (by rfl) w.heap.size 2 i0 (.int .i64 0) 1 8 Tryz.underlying26 hi hz0 hz1 hz2 rfl (by decide) _ 0 [] (by rfl) HO.out _ 0 c [] (by rfl) rfl (by intro j u hj; simp at hj) (by intro u hu; simp at hu) (by unfold maxLen; omega) (by omega) (by simp) ?_; intro v' w2 h2 h3 _)
      have HG : Hid (OwnI w2 w.heap.size v' []) := Lib.hid h2
      have HB := Lib.hid ((below_one w (.cells #[] 2)).grown h3 (by simp) (fun k hk => by simp [Value.ownBlock] at hk; omega))
      clear h2 h3
      go_wp2
      go_ret
      exact ⟨_, rfl, HG.out, HB.out⟩
  · exact l01Own_any A c l w hne hl hr
theorem ndL_self (l : List Int) : ndL l.length l = l := by
  apply List.ext_getElem?
  intro i
  unfold ndL
  rw [List.getElem?_map]
  by_cases h1 : i < l.length
  · rw [List.getElem?_range h1, List.getElem?_eq_getElem h1]
    show some (Ser.co l i) = some l[i]
    unfold Ser.co
    rw [List.getElem?_eq_getElem h1]; rfl
  · rw [List.getElem?_eq_none (by simp; omega), List.getElem?_eq_none (by omega)]; rfl
theorem ndL_push (n : Nat) (l : List Int) (h : l.length ≤ n) : ndL n l ++ [0] = ndL (n + 1) l := by
  unfold ndL
  rw [List.range_succ, List.map_append, List.map_cons, List.map_nil, Ser.co_over h]
set_option maxHeartbeats 2000000 in
theorem l09Three_any (A : Option Addr) (c : Nat) (l : List Int) (w : World) (hl : l.length ≤ 3) (hr : RI w A l) :
    Calls Tryz.prog 82 #[.slice A l.length c] w fun e w' => ∃ v, e = .returned v ∧ OwnI w' w.heap.size v (ndL 3 l) ∧ Below w.heap.size w w' := by
  have HO := Lib.hid (l01Own_all A c l w (by omega) hr)
  have HS := Lib.hid (ndL_self l)
  have HP := Lib.hid (fun n => ndL_push n l)
  clear hr
  go_enter Tryz.func82, Tryz.ntmps82
  go_wp2_with fail
  refine HO.out.mono ?_
  rintro e w1 ⟨v, rfl, ho, hb⟩
  obtain ⟨A1, c1, hv, -⟩ := ho.form
  subst hv
  rw [← HS.out, ndL_length] at ho
  have HO1 := Lib.hid ho
  have HB1 := Lib.hid hb
  clear ho hb HO HS
  obtain ⟨L, hL⟩ : ∃ L, l.length = L := ⟨_, rfl⟩
  rw [hL] at HO1 HP hl
  have hz : w.heap.size ≤ w1.heap.size := HB1.out.size
  rw [hL]
  clear hL
  go_wp2
  go_loopw [3] (fun s3 wr => ∃ (k : Nat) (A2 : Option Addr) (c2 : Nat), L ≤ k ∧ k ≤ 3 ∧ s3 = .slice A2 k c2 ∧ OwnI wr w.heap.size (.slice A2 k c2) (ndL k l) ∧ Below w.heap.size w wr) (fun s3 _ => 4 - (match s3 with | .slice _ n _ => n | _ => 0))
  case atStart => exact ⟨L, A1, c1, Nat.le_refl _, hl, rfl, HO1.out, HB1.out⟩
  case round =>
    clear HO1 HB1 hz
    obtain ⟨k, A2, c2, hk1, hk2, rfl, ho, hb⟩ := hrel
    have HO2 := Lib.hid ho
    have HB2 := Lib.hid hb
    have hsz : w.heap.size ≤ wr.heap.size := hb.size
    clear ho hb
    by_cases hlt : k < 3
    · have i1 : (k : Int) < 3 := by omega
      have hll := ndL_length k l
      have HST := Lib.hid (HP.out k hk1)
      have hl2 := ndL_length (k + 1) l
      obtain ⟨L2, hL2⟩ : ∃ L2, ndL k l = L2 := ⟨_, rfl⟩
      rw [hL2] at HO2 hll HST
      have HLL := Lib.hid hll
      have HL2 := Lib.hid hl2
      clear hL2 hll hl2
      go_wp2_with (at_builtin; refine wp_push _ _ _ (by rfl) (by rfl) Tryz.underlying26 w.heap.size _ _ (by rfl) HO2.out 0 (by rfl) (by rw [HLL.out]; omega) hsz ?_; intro v' w4 ho4 hb4)
      rw [HST.out] at ho4
      obtain ⟨A3, c3, hv3, -⟩ := ho4.form
      subst hv3
      rw [HL2.out] at ho4 ⊢
      have hB4 := HB2.out.trans hb4
      go_wp2
      go_roundw
      case rel => exact ⟨k + 1, A3, c3, by omega, by omega, rfl, ho4, hB4⟩
      case measure => simp only []; omega
    · obtain rfl : k = 3 := by omega
      go_wp2
      go_ret
      exact ⟨_, rfl, HO2.out, HB2.out⟩
end Go.Proofs.YtfhdgcndiljjcabGreat

