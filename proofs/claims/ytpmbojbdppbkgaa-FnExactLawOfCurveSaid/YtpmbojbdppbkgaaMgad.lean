/- Texts of contracts, joined. -/
import Derived.Test.YtpmbojbdppbkgaaMgac
import Derived.Test.YtpmbojbdppbkgaaMgab
import Derived.WalkSpells
import Derived.StillTailTactics
/- Contracts of the program's look for faults of brackets, and of all faults. -/
namespace Go.Proofs.Ytpmbojbdppbkgaa
open Go.RowKit Go.WideShapes Go.ChangeShapes Go.ChangeAt

theorem br_bd {m : Int} {d : Nat} {t : List (List Int)} (hs : Pl.Ok m d t) (c a b : Nat) : ∀ k, 0 ≤ Ser.psum (fun i => Pl.pc t i c * Pl.pc (Pl.pwT m d (Pl.pc t) i) a b) k ∧ Ser.psum (fun i => Pl.pc t i c * Pl.pc (Pl.pwT m d (Pl.pc t) i) a b) k ≤ k * 100000000 := by
  intro k
  induction k with
  | zero => exact ⟨Int.le_refl _, Int.le_refl _⟩
  | succ k ih =>
    rw [Ser.psum]
    have h1 := hs.pc k c
    have h2 := (pwT_ok hs.m1 hs.m2 hs.d1 hs.d2 (Pl.pc t) k).pc a b
    have hm := hs.m2
    have h3 := mul_bd (x := Pl.pc t k c) (y := Pl.pc (Pl.pwT m d (Pl.pc t) k) a b) h1.1 (by omega) (by omega) (by omega)
    have h4 : 0 ≤ Pl.pc t k c * Pl.pc (Pl.pwT m d (Pl.pc t) k) a b := Int.mul_nonneg h1.1 h2.1
    omega
set_option maxHeartbeats 8000000 in
set_option maxRecDepth 100000 in
theorem bracketedAt_any (m : Int) (d : Nat) (A : Option Addr) (c : Nat) (t : List (List Int)) (v : Value) (lo : Nat) (a b z : Nat) (w : World) (hs : Pl.Ok m d t) (hr : RP w A t) (hp : OwnT [.int .i64 m, .int .i64 d] 66 w lo v (pwTs m d (Pl.pc t) (d + 1))) (hab : a + b ≤ d) (hz : z ≤ d) :
    Calls Try.prog 189 #[.agg #[.int .i64 m, .int .i64 d, .slice A t.length c], v, .int .i64 a, .int .i64 b, .int .i64 z] w fun e w' => e = .returned (.int .i64 (Pl.br m d (Pl.pc t) a b z)) ∧ Below w.heap.size w w' := by
  obtain ⟨b0, off, rfl⟩ := hr.some (by rw [hs.len]; omega)
  have HG1 := Lib.hid (GBox.new 66 w m d (some ⟨b0, off, none⟩) t.length c)
  have HWB := Lib.hid (below_one w (.cells #[.int .i64 m, .int .i64 d, .slice (some ⟨b0, off, none⟩) t.length c] 66))
  have HS := Lib.hid hs
  have hd2 := hs.d2
  have m1 := hs.m1
  have m2 := hs.m2
  have HLR := Lib.hid (fun W => lenRow_any m d z W (by have := hs.d2; omega) hz)
  have HBD := Lib.hid (br_bd hs z a b)
  obtain ⟨f, hf⟩ : ∃ f, (fun i => Pl.pc t i z * Pl.pc (Pl.pwT m d (Pl.pc t) i) a b) = f := ⟨_, rfl⟩
  rw [hf] at HBD
  have HF := Lib.hid (fun i => (congrFun hf i).symm)
  obtain ⟨N, hN⟩ : ∃ N, d - z + 1 = N := ⟨_, rfl⟩
  rw [hN] at HLR
  have HE : Hid (Ser.psum f N % m = Pl.br m d (Pl.pc t) a b z) := Lib.hid (by unfold Pl.br Pl.brS; rw [hf, show d + 1 - z = N by omega])
  have HNN := Lib.hid hN
  have hN1 : N ≤ 11 := by omega
  obtain ⟨L, hL⟩ : ∃ L, t.length = L := ⟨_, rfl⟩
  have HL := Lib.hid hL
  have HLd := Lib.hid (hL.symm.trans hs.len)
  rw [hL] at HG1 HWB ⊢
  obtain ⟨W, hW⟩ : ∃ W, w.alloc (.cells #[.int .i64 m, .int .i64 d, .slice (some ⟨b0, off, none⟩) L c] 66) = W := ⟨_, rfl⟩
  rw [hW] at HG1 HWB
  have HR := Lib.hid (hr.below HWB.out)
  have HP := Lib.hid (hp.keep HWB.out)
  have HW := Lib.hid hW
  have HB := HWB
  have j6 : (0 : Int) ≤ (z : Int) := by omega
  have j7 : (0 : Int) ≤ (a : Int) := by omega
  have j8 : (0 : Int) ≤ (b : Int) := by omega
  obtain ⟨B, hBe⟩ : ∃ B, Pl.br m d (Pl.pc t) a b z = B := ⟨_, rfl⟩
  rw [hBe] at HE ⊢
  clear hs hr hp hL hW hf hN hBe
  obtain ⟨x0, x1, x2, x3⟩ := HG1.out
  go_enter Try.func189, Try.ntmps189
  go_wp2_with fail
  rw [HW.out]
  refine (HLR.out _).mono ?_
  rintro e w1 ⟨rfl, hb1⟩
  have HB1 := Lib.hid hb1
  clear hb1 x0 x1 x2 x3
  go_wp2
  go_loopw [11, 12, 17] (fun s11 _ q wr => ∃ k : Nat, k ≤ N ∧ q = .int .i64 k ∧ s11 = .int .i64 (Ser.psum f k) ∧ Below W.heap.size W wr) (fun _ _ q _ => N - (intOf q).toNat)
  case atStart => exact ⟨0, Nat.zero_le _, rfl, rfl, HB1.out⟩
  case round =>
    clear HB1
    obtain ⟨k, hk, rfl, rfl, hbel⟩ := hrel
    have HBE := Lib.hid hbel
    by_cases hlt : k < N
    · have hNN := HNN.out
      obtain ⟨p1, p2, p3, M, hM, x1, x2, x3⟩ := (HG1.out.keep hbel).num' HL.out HS.out (HR.out.below hbel) k z (by omega)
      obtain ⟨g, cg, Ak, ck, hv, k0, klo, -, -, k3, k4⟩ := (HP.out.keep hbel).grid k (by rw [pwTs_length]; omega)
      rw [pwTs_get _ _ _ _ _ (by omega), Pl.pwT_length] at k3
      rw [pwTs_get _ _ _ _ _ (by omega)] at k4
      rw [pwTs_length] at hv
      have hpk := pwT_ok m1 m2 HS.out.d1 hd2 (Pl.pc t) k
      obtain ⟨b4, off4, b5, off5, c5, e4, -, k5, -, k6⟩ := k4.num a b (by rw [Pl.pwT_length]; omega) (by rw [hpk.row a (by omega)]; omega)
      subst e4
      rw [hpk.row a (by omega)] at k5
      have h0 := HBD.out k
      have h1 := HBD.out (k + 1)
      rw [Ser.psum] at h1
      have hfk := HF.out k
      have r1 := HS.out.pc k z
      have r2 := hpk.pc a b
      obtain ⟨X, hX⟩ : ∃ X, Pl.pc t k z = X := ⟨_, rfl⟩
      obtain ⟨Y, hY⟩ : ∃ Y, Pl.pc (Pl.pwT m d (Pl.pc t) k) a b = Y := ⟨_, rfl⟩
      rw [hX] at x3 hfk r1
      rw [hY] at k6 hfk r2
      have hst : Ser.psum f (k + 1) = Ser.psum f k + X * Y := by rw [Ser.psum, hfk]
      rw [hfk] at h1
      obtain ⟨P, hP⟩ : ∃ P, Ser.psum f k = P := ⟨_, rfl⟩
      rw [hP] at h0 h1 hst
      obtain ⟨q1, q2⟩ := mul_bd (x := X) (y := Y) r1.1 (by omega) (by omega) (by omega)
      have q3 : 0 ≤ X * Y := Int.mul_nonneg r1.1 r2.1
      obtain ⟨M5, hM5⟩ : ∃ M, d - a + 1 = M := ⟨_, rfl⟩
      rw [hM5] at k5
      obtain ⟨D, hD⟩ : ∃ D, d + 1 = D := ⟨_, rfl⟩
      rw [hD] at k3 hv
      have hLd := HLd.out
      have j0 : (0 : Int) ≤ (k : Int) := by omega
      have j1 : (k : Int) < (L : Int) := by omega
      have j2 : (z : Int) < (M : Int) := by omega
      have j3 : (k : Int) < (D : Int) := by omega
      have j4 : (a : Int) < (D : Int) := by omega
      have j5 : (b : Int) < (M5 : Int) := by omega
      have w1' : IntKind.i64.wrap (X * Y) = X * Y := by rw [IntKind.wrap_i64]; omega
      have w2' : IntKind.i64.wrap (P + X * Y) = P + X * Y := by rw [IntKind.wrap_i64]; omega
      have HST := Lib.hid hst
      have HPP := Lib.hid hP
      subst hv
      clear hst hX hY hfk hpk k4 hbel hM hM5 hD hNN hLd r1 r2 h0 h1 q1 q2 q3 hP
      rw [HPP.out]
      go_wp2
      go_quiet (fail)
      go_wp2
      go_roundw
      case rel => exact ⟨k + 1, by omega, by go_num, by rw [HST.out], below_drewN HBE.out _⟩
      case measure => simp only [intOf]; omega
    · obtain rfl : k = N := by omega
      obtain ⟨x0, x1, x2, x3⟩ := HG1.out.keep hbel
      have h0 := HBD.out k
      have he := HE.out
      obtain ⟨P, hP⟩ : ∃ P, Ser.psum f k = P := ⟨_, rfl⟩
      rw [hP] at h0 he ⊢
      have HEE := Lib.hid he
      clear hbel hP he HE
      go_wp2_with (first | (go_at_call 170; refine (remainder_any _ _ _ (by omega) m2 (by omega) (by omega)).mono ?_; rintro e w' ⟨rfl, rfl⟩))
      go_ret
      exact ⟨ret_int HEE.out, below_step HB.out HBE.out⟩

/-! the triples -/
namespace Pl
theorem fau2_in {m : Int} {d : Nat} {F : Nat → Nat → Int} {a : Nat} {o : Option (List Int)} (ha : a < d + 1) (h : srch (fau2 m d F) (d + 1 - a) a = o) :
    orE (srch (fau2b m d F a) (d + 1 - a) 0) (srch (fau2 m d F) (d + 1 - (a + 1)) (a + 1)) = o := by
  rw [show d + 1 - a = (d + 1 - (a + 1)) + 1 by omega, srch_step] at h
  unfold fau2 at h
  exact h
theorem fau2b_in {m : Int} {d : Nat} {F : Nat → Nat → Int} {a b : Nat} {r o : Option (List Int)} (hb : a + b < d + 1) (h : orE (srch (fau2b m d F a) (d + 1 - a - b) b) r = o) :
    orE (srch (fau2c m d F a b) (d + 1 - (a + b)) 0) (orE (srch (fau2b m d F a) (d + 1 - a - (b + 1)) (b + 1)) r) = o := by
  rw [show d + 1 - a - b = (d + 1 - a - (b + 1)) + 1 by omega, srch_step] at h
  unfold fau2b at h ⊢
  rw [← h]
  generalize srch (fau2c m d F a b) (d + 1 - (a + b)) 0 = p
  cases p <;> rfl
theorem fau2b_out {m : Int} {d : Nat} {F : Nat → Nat → Int} {a b : Nat} {r o : Option (List Int)} (hb : ¬ a + b < d + 1) (h : orE (srch (fau2b m d F a) (d + 1 - a - b) b) r = o) : r = o := by
  rw [show d + 1 - a - b = 0 by omega] at h
  exact h
theorem fau2c_go {m : Int} {d : Nat} {F : Nat → Nat → Int} {a b c : Nat} {r o : Option (List Int)} (hc : a + b + c < d + 1) (h : orE (srch (fau2c m d F a b) (d + 1 - (a + b) - c) c) r = o) (hx : br m d F a b c = br m d F c b a) : orE (srch (fau2c m d F a b) (d + 1 - (a + b) - (c + 1)) (c + 1)) r = o := by
  rw [show d + 1 - (a + b) - c = (d + 1 - (a + b) - (c + 1)) + 1 by omega, srch_step] at h
  unfold fau2c at h
  rw [if_pos hx, orE_none] at h
  exact h
theorem fau2c_no {m : Int} {d : Nat} {F : Nat → Nat → Int} {a b c : Nat} {r o : Option (List Int)} (hc : a + b + c < d + 1) (h : orE (srch (fau2c m d F a b) (d + 1 - (a + b) - c) c) r = o) (hx : ¬ br m d F a b c = br m d F c b a) : o = some [2, (a : Int), (b : Int), (c : Int)] := by
  rw [show d + 1 - (a + b) - c = (d + 1 - (a + b) - (c + 1)) + 1 by omega, srch_step] at h
  unfold fau2c at h
  rw [if_neg hx, orE_some, orE_some] at h
  exact h.symm
theorem fau2c_out {m : Int} {d : Nat} {F : Nat → Nat → Int} {a b c : Nat} {r o : Option (List Int)} (hc : ¬ a + b + c < d + 1) (h : orE (srch (fau2c m d F a b) (d + 1 - (a + b) - c) c) r = o) : r = o := by
  rw [show d + 1 - (a + b) - c = 0 by omega] at h
  exact h
end Pl
/-- a grid's box in the walk's form is kept -/
theorem gb_keep {w w' : World} {g : Nat} {x y z : Value} (hb : Below w.heap.size w w') (h : w.cell? ⟨g, 0, none⟩ = some x ∧ w.cell? ⟨g, 1, none⟩ = some y ∧ w.cell? ⟨g, 2, none⟩ = some z ∧ g < w.heap.size) :
    w'.cell? ⟨g, 0, none⟩ = some x ∧ w'.cell? ⟨g, 1, none⟩ = some y ∧ w'.cell? ⟨g, 2, none⟩ = some z ∧ g < w'.heap.size :=
  ⟨(hb.cell (p := ⟨g, 0, none⟩) h.2.2.2).trans h.1, (hb.cell (p := ⟨g, 1, none⟩) h.2.2.2).trans h.2.1, (hb.cell (p := ⟨g, 2, none⟩) h.2.2.2).trans h.2.2.1, Nat.lt_of_lt_of_le h.2.2.2 hb.size⟩
theorem gbb_keep {w0 w w' : World} {g : Nat} {x y z : Value} (hb : Below w.heap.size w w') (h : (w.cell? ⟨g, 0, none⟩ = some x ∧ w.cell? ⟨g, 1, none⟩ = some y ∧ w.cell? ⟨g, 2, none⟩ = some z ∧ g < w.heap.size) ∧ Below w0.heap.size w0 w) :
    (w'.cell? ⟨g, 0, none⟩ = some x ∧ w'.cell? ⟨g, 1, none⟩ = some y ∧ w'.cell? ⟨g, 2, none⟩ = some z ∧ g < w'.heap.size) ∧ Below w0.heap.size w0 w' := ⟨gb_keep hb h.1, below_step h.2 hb⟩
theorem snd2 {p q : Prop} (h : p ∧ q) : q := h.2
set_option maxHeartbeats 8000000 in
set_option maxRecDepth 100000 in
theorem wrongTriple_any (m : Int) (d : Nat) (A : Option Addr) (c : Nat) (t : List (List Int)) (w : World) (hs : Pl.Ok m d t) (hr : RP w A t) :
    Calls Try.prog 186 #[.agg #[.int .i64 m, .int .i64 d, .slice A t.length c]] w fun e w' => ∃ v, e = .returned v ∧ FauV w' w.heap.size v (Pl.fauT m d (Pl.pc t)) ∧ Below w.heap.size w w' := by
  have HG1 := Lib.hid (GBox.new 66 w m d A t.length c)
  have HWB := Lib.hid (below_one w (.cells #[.int .i64 m, .int .i64 d, .slice A t.length c] 66))
  have hd2 := hs.d2
  have HLR := Lib.hid (fun (k : Nat) W (hk : k ≤ d) => lenRow_any m d k W (by have := hs.d2; omega) hk)
  have HBR := Lib.hid (fun (v : Value) (lo a b z : Nat) (W0 : World) (h : RP W0 A t) (h' : OwnT [.int .i64 m, .int .i64 d] 66 W0 lo v (pwTs m d (Pl.pc t) (d + 1))) (hab : a + b ≤ d) (hz : z ≤ d) => bracketedAt_any m d A c t v lo a b z W0 hs h h' hab hz)
  obtain ⟨o, ho⟩ : ∃ o, Pl.fauT m d (Pl.pc t) = o := ⟨_, rfl⟩
  have HO := Lib.hid (show Pl.srch (Pl.fau2 m d (Pl.pc t)) (d + 1 - 0) 0 = o from ho)
  rw [ho]
  have HPW := Lib.hid (fun W0 (h : RP W0 A t) => powers_any m d A c t W0 hs h)
  obtain ⟨L, hL⟩ : ∃ L, t.length = L := ⟨_, rfl⟩
  rw [hL] at HG1 HWB HBR HPW ⊢
  obtain ⟨W, hW⟩ : ∃ W, w.alloc (.cells #[.int .i64 m, .int .i64 d, .slice A L c] 66) = W := ⟨_, rfl⟩
  rw [hW] at HG1 HWB
  have HR := Lib.hid (hr.below HWB.out)
  have HW := Lib.hid hW
  have HB := HWB
  clear hs hr hL hW ho
  obtain ⟨x0, x1, x2, x3⟩ := HG1.out
  go_enter Try.func186, Try.ntmps186
  go_wp2_with fail
  rw [HW.out]
  refine (HPW.out _ HR.out).mono ?_
  rintro e w1 ⟨v, rfl, hp, hb1⟩
  obtain ⟨Av, cv, rfl⟩ := hp.form
  have HP := Lib.hid hp
  obtain ⟨V, hV⟩ : ∃ V, Value.slice Av (pwTs m d (Pl.pc t) (d + 1)).length cv = V := ⟨_, rfl⟩
  rw [hV] at HP
  have HV := Lib.hid hV
  have HB1 := Lib.hid hb1
  clear x0 x1 x2 x3 hp hV
  obtain ⟨x0, x1, x2, x3⟩ := HG1.out.keep hb1
  rw [HV.out]
  go_wp2
  clear x0 x1 x2 x3 hb1
  go_loopw [4, 5, 6, 13] (fun _ _ _ q wr => ∃ a : Nat, a ≤ d + 1 ∧ q = .int .i64 a ∧ Pl.srch (Pl.fau2 m d (Pl.pc t)) (d + 1 - a) a = o ∧ Below w1.heap.size w1 wr) (fun _ _ _ q _ => d + 1 - (intOf q).toNat)
  case atStart => exact ⟨0, Nat.zero_le _, rfl, HO.out, Below.refl _ _⟩
  case round =>
    clear HO
    obtain ⟨a, ha, rfl, hso, hbel⟩ := hrel
    have HBE := Lib.hid hbel
    by_cases hlt : a < d + 1
    · have HIN := Lib.hid (Pl.fau2_in hlt hso)
      have HLK := Lib.hid (fun W => HLR.out a W (by omega))
      obtain ⟨N, hN⟩ : ∃ N, d - a + 1 = N := ⟨_, rfl⟩
      rw [hN] at HLK
      have HNN := Lib.hid hN
      have hN1 : N ≤ 11 := by omega
      have j1 : (a : Int) < (d : Int) + 1 := by omega
      obtain ⟨r, hr⟩ : ∃ r, Pl.srch (Pl.fau2 m d (Pl.pc t)) (d + 1 - (a + 1)) (a + 1) = r := ⟨_, rfl⟩
      rw [hr] at HIN
      have HRR := Lib.hid hr
      obtain ⟨x0, x1, x2, x3⟩ := HG1.out.keep (below_step HB1.out HBE.out)
      clear hN hso hr hbel
      go_wp2_with fail
      refine (HLK.out _).mono ?_
      rintro e w2 ⟨rfl, hb2⟩
      have HB2 := Lib.hid (below_step HBE.out hb2)
      clear hb2 x0 x1 x2 x3
      go_wp2
      go_loopw [5, 6, 20] (fun _ _ q wr => ∃ b : Nat, b ≤ N ∧ q = .int .i64 b ∧ Pl.orE (Pl.srch (Pl.fau2b m d (Pl.pc t) a) (d + 1 - a - b) b) r = o ∧ Below w1.heap.size w1 wr) (fun _ _ q _ => N - (intOf q).toNat)
      case atStart => exact ⟨0, Nat.zero_le _, rfl, HIN.out, HB2.out⟩
      case round =>
        clear HIN HBE HB2
        obtain ⟨b, hb, rfl, hso, hbel⟩ := hrel
        have HBE := Lib.hid hbel
        have hNN := HNN.out
        by_cases hltb : b < N
        · have HIN := Lib.hid (Pl.fau2b_in (show a + b < d + 1 by omega) hso)
          have HLB := Lib.hid (fun W => HLR.out (a + b) W (by omega))
          have hcast : ((a + b : Nat) : Int) = (a : Int) + (b : Int) := by omega
          rw [hcast] at HLB
          obtain ⟨M, hM⟩ : ∃ M, d - (a + b) + 1 = M := ⟨_, rfl⟩
          rw [hM] at HLB
          have HMM := Lib.hid hM
          have hM1 : M ≤ 11 := by omega
          have j2 : (b : Int) < (N : Int) := by omega
          obtain ⟨r2, hr2⟩ : ∃ r2, Pl.orE (Pl.srch (Pl.fau2b m d (Pl.pc t) a) (d + 1 - a - (b + 1)) (b + 1)) r = r2 := ⟨_, rfl⟩
          rw [hr2] at HIN
          have HRR2 := Lib.hid hr2
          obtain ⟨x0, x1, x2, x3⟩ := HG1.out.keep (below_step HB1.out HBE.out)
          clear hM hso hr2 hbel hNN hcast
          go_wp2_with fail
          refine (HLB.out _).mono ?_
          rintro e w2 ⟨rfl, hb2⟩
          have HB2 := Lib.hid (below_step HBE.out hb2)
          clear hb2 x0 x1 x2 x3
          go_wp2
          go_loopw [6, 29] (fun _ q wr => ∃ z : Nat, z ≤ M ∧ q = .int .i64 z ∧ Pl.orE (Pl.srch (Pl.fau2c m d (Pl.pc t) a b) (d + 1 - (a + b) - z) z) r2 = o ∧ Below w1.heap.size w1 wr) (fun _ q _ => M - (intOf q).toNat)
          case atStart => exact ⟨0, Nat.zero_le _, rfl, HIN.out, HB2.out⟩
          case round =>
            clear HIN HBE HB2
            obtain ⟨z, hz, rfl, hso, hbel⟩ := hrel
            have HBE := Lib.hid hbel
            have hNN := HNN.out
            have hMM := HMM.out
            by_cases hltz : z < M
            · have hgo := Pl.fau2c_go (show a + b + z < d + 1 by omega) hso
              have hno := Pl.fau2c_no (show a + b + z < d + 1 by omega) hso
              have H1 := Lib.hid (fun W0 (h : Below w1.heap.size w1 W0) => HBR.out V W.heap.size a b z W0 ((HR.out.below HB1.out).below h) (HP.out.keep h) (by omega) (by omega))
              have H2 := Lib.hid (fun W0 (h : Below w1.heap.size w1 W0) => HBR.out V W.heap.size z b a W0 ((HR.out.below HB1.out).below h) (HP.out.keep h) (by omega) (by omega))
              obtain ⟨X, hX⟩ : ∃ X, Pl.br m d (Pl.pc t) a b z = X := ⟨_, rfl⟩
              obtain ⟨Y, hY⟩ : ∃ Y, Pl.br m d (Pl.pc t) z b a = Y := ⟨_, rfl⟩
              rw [hX] at H1
              rw [hY] at H2
              rw [hX, hY] at hgo hno
              have X0 := Lib.hid (gbb_keep (below_drew0 wr) ⟨HG1.out.keep (below_step HB1.out hbel), hbel⟩)
              have hz1 : z ≤ 11 := by omega
              clear hX hY hso hbel hNN hMM
              by_cases hxy : X = Y
              · have HNX := Lib.hid (hgo hxy)
                subst hxy
                clear hgo hno
                go_wp2
                go_region_held3 (fun w' => (w'.cell? ⟨w.heap.size, 0, none⟩ = some (.int .i64 m) ∧ w'.cell? ⟨w.heap.size, 1, none⟩ = some (.int .i64 d) ∧ w'.cell? ⟨w.heap.size, 2, none⟩ = some (.slice A L c) ∧ w.heap.size < w'.heap.size) ∧ Below w1.heap.size w1 w') (first | exact X0.out | exact gbb_keep hb5 (by assumption) | exact gbb_keep hb4 (by assumption)) (first
                  | (go_at_call 189; with_reducible refine Calls.mono (H1.out _ (snd2 (by assumption))) ?_; rintro e w4 ⟨rfl, hb4⟩)
                  | (go_at_call 189; with_reducible refine Calls.mono (H2.out _ (snd2 (by assumption))) ?_; rintro e w5 ⟨rfl, hb5⟩))
                all_goals
                  have HB9 := Lib.hid (show Below w1.heap.size w1 _ from snd2 (by assumption))
                  clear hb4 hb5
                  go_wp2
                  go_roundw
                  case rel => exact ⟨z + 1, by omega, by go_num, HNX.out, HB9.out⟩
                  case measure => simp only [intOf]; omega
              · have HNX := Lib.hid (hno hxy)
                obtain ⟨n1, n2⟩ : (X == Y) = false ∧ (X != Y) = true := ⟨by simpa using hxy, by simpa using hxy⟩
                clear hgo hno
                go_wp2
                go_region_held3 (fun w' => (w'.cell? ⟨w.heap.size, 0, none⟩ = some (.int .i64 m) ∧ w'.cell? ⟨w.heap.size, 1, none⟩ = some (.int .i64 d) ∧ w'.cell? ⟨w.heap.size, 2, none⟩ = some (.slice A L c) ∧ w.heap.size < w'.heap.size) ∧ Below w1.heap.size w1 w') (first | exact X0.out | exact gbb_keep hb5 (by assumption) | exact gbb_keep hb4 (by assumption)) (first
                  | (go_at_call 189; with_reducible refine Calls.mono (H1.out _ (snd2 (by assumption))) ?_; rintro e w4 ⟨rfl, hb4⟩)
                  | (go_at_call 189; with_reducible refine Calls.mono (H2.out _ (snd2 (by assumption))) ?_; rintro e w5 ⟨rfl, hb5⟩))
                all_goals
                  have HB9 := Lib.hid (show Below w1.heap.size w1 _ from snd2 (by assumption))
                  clear hb4 hb5
                  go_wp2
                  go_ret
                  exact ⟨_, rfl, by rw [HNX.out]; exact ⟨_, _, rfl, (OwnI.lit4 _ 2 (a : Int) (b : Int) (z : Int)).more (below_step (below_step HB.out HB1.out) HB9.out).size⟩, below_step (below_step HB.out HB1.out) (below_alloc _ HB9.out)⟩
            · have HNX := Lib.hid (HRR2.out.trans (Pl.fau2c_out (show ¬ a + b + z < d + 1 by omega) hso))
              have j3 : ¬ (z : Int) < (M : Int) := by omega
              clear hso hbel hNN hMM
              go_wp2
              go_roundw
              case rel => exact ⟨b + 1, by omega, by go_num, HNX.out, HBE.out⟩
              case measure => simp only [intOf]; omega
        · have HNX := Lib.hid (HRR.out.trans (Pl.fau2b_out (show ¬ a + b < d + 1 by omega) hso))
          have j3 : ¬ (b : Int) < (N : Int) := by omega
          clear hso hbel hNN
          go_wp2
          go_roundw
          case rel => exact ⟨a + 1, by omega, by go_num, HNX.out, HBE.out⟩
          case measure => simp only [intOf]; omega
    · obtain rfl : a = d + 1 := by omega
      rw [Nat.sub_self] at hso
      have HNO := Lib.hid (show o = none from hso.symm)
      clear hso hbel
      go_wp2
      go_ret
      exact ⟨_, rfl, by rw [HNO.out]; exact rfl, below_step (below_step HB.out HB1.out) HBE.out⟩
set_option maxHeartbeats 4000000 in
set_option maxRecDepth 100000 in
theorem fault_any (m : Int) (d : Nat) (A : Option Addr) (c : Nat) (t : List (List Int)) (w : World) (hs : Pl.Ok m d t) (hr : RP w A t) :
    Calls Try.prog 164 #[.agg #[.int .i64 m, .int .i64 d, .slice A t.length c]] w fun e w' => ∃ v, e = .returned v ∧ FauV w' w.heap.size v (Pl.fau m d (Pl.pc t)) ∧ Below w.heap.size w w' := by
  have HG1 := Lib.hid (GBox.new 66 w m d A t.length c)
  have HWB := Lib.hid (below_one w (.cells #[.int .i64 m, .int .i64 d, .slice A t.length c] 66))
  have H1 := Lib.hid (fun W0 (h : RP W0 A t) => wrongPower_any m d A c t W0 hs h)
  have H2 := Lib.hid (fun W0 (h : RP W0 A t) => wrongPair_any m d A c t W0 hs h)
  have H3 := Lib.hid (fun W0 (h : RP W0 A t) => wrongTriple_any m d A c t W0 hs h)
  unfold Pl.fau
  obtain ⟨o1, ho1⟩ : ∃ o, Pl.fauP d (Pl.pc t) = o := ⟨_, rfl⟩
  obtain ⟨o2, ho2⟩ : ∃ o, Pl.fauS d (Pl.pc t) = o := ⟨_, rfl⟩
  obtain ⟨o3, ho3⟩ : ∃ o, Pl.fauT m d (Pl.pc t) = o := ⟨_, rfl⟩
  rw [ho1] at H1 ⊢
  rw [ho2] at H2 ⊢
  rw [ho3] at H3 ⊢
  obtain ⟨L, hL⟩ : ∃ L, t.length = L := ⟨_, rfl⟩
  rw [hL] at HG1 HWB H1 H2 H3 ⊢
  obtain ⟨W, hW⟩ : ∃ W, w.alloc (.cells #[.int .i64 m, .int .i64 d, .slice A L c] 66) = W := ⟨_, rfl⟩
  rw [hW] at HG1 HWB
  have HR := Lib.hid (hr.below HWB.out)
  have HW := Lib.hid hW
  have HB := HWB
  clear hs hr hL hW ho1 ho2 ho3
  obtain ⟨x0, x1, x2, x3⟩ := HG1.out
  go_enter Try.func164, Try.ntmps164
  go_wp2_with fail
  rw [HW.out]
  refine (H1.out _ HR.out).mono ?_
  rintro e w1 ⟨v1, rfl, hf1, hb1⟩
  cases o1 with
  | some x =>
    obtain ⟨b, cb, rfl, hown⟩ := hf1
    have HO := Lib.hid (hown.more HB.out.size)
    have HB1 := Lib.hid (below_step HB.out hb1)
    clear hown hb1 x0 x1 x2 x3
    go_wp2
    go_ret
    exact ⟨_, rfl, ⟨_, _, rfl, HO.out⟩, HB1.out⟩
  | none =>
    subst hf1
    have HB1 := Lib.hid hb1
    clear x0 x1 x2 x3 hb1
    obtain ⟨x0, x1, x2, x3⟩ := HG1.out.keep HB1.out
    go_wp2_with fail
    refine (H2.out _ (HR.out.below HB1.out)).mono ?_
    rintro e w2 ⟨v2, rfl, hf2, hb2⟩
    have HB2 := Lib.hid (below_step HB1.out hb2)
    clear x0 x1 x2 x3 hb2
    cases o2 with
    | some x =>
      obtain ⟨b, cb, rfl, hown⟩ := hf2
      have HO := Lib.hid (hown.more (below_step HB.out HB1.out).size)
      clear hown
      go_wp2
      go_ret
      exact ⟨_, rfl, ⟨_, _, rfl, HO.out⟩, below_step HB.out HB2.out⟩
    | none =>
      subst hf2
      obtain ⟨x0, x1, x2, x3⟩ := HG1.out.keep HB2.out
      go_wp2_with fail
      refine (H3.out _ (HR.out.below HB2.out)).mono ?_
      rintro e w3 ⟨v3, rfl, hf3, hb3⟩
      have HB3 := Lib.hid (below_step (below_step HB.out HB2.out) hb3)
      have HF : Hid (FauV w3 w.heap.size v3 o3) := Lib.hid (by
        cases o3 with
        | none => exact hf3
        | some x =>
          obtain ⟨b, cb, rfl, hown⟩ := hf3
          exact ⟨b, cb, rfl, hown.more (below_step HB.out HB2.out).size⟩)
      clear hf3 hb3 x0 x1 x2 x3
      go_wp2
      go_ret
      exact ⟨_, rfl, HF.out, HB3.out⟩
end Go.Proofs.Ytpmbojbdppbkgaa

/- Contracts of IsLaw and LawFault, of the program. -/
namespace Go.Proofs.Ytpmbojbdppbkgaa
open Go.RowKit Go.WideShapes Go.ChangeShapes Go.ChangeAt

/-- a table is a law's -/
def isL (m : Int) (t : List (List Int)) : Bool := isP m t && (Pl.fau m (t.length - 1) (Pl.pc t)).isNone
theorem isL_no {m : Int} {t : List (List Int)} (h : isP m t = false) : isL m t = false := by unfold isL; rw [h]; rfl
theorem isL_fau {m : Int} {t : List (List Int)} {d : Nat} (h : isP m t = true) (e : t.length = d + 1) : isL m t = (Pl.fau m d (Pl.pc t)).isNone := by
  unfold isL; rw [h, e]; rfl
theorem isL_of {m : Int} {t : List (List Int)} (h : isL m t = true) : isP m t = true ∧ ∃ d, t.length = d + 1 ∧ Pl.Ok m d t ∧ Pl.fau m d (Pl.pc t) = none := by
  unfold isL at h
  rw [Bool.and_eq_true] at h
  obtain ⟨h1, h2⟩ := h
  obtain ⟨d, e, ok⟩ := plOk_of h1
  refine ⟨h1, d, e, ok, ?_⟩
  rw [e] at h2
  simpa using h2
/-- the model of LawFault -/
def faultL (m : Int) (t : List (List Int)) : List Int × Int := if isP m t = true then (match Pl.fau m (t.length - 1) (Pl.pc t) with | none => ([], 4) | some x => (x, 0)) else ([], 1)
theorem fau_len {m : Int} {d : Nat} {F : Nat → Nat → Int} {x : List Int} (h : Pl.fau m d F = some x) : 0 < x.length ∧ x.length ≤ 4 := by
  have key : ∀ (p : Nat → Option (List Int)) (q : List Int → Prop), (∀ i y, p i = some y → q y) → ∀ n k y, Pl.srch p n k = some y → q y := by
    intro p q hp n
    induction n with
    | zero => intro k y hy; exact absurd hy (by simp [Pl.srch])
    | succ n ih =>
      intro k y hy
      rw [Pl.srch_step] at hy
      cases hc : p k with
      | none => rw [hc] at hy; exact ih (k + 1) y hy
      | some z => rw [hc] at hy; injection hy with hy; subst hy; exact hp k z hc
  unfold Pl.fau at h
  cases h1 : Pl.fauP d F with
  | some y =>
    rw [h1] at h; injection h with h; subst h
    exact key _ (fun y => 0 < y.length ∧ y.length ≤ 4) (fun i y hy => by
      unfold Pl.fau0 at hy
      split at hy
      · cases hy
      · injection hy with hy; subst hy; simp) _ _ _ h1
  | none =>
    rw [h1, Pl.orE_none] at h
    cases h2 : Pl.fauS d F with
    | some y =>
      rw [h2] at h; injection h with h; subst h
      exact key _ (fun y => 0 < y.length ∧ y.length ≤ 4) (fun i y hy => key _ (fun y => 0 < y.length ∧ y.length ≤ 4) (fun j z hz => by
        unfold Pl.fau1j at hz
        split at hz
        · cases hz
        · injection hz with hz; subst hz; simp) _ _ _ hy) _ _ _ h2
    | none =>
      rw [h2, Pl.orE_none] at h
      exact key _ (fun y => 0 < y.length ∧ y.length ≤ 4) (fun i y hy => key _ (fun y => 0 < y.length ∧ y.length ≤ 4) (fun j z hz => key _ (fun y => 0 < y.length ∧ y.length ≤ 4) (fun l u hu => by
        unfold Pl.fau2c at hu
        split at hu
        · cases hu
        · injection hu with hu; subst hu; simp) _ _ _ hz) _ _ _ hy) _ _ _ h
theorem faultL_len (m : Int) (t : List (List Int)) : (faultL m t).1.length ≤ 1048576 := by
  unfold faultL
  split
  · split
    · simp
    · rename_i x h
      have := (fau_len h).2
      dsimp only
      omega
  · simp
set_option maxHeartbeats 4000000 in
set_option maxRecDepth 100000 in
theorem IsLaw_any (m : Int) (A : Option Addr) (c : Nat) (t : List (List Int)) (w : World) (hz : szT t ≤ 1048576) (hr : RP w A t) :
    Calls Try.prog 126 #[.agg #[.int .i64 m, .slice A t.length c]] w fun e w' => e = .returned (.bool (isL m t)) ∧ Below w.heap.size w w' := by
  obtain ⟨W, hW, b1, hwb⟩ := start1 31 w m A t.length c
  have B1 := Lib.hid b1
  have HB := Lib.hid hwb
  have HW := Lib.hid hW
  have HI := Lib.hid (fun W0 (h : Below W.heap.size W W0) => IsPlane_any m A c t W0 hz ((hr.below hwb).below h))
  by_cases h0 : isP m t = true
  · obtain ⟨d, e1, ok⟩ := plOk_of h0
    have HG := Lib.hid (fun W0 => gridOf_nat m A t.length c d W0 e1 (by have := ok.d2; omega))
    have HF := Lib.hid (fun W0 (h : Below W.heap.size W W0) => fault_any m d A c t W0 ok ((hr.below hwb).below h))
    rw [isL_fau h0 e1]
    rw [h0] at HI
    obtain ⟨o, ho⟩ : ∃ o, Pl.fau m d (Pl.pc t) = o := ⟨_, rfl⟩
    rw [ho] at HF ⊢
    obtain ⟨L, hL⟩ : ∃ L, t.length = L := ⟨_, rfl⟩
    rw [hL] at HG HF HI HW B1 ⊢
    clear b1 hwb hW hr h0 ok e1 hz hL ho
    have heq : ∀ (a : Option Addr) (n c : Nat) (W0 : World), (binOp .eql 26 (.slice a n c) (.slice none 0 0)).run Try.prog W0 = .ok (.bool a.isNone) W0 := fun a n c W0 => Lib.run_eql_slice_nil _ _ _ _ _ _ _ _ Try.underlying26
    go_enter Try.func126, Try.ntmps126
    go_wp2_with fail
    rw [HW.out]
    refine (HI.out _ (Below.refl _ _)).mono ?_
    rintro e w1 ⟨rfl, hb1⟩
    obtain ⟨x1, x2, x3⟩ := B1.out.keep hb1
    go_wp2_with fail
    refine (HG.out _).mono ?_
    rintro e w2 ⟨rfl, hb2⟩
    go_wp2_with fail
    refine (HF.out _ (below_step hb1 hb2)).mono ?_
    rintro e w3 ⟨v, rfl, hf, hb3⟩
    have HB3 := Lib.hid (below_step HB.out (below_step (below_step hb1 hb2) hb3))
    clear hb1 hb2 hb3 x1 x2 x3
    cases o with
    | none =>
      subst hf
      go_wp2
      go_ret
      exact ⟨rfl, HB3.out⟩
    | some x =>
      obtain ⟨b, cb, rfl, -⟩ := hf
      go_wp2
      go_ret
      exact ⟨rfl, HB3.out⟩
  · have h0' : isP m t = false := by simpa using h0
    rw [isL_no h0']
    rw [h0'] at HI
    obtain ⟨L, hL⟩ : ∃ L, t.length = L := ⟨_, rfl⟩
    rw [hL] at HI HW B1 ⊢
    clear b1 hwb hW hr h0 h0' hz hL
    go_enter Try.func126, Try.ntmps126
    go_wp2_with fail
    rw [HW.out]
    refine (HI.out _ (Below.refl _ _)).mono ?_
    rintro e w1 ⟨rfl, hb1⟩
    go_wp2
    go_ret
    exact ⟨rfl, below_step HB.out hb1⟩
end Go.Proofs.Ytpmbojbdppbkgaa

/- Contracts of the codes of a plane and one series, of the program and of the model. -/
namespace Go.Proofs.Ytpmbojbdppbkgaa
open Go.RowKit Go.WideShapes Go.ChangeShapes Go.ChangeAt

/-- the code of a plane and one series -/
def codePS (m : Int) (t : List (List Int)) (m' : Int) (l : List Int) : Int := if isP m t = true ∧ isS m' l = true then (if m' = m ∧ l.length = t.length then 0 else 2) else 1
theorem codePS_ok {m : Int} {t : List (List Int)} {m' : Int} {l : List Int} (h : codePS m t m' l = 0) : m' = m ∧ ∃ d, t.length = d + 1 ∧ l.length = d + 1 ∧ Pl.Ok m d t ∧ SerOk m d l := by
  unfold codePS at h
  by_cases h1 : isP m t = true ∧ isS m' l = true
  · rw [if_pos h1] at h
    by_cases h2 : m' = m ∧ l.length = t.length
    · obtain ⟨rfl, h2⟩ := h2
      obtain ⟨d, e, s⟩ := plOk_of h1.1
      obtain ⟨d', e', s'⟩ := serOk_of h1.2
      obtain rfl : d' = d := by omega
      exact ⟨rfl, d', e, e', s, s'⟩
    · rw [if_neg h2] at h; exact absurd h (by decide)
  · rw [if_neg h1] at h; exact absurd h (by decide)
set_option maxHeartbeats 8000000 in
set_option maxRecDepth 100000 in
theorem codePS_any (g : Nat) (m : Int) (A : Option Addr) (c : Nat) (t : List (List Int)) (m' : Int) (A' : Option Addr) (c' : Nat) (l : List Int) (w : World) (hz : szT t ≤ 1048576) (hl : l.length ≤ 1048576)
    (hr : RP w A t) (hr' : RI w A' l) (hx : Box w g m' A' l.length c') :
    Calls Try.prog 182 #[.agg #[.int .i64 m, .slice A t.length c], .slice (some ⟨g, 0, none⟩) 1 1] w fun e w' => e = .returned (.int .i64 (codePS m t m' l)) ∧ Below w.heap.size w w' := by
  obtain ⟨W, hW, b1, hwb⟩ := start1 31 w m A t.length c
  have HX := Lib.hid (hx.keep hwb)
  have B1 := Lib.hid b1
  have HB := Lib.hid hwb
  have HW := Lib.hid hW
  have HIP := Lib.hid (fun W0 (h : Below W.heap.size W W0) => IsPlane_any m A c t W0 hz ((hr.below hwb).below h))
  have HIS := Lib.hid (fun W0 (h : Below W.heap.size W W0) => IsSeries_any m' A' c' l W0 (by omega) ((hr'.below hwb).below h))
  have hfd := field_frame
  have HCC : Hid (codePS m t m' l = if isP m t = true ∧ isS m' l = true then (if m' = m ∧ l.length = t.length then 0 else 2) else 1) := Lib.hid rfl
  obtain ⟨C, hC⟩ : ∃ C, codePS m t m' l = C := ⟨_, rfl⟩
  rw [hC] at HCC ⊢
  clear hC hx hwb hW b1
  by_cases h1 : isP m t = true
  · by_cases h2 : isS m' l = true
    · obtain ⟨d, e1, ok⟩ := plOk_of h1
      obtain ⟨d', e2, ok'⟩ := serOk_of h2
      have HG := Lib.hid (fun W0 => gridOf_nat m A t.length c d W0 e1 (by have := ok.d2; omega))
      have HF := Lib.hid (fun W0 => frameOfSeries_any m' A' l.length c' d' W0 e2 (by have := ok'.d2; omega))
      have hcc := HCC.out
      rw [if_pos ⟨h1, h2⟩, e1, e2] at hcc
      rw [h1] at HIP
      rw [h2] at HIS
      obtain ⟨L, hL⟩ : ∃ L, t.length = L := ⟨_, rfl⟩
      obtain ⟨L', hL'⟩ : ∃ L, l.length = L := ⟨_, rfl⟩
      rw [hL] at HIP HG B1 HW ⊢
      rw [hL'] at HIS HF HX
      have HCD := Lib.hid hcc
      clear hcc HCC h1 h2 hr hr' hz hl e1 e2 ok ok' hL hL'
      go_enter Try.func182, Try.ntmps182
      go_wp2_with fail
      rw [HW.out]
      refine (HIP.out _ (Below.refl _ _)).mono ?_
      rintro e w1 ⟨rfl, hb1⟩
      obtain ⟨y1, y2, y3⟩ := HX.out.keep hb1
      go_wp2
      refine wp_loop_rounds 2 ?_
      rw [rounds_succ]
      go_wp2_with fail
      refine (HIS.out _ (below_alloc _ hb1)).mono ?_
      rintro e w2 ⟨rfl, hb2⟩
      have hb3 := (below_alloc (.cells #[.int .i64 m', .slice A' L' c'] 28) hb1).trans (hb2.mono (by have := hb1.size; simp; omega))
      clear y1 y2 y3
      obtain ⟨y1, y2, y3⟩ := HX.out.keep hb3
      go_wp2
      rw [rounds_succ]
      go_wp2
      refine wp_loop_rounds 2 ?_
      rw [rounds_succ]
      go_wp2
      obtain ⟨W', hW', b1, b2, hwb⟩ := var_inT (T := 28) (m' := m') (A' := A') (n' := L') (c' := c') B1.out hb3
      rw [hW']
      have C1 := Lib.hid b1
      have C2 := Lib.hid b2
      have HB' := Lib.hid (below_step HB.out hwb)
      clear hW' b1 b2 hwb hb1 hb2 hb3 y1 y2 y3
      by_cases hm : m' = m
      · subst hm
        by_cases hd : d' = d
        · subst hd
          have HC2 : Hid (C = 0) := Lib.hid (by rw [HCD.out, if_pos ⟨rfl, rfl⟩])
          clear HCD
          go_region_held3 (fun w' => (w'.cell? ⟨w2.heap.size, 0, none⟩ = some (.int .i64 m') ∧ w'.cell? ⟨w2.heap.size, 1, none⟩ = some (.slice A' L' c')) ∧ (w'.cell? ⟨w.heap.size, 0, none⟩ = some (.int .i64 m') ∧ w'.cell? ⟨w.heap.size, 1, none⟩ = some (.slice A L c)) ∧ Below W'.heap.size W' w') (first | exact box2_in C1.out C2.out (below_drew0 _) | exact box2_next C1.out C2.out (by assumption) (by assumption)) (first
            | (go_at_call 86; with_reducible refine Calls.mono (HG.out _) ?_; rintro e1 w4 ⟨rfl, hb5⟩) | (go_at_call 107; with_reducible refine Calls.mono (HF.out _) ?_; rintro e1 w4 ⟨rfl, hb5⟩))
          all_goals
            go_wp2
            rw [rounds_succ]
            go_wp2
            go_ret
            exact ⟨ret_int HC2.out.symm, HB'.out.trans ((box2_next C1.out C2.out (Below.refl _ _) (by assumption)).2.2.mono HB'.out.size)⟩
        · have HC2 : Hid (C = 2) := Lib.hid (by rw [HCD.out, if_neg (fun h => hd (by omega))])
          have hd2 : ¬ (d' : Int) = (d : Int) := by omega
          have hd3 : ((d' : Int) == (d : Int)) = false := by simpa using hd2
          clear HCD hd
          go_region_held3 (fun w' => (w'.cell? ⟨w2.heap.size, 0, none⟩ = some (.int .i64 m') ∧ w'.cell? ⟨w2.heap.size, 1, none⟩ = some (.slice A' L' c')) ∧ (w'.cell? ⟨w.heap.size, 0, none⟩ = some (.int .i64 m') ∧ w'.cell? ⟨w.heap.size, 1, none⟩ = some (.slice A L c)) ∧ Below W'.heap.size W' w') (first | exact box2_in C1.out C2.out (below_drew0 _) | exact box2_next C1.out C2.out (by assumption) (by assumption)) (first
            | (go_at_call 86; with_reducible refine Calls.mono (HG.out _) ?_; rintro e1 w4 ⟨rfl, hb5⟩) | (go_at_call 107; with_reducible refine Calls.mono (HF.out _) ?_; rintro e1 w4 ⟨rfl, hb5⟩))
          all_goals
            go_wp2
            go_ret
            exact ⟨ret_int HC2.out.symm, HB'.out.trans ((box2_next C1.out C2.out (Below.refl _ _) (by assumption)).2.2.mono HB'.out.size)⟩
      · have HC2 : Hid (C = 2) := Lib.hid (by rw [HCD.out, if_neg (fun h => hm h.1)])
        have hm3 : (m' == m) = false := by simpa using hm
        clear HCD
        go_region_held3 (fun w' => (w'.cell? ⟨w2.heap.size, 0, none⟩ = some (.int .i64 m') ∧ w'.cell? ⟨w2.heap.size, 1, none⟩ = some (.slice A' L' c')) ∧ (w'.cell? ⟨w.heap.size, 0, none⟩ = some (.int .i64 m) ∧ w'.cell? ⟨w.heap.size, 1, none⟩ = some (.slice A L c)) ∧ Below W'.heap.size W' w') (first | exact box2_in C1.out C2.out (below_drew0 _) | exact box2_next C1.out C2.out (by assumption) (by assumption)) (first
          | (go_at_call 86; with_reducible refine Calls.mono (HG.out _) ?_; rintro e1 w4 ⟨rfl, hb5⟩) | (go_at_call 107; with_reducible refine Calls.mono (HF.out _) ?_; rintro e1 w4 ⟨rfl, hb5⟩))
        all_goals
          go_wp2
          go_ret
          exact ⟨ret_int HC2.out.symm, HB'.out.trans ((box2_next C1.out C2.out (Below.refl _ _) (by assumption)).2.2.mono HB'.out.size)⟩
    · have h2' : isS m' l = false := by simpa using h2
      have HNO : Hid (C = 1) := Lib.hid (by rw [HCC.out, if_neg (fun h => h2 h.2)])
      rw [h1] at HIP
      rw [h2'] at HIS
      clear h1 h2 h2' HCC hr hr'
      go_enter Try.func182, Try.ntmps182
      go_wp2_with fail
      rw [HW.out]
      refine (HIP.out _ (Below.refl _ _)).mono ?_
      rintro e w1 ⟨rfl, hb1⟩
      obtain ⟨y1, y2, y3⟩ := HX.out.keep hb1
      go_wp2
      refine wp_loop_rounds 2 ?_
      rw [rounds_succ]
      go_wp2_with fail
      refine (HIS.out _ (below_alloc _ hb1)).mono ?_
      rintro e w2 ⟨rfl, hb2⟩
      have hb3 := (below_alloc (.cells #[.int .i64 m', .slice A' l.length c'] 28) hb1).trans (hb2.mono (by have := hb1.size; simp; omega))
      go_wp2
      go_ret
      exact ⟨ret_int HNO.out.symm, below_step HB.out hb3⟩
  · have h1' : isP m t = false := by simpa using h1
    have HNO : Hid (C = 1) := Lib.hid (by rw [HCC.out, if_neg (fun h => h1 h.1)])
    rw [h1'] at HIP
    clear h1 h1' HCC hr hr'
    go_enter Try.func182, Try.ntmps182
    go_wp2_with fail
    rw [HW.out]
    refine (HIP.out _ (Below.refl _ _)).mono ?_
    rintro e w1 ⟨rfl, hb1⟩
    go_wp2
    go_ret
    exact ⟨ret_int HNO.out.symm, below_step HB.out hb1⟩
end Go.Proofs.Ytpmbojbdppbkgaa

/- Lists of series that a call takes: where they lie; contracts of the codes of a plane and such a list, of the program and of the model. -/
namespace Go.Proofs.Ytpmbojbdppbkgaa
open Go.RowKit Go.WideShapes Go.ChangeShapes Go.ChangeAt

/-- block g holds series, one after the other: modulus, address, capacity, numbers -/
def SL (w : World) (g : Nat) (xs : List (Int × Option Addr × Nat × List Int)) : Prop :=
  g < w.heap.size ∧ ∀ k m A c l, xs[k]? = some (m, A, c, l) → w.cell? ⟨g, k * 2, none⟩ = some (.int .i64 m) ∧ w.cell? ⟨g, k * 2 + 1, none⟩ = some (.slice A l.length c) ∧ RI w A l ∧ l.length ≤ 1048576
theorem SL.keep {w w' : World} {g : Nat} {xs : List (Int × Option Addr × Nat × List Int)} (h : SL w g xs) (hb : Below w.heap.size w w') : SL w' g xs :=
  ⟨Nat.lt_of_lt_of_le h.1 hb.size, fun k m A c l hx => by
    obtain ⟨a, b, r, z⟩ := h.2 k m A c l hx
    exact ⟨(hb.cell (p := ⟨g, k * 2, none⟩) h.1).trans a, (hb.cell (p := ⟨g, k * 2 + 1, none⟩) h.1).trans b, r.below hb, z⟩⟩
theorem SL.one {w : World} {g : Nat} {m : Int} {A : Option Addr} {c : Nat} {l : List Int} (hx : Box w g m A l.length c) (hr : RI w A l) (hl : l.length ≤ 1048576) : SL w g [(m, A, c, l)] :=
  ⟨hx.2.2, fun k m' A' c' l' h => by
    match k, h with
    | 0, h =>
      simp at h
      obtain ⟨rfl, rfl, rfl, rfl⟩ := h
      exact ⟨hx.1, hx.2.1, hr, hl⟩⟩
theorem SL.two {w : World} {g : Nat} {m : Int} {A : Option Addr} {c : Nat} {l : List Int} {m' : Int} {A' : Option Addr} {c' : Nat} {l' : List Int} (hx : Box4 w g m A l.length c m' A' l'.length c') (hr : RI w A l) (hr' : RI w A' l') (hl : l.length ≤ 1048576) (hl' : l'.length ≤ 1048576) :
    SL w g [(m, A, c, l), (m', A', c', l')] :=
  ⟨hx.1.2.2, fun k m0 A0 c0 l0 h => by
    match k, h with
    | 0, h =>
      simp at h
      obtain ⟨rfl, rfl, rfl, rfl⟩ := h
      exact ⟨hx.1.1, hx.1.2.1, hr, hl⟩
    | 1, h =>
      simp at h
      obtain ⟨rfl, rfl, rfl, rfl⟩ := h
      exact ⟨hx.2.1, hx.2.2, hr', hl'⟩⟩
def allS (xs : List (Int × Option Addr × Nat × List Int)) : Bool := xs.all fun x => isS x.1 x.2.2.2
def alkS (m : Int) (n : Nat) (xs : List (Int × Option Addr × Nat × List Int)) : Bool := xs.all fun x => decide (x.1 = m ∧ x.2.2.2.length = n)
def curS (xs : List (Int × Option Addr × Nat × List Int)) : Bool := xs.all fun x => isC x.1 x.2.2.2
/-- the code of something (ok: it is what it should be) and a list of series -/
def codeL (ok : Bool) (m : Int) (n : Nat) (xs : List (Int × Option Addr × Nat × List Int)) : Int := if ok = true ∧ allS xs = true then (if alkS m n xs = true then 0 else 2) else 1
theorem and_t {a b : Bool} (h : a = true) (k : b = true) : (a && b) = true := by rw [h, k]; rfl
theorem all_take {α : Type} (f : α → Bool) (xs : List α) (k : Nat) (x : α) (h : xs[k]? = some x) : (xs.take (k + 1)).all f = ((xs.take k).all f && f x) := by
  have hk := (List.getElem?_eq_some_iff.1 h).1
  rw [List.take_add_one, h, List.all_append]; simp
theorem all_bad {α : Type} (f : α → Bool) (xs : List α) (k : Nat) (x : α) (h : xs[k]? = some x) (hf : f x = false) : xs.all f = false := by
  rw [List.all_eq_false]
  exact ⟨x, List.mem_of_getElem? h, by simp [hf]⟩
theorem all_whole {α : Type} (f : α → Bool) (xs : List α) (k : Nat) (h : xs.length ≤ k) : (xs.take k).all f = xs.all f := by rw [List.take_of_length_le h]
theorem all_isS {xs : List (Int × Option Addr × Nat × List Int)} (h : allS xs = true) {k : Nat} {m : Int} {A : Option Addr} {c : Nat} {l : List Int} (hx : xs[k]? = some (m, A, c, l)) : isS m l = true :=
  (List.all_eq_true.1 h) _ (List.mem_of_getElem? hx)
set_option maxHeartbeats 8000000 in
set_option maxRecDepth 100000 in
theorem codePL_any (g : Nat) (m : Int) (A : Option Addr) (c : Nat) (t : List (List Int)) (xs : List (Int × Option Addr × Nat × List Int)) (w : World) (hz : szT t ≤ 1048576) (hr : RP w A t) (hx : SL w g xs) (hn : xs.length ≤ 1000) :
    Calls Try.prog 182 #[.agg #[.int .i64 m, .slice A t.length c], .slice (some ⟨g, 0, none⟩) xs.length xs.length] w fun e w' => e = .returned (.int .i64 (codeL (isP m t) m t.length xs)) ∧ Below w.heap.size w w' := by
  obtain ⟨W, hW, b1, hwb⟩ := start1 31 w m A t.length c
  have HX := Lib.hid (hx.keep hwb)
  have B1 := Lib.hid b1
  have HB := Lib.hid hwb
  have HW := Lib.hid hW
  have HIP := Lib.hid (fun W0 (h : Below W.heap.size W W0) => IsPlane_any m A c t W0 hz ((hr.below hwb).below h))
  have HG := Lib.hid (fun W0 d (h1 : t.length = d + 1) (h2 : d ≤ 10) => gridOf_nat m A t.length c d W0 h1 (by omega))
  have hfd := field_frame
  obtain ⟨C, hC⟩ : ∃ C, codeL (isP m t) m t.length xs = C := ⟨_, rfl⟩
  have HC := Lib.hid hC
  rw [hC]
  obtain ⟨n, hxn⟩ : ∃ n, xs.length = n := ⟨_, rfl⟩
  have HN := Lib.hid hxn
  rw [hxn] at hn ⊢
  have HLT := Lib.hid (fun k (hk : k < n) => (by
    obtain ⟨⟨m', A', c', l'⟩, hx⟩ : ∃ x, xs[k]? = some x := ⟨_, List.getElem?_eq_getElem (by omega)⟩
    exact ⟨m', A', c', l', hx⟩ : ∃ m' A' c' l', xs[k]? = some (m', A', c', l')))
  have HPL := Lib.hid (fun (h : isP m t = true) => plOk_of h)
  obtain ⟨b, hb⟩ : ∃ b, isP m t = b := ⟨_, rfl⟩
  rw [hb] at HIP HC HPL
  obtain ⟨L, hL⟩ : ∃ L, t.length = L := ⟨_, rfl⟩
  rw [hL] at HIP HG B1 HW HC HPL ⊢
  clear hC hx hwb hW b1 hxn hr hz hb hL
  cases b with
  | false =>
    have HNO : Hid (C = 1) := Lib.hid (by rw [← HC.out]; unfold codeL; rw [if_neg (fun h => absurd h.1 (by decide))])
    go_enter Try.func182, Try.ntmps182
    go_wp2_with fail
    rw [HW.out]
    refine (HIP.out _ (Below.refl _ _)).mono ?_
    rintro e w1 ⟨rfl, hb1⟩
    go_wp2
    go_ret
    exact ⟨ret_int HNO.out.symm, below_step HB.out hb1⟩
  | true =>
    go_enter Try.func182, Try.ntmps182
    go_wp2_with fail
    rw [HW.out]
    refine (HIP.out _ (Below.refl _ _)).mono ?_
    rintro e w1 ⟨rfl, hb1⟩
    have HB1 := Lib.hid hb1
    clear hb1
    go_wp2
    go_loopw [14] (fun i wr => ∃ k : Nat, k ≤ n ∧ i = .int .i64 k ∧ allS (xs.take k) = true ∧ Below W.heap.size W wr) (fun i _ => n - (intOf i).toNat)
    case atStart => exact ⟨0, Nat.zero_le _, rfl, rfl, HB1.out⟩
    case round =>
      obtain ⟨k, hk, rfl, hall, hbel⟩ := hrel
      have HA := Lib.hid hall
      have HBE := Lib.hid hbel
      clear hall
      by_cases hlt : k < n
      · obtain ⟨m', A', c', l', hxk⟩ := HLT.out k hlt
        obtain ⟨x1, x2, x3, x4⟩ := (HX.out.keep hbel).2 k m' A' c' l' hxk
        have HXK := Lib.hid hxk
        have HIS := Lib.hid (fun W0 (h : Below wr.heap.size wr W0) => IsSeries_any m' A' c' l' W0 (by omega) (x3.below h))
        obtain ⟨L', hL'⟩ : ∃ L, l'.length = L := ⟨_, rfl⟩
        obtain ⟨b', hb'⟩ : ∃ b, isS m' l' = b := ⟨_, rfl⟩
        have HBB := Lib.hid hb'
        rw [hL', hb'] at HIS
        rw [hL'] at x2
        have j0 : (0 : Int) ≤ (k : Int) := by omega
        have j1 : (k : Int) < (n : Int) := by omega
        clear hbel hxk x3 x4 hL' hb'
        cases b' with
        | true =>
          have HOK := Lib.hid (show allS (xs.take (k + 1)) = true by unfold allS; rw [all_take _ _ _ _ HXK.out]; exact and_t HA.out HBB.out)
          go_wp2_with fail
          refine (HIS.out _ (below_one _ _)).mono ?_
          rintro e w2 ⟨rfl, hb2⟩
          have HB2 := Lib.hid (below_step (below_alloc (.cells #[.int .i64 m', .slice A' L' c'] 28) HBE.out) hb2)
          clear hb2 x1 x2
          go_wp2
          go_roundw
          case rel => exact ⟨k + 1, by omega, by go_num, HOK.out, HB2.out⟩
          case measure => simp only [intOf]; omega
        | false =>
          have HNO : Hid (C = 1) := Lib.hid (by rw [← HC.out]; unfold codeL; rw [if_neg (fun h => absurd h.2 (by unfold allS; rw [all_bad _ _ _ _ HXK.out HBB.out]; decide))])
          go_wp2_with fail
          refine (HIS.out _ (below_one _ _)).mono ?_
          rintro e w2 ⟨rfl, hb2⟩
          have HB2 := Lib.hid (below_step (below_alloc (.cells #[.int .i64 m', .slice A' L' c'] 28) HBE.out) hb2)
          clear hb2 x1 x2
          go_wp2
          go_ret
          exact ⟨ret_int HNO.out.symm, below_step HB.out HB2.out⟩
      · obtain rfl : k = n := by omega
        have HAL := Lib.hid (show allS xs = true by have := HA.out; rwa [List.take_of_length_le (by have := HN.out; omega)] at this)
        clear HA hbel
        go_wp2
        go_loopw [24] (fun i wr => ∃ j : Nat, j ≤ k ∧ i = .int .i64 j ∧ alkS m L (xs.take j) = true ∧ Below W.heap.size W wr) (fun i _ => k - (intOf i).toNat)
        case atStart => exact ⟨0, Nat.zero_le _, rfl, rfl, HBE.out⟩
        case round =>
          clear HBE
          obtain ⟨j, hj, rfl, hall, hbel⟩ := hrel
          have HA := Lib.hid hall
          have HBE := Lib.hid hbel
          clear hall
          by_cases hlt : j < k
          · obtain ⟨m', A', c', l', hxk⟩ := HLT.out j hlt
            obtain ⟨x1, x2, x3, x4⟩ := (HX.out.keep hbel).2 j m' A' c' l' hxk
            have HXK := Lib.hid hxk
            obtain ⟨d', e2, ok'⟩ := serOk_of (all_isS HAL.out hxk)
            obtain ⟨d, e1, ok⟩ := HPL.out (by first | exact rfl | trivial)
            have HF := Lib.hid (fun W0 => frameOfSeries_any m' A' l'.length c' d' W0 e2 (by have := ok'.d2; omega))
            have HGG := Lib.hid (fun W0 => HG.out W0 d e1 ok.d2)
            have HCM : Hid (∀ b : Bool, (decide (m' = m ∧ d' = d) = b) → decide (m' = m ∧ l'.length = L) = b) := Lib.hid (by
              intro b hb
              rw [← hb]
              exact decide_eq_decide.2 ⟨fun h => ⟨h.1, by omega⟩, fun h => ⟨h.1, by omega⟩⟩)
            obtain ⟨L', hL'⟩ : ∃ L, l'.length = L := ⟨_, rfl⟩
            rw [hL'] at x2 HF HCM
            obtain ⟨x5, x6, -⟩ := B1.out.keep hbel
            obtain ⟨W', hW', b1, b2, hwb⟩ := var_inT (T := 28) (m' := m') (A' := A') (n' := L') (c' := c') B1.out hbel
            have HW' := Lib.hid hW'
            have C1 := Lib.hid b1
            have C2 := Lib.hid b2
            have HB' := Lib.hid hwb
            have j0 : (0 : Int) ≤ (j : Int) := by omega
            have j1 : (j : Int) < (k : Int) := by omega
            have HL2 := Lib.hid hL'
            clear hbel hxk x3 x4 hL' ok ok' e1 e2 hW' b1 b2 hwb x5 x6
            go_wp2
            rw [HW'.out]
            clear x1 x2
            by_cases hm : m' = m
            · subst hm
              by_cases hd : d' = d
              · subst hd
                have HOK := Lib.hid (show alkS m' L (xs.take (j + 1)) = true by unfold alkS; rw [all_take _ _ _ _ HXK.out]; exact and_t HA.out (by show decide (m' = m' ∧ l'.length = L) = true; rw [HL2.out]; exact HCM.out _ (decide_eq_true ⟨rfl, rfl⟩)))
                clear HCM
                go_region_held3 (fun w' => (w'.cell? ⟨wr.heap.size, 0, none⟩ = some (.int .i64 m') ∧ w'.cell? ⟨wr.heap.size, 1, none⟩ = some (.slice A' L' c')) ∧ (w'.cell? ⟨w.heap.size, 0, none⟩ = some (.int .i64 m') ∧ w'.cell? ⟨w.heap.size, 1, none⟩ = some (.slice A L c)) ∧ Below W'.heap.size W' w') (first | exact box2_in C1.out C2.out (below_drew0 _) | exact box2_next C1.out C2.out (by assumption) (by assumption)) (first
                  | (go_at_call 86; with_reducible refine Calls.mono (HGG.out _) ?_; rintro e1 w4 ⟨rfl, hb5⟩) | (go_at_call 107; with_reducible refine Calls.mono (HF.out _) ?_; rintro e1 w4 ⟨rfl, hb5⟩))
                all_goals
                  have HB9 := Lib.hid (HB'.out.trans ((box2_next C1.out C2.out (Below.refl _ _) (by assumption)).2.2.mono HB'.out.size))
                  go_wp2
                  go_roundw
                  case rel => exact ⟨j + 1, by omega, by go_num, HOK.out, HB9.out⟩
                  case measure => simp only [intOf]; omega
              · have HC2 : Hid (C = 2) := Lib.hid (by
                  rw [← HC.out]
                  unfold codeL
                  rw [if_pos ⟨rfl, HAL.out⟩, if_neg]
                  unfold alkS
                  rw [all_bad _ _ _ _ HXK.out (by show decide (m' = m' ∧ l'.length = L) = false; rw [HL2.out]; exact HCM.out _ (decide_eq_false (fun h => hd h.2)))]
                  decide)
                have hd2 : ¬ (d' : Int) = (d : Int) := by omega
                have hd3 : ((d' : Int) == (d : Int)) = false := by simpa using hd2
                clear HCM hd
                go_region_held3 (fun w' => (w'.cell? ⟨wr.heap.size, 0, none⟩ = some (.int .i64 m') ∧ w'.cell? ⟨wr.heap.size, 1, none⟩ = some (.slice A' L' c')) ∧ (w'.cell? ⟨w.heap.size, 0, none⟩ = some (.int .i64 m') ∧ w'.cell? ⟨w.heap.size, 1, none⟩ = some (.slice A L c)) ∧ Below W'.heap.size W' w') (first | exact box2_in C1.out C2.out (below_drew0 _) | exact box2_next C1.out C2.out (by assumption) (by assumption)) (first
                  | (go_at_call 86; with_reducible refine Calls.mono (HGG.out _) ?_; rintro e1 w4 ⟨rfl, hb5⟩) | (go_at_call 107; with_reducible refine Calls.mono (HF.out _) ?_; rintro e1 w4 ⟨rfl, hb5⟩))
                all_goals
                  have HB9 := Lib.hid (HB'.out.trans ((box2_next C1.out C2.out (Below.refl _ _) (by assumption)).2.2.mono HB'.out.size))
                  go_wp2
                  go_ret
                  exact ⟨ret_int HC2.out.symm, below_step HB.out HB9.out⟩
            · have HC2 : Hid (C = 2) := Lib.hid (by
                rw [← HC.out]
                unfold codeL
                rw [if_pos ⟨rfl, HAL.out⟩, if_neg]
                unfold alkS
                rw [all_bad _ _ _ _ HXK.out (by show decide (m' = m ∧ l'.length = L) = false; rw [HL2.out]; exact HCM.out _ (decide_eq_false (fun h => hm h.1)))]
                decide)
              have hm3 : (m' == m) = false := by simpa using hm
              clear HCM
              go_region_held3 (fun w' => (w'.cell? ⟨wr.heap.size, 0, none⟩ = some (.int .i64 m') ∧ w'.cell? ⟨wr.heap.size, 1, none⟩ = some (.slice A' L' c')) ∧ (w'.cell? ⟨w.heap.size, 0, none⟩ = some (.int .i64 m) ∧ w'.cell? ⟨w.heap.size, 1, none⟩ = some (.slice A L c)) ∧ Below W'.heap.size W' w') (first | exact box2_in C1.out C2.out (below_drew0 _) | exact box2_next C1.out C2.out (by assumption) (by assumption)) (first
                | (go_at_call 86; with_reducible refine Calls.mono (HGG.out _) ?_; rintro e1 w4 ⟨rfl, hb5⟩) | (go_at_call 107; with_reducible refine Calls.mono (HF.out _) ?_; rintro e1 w4 ⟨rfl, hb5⟩))
              all_goals
                have HB9 := Lib.hid (HB'.out.trans ((box2_next C1.out C2.out (Below.refl _ _) (by assumption)).2.2.mono HB'.out.size))
                go_wp2
                go_ret
                exact ⟨ret_int HC2.out.symm, below_step HB.out HB9.out⟩
          · obtain rfl : j = k := by omega
            have HC2 : Hid (C = 0) := Lib.hid (by
              rw [← HC.out]
              unfold codeL
              rw [if_pos ⟨rfl, HAL.out⟩, if_pos]
              have := HA.out
              rwa [List.take_of_length_le (by have := HN.out; omega)] at this)
            clear hbel
            go_wp2
            go_ret
            exact ⟨ret_int HC2.out.symm, below_step HB.out HBE.out⟩
/-- with the look at curves behind it -/
def codeLC (ok : Bool) (m : Int) (n : Nat) (xs : List (Int × Option Addr × Nat × List Int)) : Int := if codeL ok m n xs = 0 then (if curS xs = true then 0 else 5) else codeL ok m n xs
set_option maxHeartbeats 8000000 in
set_option maxRecDepth 100000 in
theorem codePCL_any (g : Nat) (m : Int) (A : Option Addr) (c : Nat) (t : List (List Int)) (xs : List (Int × Option Addr × Nat × List Int)) (w : World) (hz : szT t ≤ 1048576) (hr : RP w A t) (hx : SL w g xs) (hn : xs.length ≤ 1000) :
    Calls Try.prog 161 #[.agg #[.int .i64 m, .slice A t.length c], .slice (some ⟨g, 0, none⟩) xs.length xs.length] w fun e w' => e = .returned (.int .i64 (codeLC (isP m t) m t.length xs)) ∧ Below w.heap.size w w' := by
  obtain ⟨W, hW, b1, hwb⟩ := start1 31 w m A t.length c
  have HX := Lib.hid (hx.keep hwb)
  have HB := Lib.hid hwb
  have HW := Lib.hid hW
  have HCO := Lib.hid (codePL_any g m A c t xs W hz (hr.below hwb) (hx.keep hwb) hn)
  obtain ⟨C, hC⟩ : ∃ C, codeLC (isP m t) m t.length xs = C := ⟨_, rfl⟩
  have HC := Lib.hid hC
  rw [hC]
  unfold codeLC at HC
  obtain ⟨K, hK⟩ : ∃ K, codeL (isP m t) m t.length xs = K := ⟨_, rfl⟩
  rw [hK] at HC HCO
  obtain ⟨n, hxn⟩ : ∃ n, xs.length = n := ⟨_, rfl⟩
  have HN := Lib.hid hxn
  rw [hxn] at hn HCO ⊢
  have HLT := Lib.hid (fun k (hk : k < n) => (by
    obtain ⟨⟨m', A', c', l'⟩, hx⟩ : ∃ x, xs[k]? = some x := ⟨_, List.getElem?_eq_getElem (by omega)⟩
    exact ⟨m', A', c', l', hx⟩ : ∃ m' A' c' l', xs[k]? = some (m', A', c', l')))
  obtain ⟨L, hL⟩ : ∃ L, t.length = L := ⟨_, rfl⟩
  rw [hL] at HCO HW ⊢
  clear hC hK hx hwb hW b1 hxn hr hz hL
  by_cases h0 : K = 0
  · subst h0
    have HC' : Hid ((if curS xs = true then (0 : Int) else 5) = C) := Lib.hid (by have := HC.out; rwa [if_pos rfl] at this)
    clear HC
    go_enter Try.func161, Try.ntmps161
    go_wp2_with fail
    rw [HW.out]
    refine HCO.out.mono ?_
    rintro e w1 ⟨rfl, hb1⟩
    have HB1 := Lib.hid hb1
    clear hb1
    go_wp2
    go_loopw [16] (fun i wr => ∃ k : Nat, k ≤ n ∧ i = .int .i64 k ∧ curS (xs.take k) = true ∧ Below W.heap.size W wr) (fun i _ => n - (intOf i).toNat)
    case atStart => exact ⟨0, Nat.zero_le _, rfl, rfl, HB1.out⟩
    case round =>
      obtain ⟨k, hk, rfl, hall, hbel⟩ := hrel
      have HA := Lib.hid hall
      have HBE := Lib.hid hbel
      clear hall
      by_cases hlt : k < n
      · obtain ⟨m', A', c', l', hxk⟩ := HLT.out k hlt
        obtain ⟨x1, x2, x3, x4⟩ := (HX.out.keep hbel).2 k m' A' c' l' hxk
        have HXK := Lib.hid hxk
        have HIS := Lib.hid (fun W0 (h : Below wr.heap.size wr W0) => IsCurve_any m' A' c' l' W0 (by omega) (x3.below h))
        obtain ⟨L', hL'⟩ : ∃ L, l'.length = L := ⟨_, rfl⟩
        obtain ⟨b', hb'⟩ : ∃ b, isC m' l' = b := ⟨_, rfl⟩
        have HBB := Lib.hid hb'
        rw [hL', hb'] at HIS
        rw [hL'] at x2
        have j0 : (0 : Int) ≤ (k : Int) := by omega
        have j1 : (k : Int) < (n : Int) := by omega
        clear hbel hxk x3 x4 hL' hb'
        cases b' with
        | true =>
          have HOK := Lib.hid (show curS (xs.take (k + 1)) = true by unfold curS; rw [all_take _ _ _ _ HXK.out]; exact and_t HA.out HBB.out)
          go_wp2_with fail
          refine (HIS.out _ (below_one _ _)).mono ?_
          rintro e w2 ⟨rfl, hb2⟩
          have HB2 := Lib.hid (below_step (below_alloc (.cells #[.int .i64 m', .slice A' L' c'] 28) HBE.out) hb2)
          clear hb2 x1 x2
          go_wp2
          go_roundw
          case rel => exact ⟨k + 1, by omega, by go_num, HOK.out, HB2.out⟩
          case measure => simp only [intOf]; omega
        | false =>
          have HNO : Hid (C = 5) := Lib.hid (by rw [← HC'.out]; rw [if_neg]; unfold curS; rw [all_bad _ _ _ _ HXK.out HBB.out]; decide)
          go_wp2_with fail
          refine (HIS.out _ (below_one _ _)).mono ?_
          rintro e w2 ⟨rfl, hb2⟩
          have HB2 := Lib.hid (below_step (below_alloc (.cells #[.int .i64 m', .slice A' L' c'] 28) HBE.out) hb2)
          clear hb2 x1 x2
          go_wp2
          go_ret
          exact ⟨ret_int HNO.out.symm, below_step HB.out HB2.out⟩
      · obtain rfl : k = n := by omega
        have HYES : Hid (C = 0) := Lib.hid (by
          rw [← HC'.out, if_pos]
          have := HA.out
          rwa [List.take_of_length_le (by have := HN.out; omega)] at this)
        clear HA hbel
        go_wp2
        go_ret
        exact ⟨ret_int HYES.out.symm, below_step HB.out HBE.out⟩
  · have HNO : Hid (C = K) := Lib.hid (by have := HC.out; rw [if_neg h0] at this; exact this.symm)
    obtain ⟨n1, n2⟩ := ne_facts h0
    clear HC
    go_enter Try.func161, Try.ntmps161
    go_wp2_with fail
    rw [HW.out]
    refine HCO.out.mono ?_
    rintro e w1 ⟨rfl, hb1⟩
    go_wp2
    go_ret
    exact ⟨ret_int HNO.out.symm, below_step HB.out hb1⟩
end Go.Proofs.Ytpmbojbdppbkgaa

/- Contracts of the model's sums, multiples and remainders of rows, which may have one number alone. -/
namespace Go.Proofs.Ytpmbojbdppbkgaa
open Go.RowKit Go.WideShapes Go.ChangeShapes Go.ChangeAt

/-- a row of d + 1 numbers modulo m -/
structure RowOk (m : Int) (d : Nat) (l : List Int) : Prop where
  m1 : 2 ≤ m
  m2 : m ≤ 10000
  d2 : d ≤ 10
  len : l.length = d + 1
  red : Ser.Red m l
theorem Pl.Ok.rowOk {m : Int} {d : Nat} {t : List (List Int)} (h : Pl.Ok m d t) (i : Nat) (hi : i ≤ d) : RowOk m (d - i) (Pl.rw' t i) := ⟨h.m1, h.m2, by have := h.d2; omega, h.row i hi, h.red i⟩
def addR (m : Int) (d : Nat) (l l' : List Int) : List Int := Ser.cut m d fun n => Ser.co l n + Ser.co l' n
def scaR (m : Int) (d : Nat) (l : List Int) (k : Int) : List Int := Ser.cut m d fun n => Ser.co l n * k
theorem mul_bdR {x y : Int} (h1 : 0 ≤ x) (h2 : x ≤ 10000) (h3 : -10000 ≤ y) (h4 : y ≤ 10000) : -100000000 ≤ x * y ∧ x * y ≤ 100000000 := by
  constructor
  · have := Int.mul_le_mul_of_nonneg_left (c := x) h3 h1
    have e : x * -10000 = -(x * 10000) := Int.mul_neg _ _
    omega
  · have := Int.mul_le_mul_of_nonneg_left (c := x) h4 h1
    omega
theorem wrap_remR {x m : Int} (h1 : 0 ≤ x) (h2 : x ≤ 1000000000000000) : (IntKind.i64.wrap x).tmod m = x % m := by
  have : IntKind.i64.wrap x = x := by rw [IntKind.wrap_i64]; omega
  rw [this, Int.tmod_eq_emod_of_nonneg h1]

set_option maxHeartbeats 2000000 in
set_option maxRecDepth 100000 in
theorem l02AddR_any (m : Int) (d : Nat) (A : Option Addr) (c : Nat) (l : List Int) (A' : Option Addr) (c' : Nat) (l' : List Int) (w : World) (hs : RowOk m d l) (hs' : RowOk m d l') (hr : RI w A l) (hr' : RI w A' l') :
    Calls Try.prog 130 #[.int .i64 m, .slice A l.length c, .slice A' l'.length c'] w fun e w' => ∃ v, e = .returned v ∧ OwnI w' w.heap.size v (addR m d l l') ∧ Below w.heap.size w w' := by
  have HS := Lib.hid hs
  have HS' := Lib.hid hs'
  have HR := Lib.hid hr
  have HR' := Lib.hid hr'
  have hm1 := hs.m1
  have hm2 := hs.m2
  have hd := hs.d2
  have hm0 : ¬ m = 0 := by omega
  have hll : l.length ≤ 11 := by have := hs.len; omega
  have hll' : l'.length ≤ 11 := by have := hs'.len; omega
  have E1 := Lib.hid hs.len
  have E2 := Lib.hid hs'.len
  clear hs hs' hr hr'
  go_enter Try.func130, Try.ntmps130
  go_wp2
  go_loopw [7, 8] (fun r i wr => ∃ k : Nat, k ≤ l.length ∧ i = .int .i64 k ∧ OwnI wr w.heap.size r ((addR m d l l').take k) ∧ Below w.heap.size w wr) (fun _ i _ => l.length - (intOf i).toNat)
  case atStart => exact ⟨0, Nat.zero_le _, rfl, OwnI.empty _, below_one _ _⟩
  case round =>
    obtain ⟨k, hk, rfl, hown, hbel⟩ := hrel
    have HB := Lib.hid hbel
    have HO := Lib.hid hown
    have hsz := hbel.size
    clear hown hbel
    by_cases hlt : k < l.length
    · obtain ⟨b, off, rfl, hb, hc⟩ := HR.out.at k hlt
      obtain ⟨b', off', rfl, hb', hc'⟩ := HR'.out.at k (by rw [E2.out, ← E1.out]; exact hlt)
      have c1 := (HB.out.cell (p := ⟨b, off + k, none⟩) hb).trans hc
      have c2 := (HB.out.cell (p := ⟨b', off' + k, none⟩) hb').trans hc'
      have r1 := HS.out.red k
      have r2 := HS'.out.red k
      have hst : (addR m d l l').take (k + 1) = (addR m d l l').take k ++ [(Ser.co l k + Ser.co l' k) % m] := Ser.cut_take_succ _ _ _ _ (by have := E1.out; omega)
      obtain ⟨X, hX⟩ : ∃ X, Ser.co l k = X := ⟨_, rfl⟩
      obtain ⟨Y, hY⟩ : ∃ Y, Ser.co l' k = Y := ⟨_, rfl⟩
      rw [hX] at hc c1 r1
      rw [hY] at hc' c2 r2
      rw [hX, hY] at hst
      have HST := Lib.hid hst
      have C1 := Lib.hid hc
      have C2 := Lib.hid hc'
      have j0 : (0 : Int) ≤ (k : Int) := by omega
      have j1 : (k : Int) < (l.length : Int) := by omega
      have j2 : (k : Int) < (l'.length : Int) := by have := E1.out; have := E2.out; omega
      obtain ⟨r1, r3⟩ := r1
      obtain ⟨r2, r4⟩ := r2
      have HQ := Lib.hid (wrap_remR (x := X + Y) (m := m) (by omega) (by omega))
      clear hX hY hst hc hc'
      go_wp2
      go_region_held3 (fun w' => w'.cell? ⟨b, off + k, none⟩ = some (.int .i64 X) ∧ w'.cell? ⟨b', off' + k, none⟩ = some (.int .i64 Y) ∧ ¬ m = 0) (first | exact ⟨((((HB.out.alloc hsz _).drew).trans hpb).cell hb).trans C1.out, ((((HB.out.alloc hsz _).drew).trans hpb).cell hb').trans C2.out, hm0⟩ | exact ⟨c1, c2, hm0⟩ | go_keep) ((refine step_push _ _ _ (by rfl) (by rfl) Try.underlying26 w.heap.size _ _ (by rfl) ((HO.out.alloc _).drew) wr.heap.size ((X + Y) % m) (by rfl) (by simp; exact HQ.out) (by have := take_cut_len m d (fun n => Ser.co l n + Ser.co l' n) k; unfold addR; omega) (by simp; omega) ?_; intro v' w1 ho1 hpb))
      all_goals
        have hb1 := (((HB.out.alloc hsz _).drew).trans hpb)
        have HB1 := Lib.hid hb1
        have HO1 := Lib.hid ho1
        clear hb1 ho1 hpb
        go_wp2
        go_roundw
        case rel => exact ⟨k + 1, by omega, by go_num, by rw [HST.out]; exact HO1.out, HB1.out⟩
        case measure => simp only [intOf]; omega
    · obtain rfl : k = l.length := by omega
      have ho := HO.out
      rw [List.take_of_length_le (by unfold addR; rw [Ser.cut_length, E1.out]; exact Nat.le_refl _)] at ho
      have HF := Lib.hid ho
      clear ho
      go_wp2
      go_ret
      exact ⟨_, rfl, HF.out, HB.out⟩

set_option maxHeartbeats 2000000 in
theorem l02ScaleR_any (m : Int) (d : Nat) (k : Int) (A : Option Addr) (c : Nat) (l : List Int) (w : World) (hs : RowOk m d l) (hr : RI w A l) (k1 : 0 ≤ k) (k2 : k < m) :
    Calls Try.prog 113 #[.int .i64 m, .int .i64 k, .slice A l.length c] w fun e w' => ∃ v, e = .returned v ∧ OwnI w' w.heap.size v (scaR m d l k) ∧ Below w.heap.size w w' := by
  have HS := Lib.hid hs
  have HR := Lib.hid hr
  have hm1 := hs.m1
  have hm2 := hs.m2
  have hd := hs.d2
  have hm0 : ¬ m = 0 := by omega
  have hll : l.length ≤ 11 := by have := hs.len; omega
  have E1 := Lib.hid hs.len
  clear hs hr
  go_enter Try.func113, Try.ntmps113
  go_wp2
  go_loopw [7, 8] (fun r i wr => ∃ j : Nat, j ≤ l.length ∧ i = .int .i64 j ∧ OwnI wr w.heap.size r ((scaR m d l k).take j) ∧ Below w.heap.size w wr) (fun _ i _ => l.length - (intOf i).toNat)
  case atStart => exact ⟨0, Nat.zero_le _, rfl, OwnI.empty _, below_one _ _⟩
  case round =>
    obtain ⟨j, hj, rfl, hown, hbel⟩ := hrel
    have HB := Lib.hid hbel
    have HO := Lib.hid hown
    have hsz := hbel.size
    have hlk := take_cut_len m d (fun n => Ser.co l n * k) j
    clear hown hbel
    by_cases hlt : j < l.length
    · obtain ⟨b, off, rfl, hb, hc⟩ := HR.out.at j hlt
      have c1 := (HB.out.cell (p := ⟨b, off + j, none⟩) hb).trans hc
      obtain ⟨r1, r2⟩ := HS.out.red j
      have hst : (scaR m d l k).take (j + 1) = (scaR m d l k).take j ++ [Ser.co l j * k % m] := Ser.cut_take_succ _ _ _ _ (by have := E1.out; omega)
      obtain ⟨X, hX⟩ : ∃ X, Ser.co l j = X := ⟨_, rfl⟩
      rw [hX] at c1 r1 r2 hst
      have p1 := Int.mul_nonneg k1 r1
      have p2 := (mul_bdR (x := k) (y := X) k1 (by omega) (by omega) (by omega)).2
      have he : X * k = k * X := Int.mul_comm _ _
      rw [he] at hst
      have j0 : (0 : Int) ≤ (j : Int) := by omega
      have j1 : (j : Int) < (l.length : Int) := by omega
      have HST := Lib.hid hst
      clear hX hst hc he
      go_wp2_with (at_builtin; refine wp_push _ _ _ (by rfl) (by rfl) Try.underlying26 w.heap.size _ _ (by rfl) HO.out (k * X % m) (by rfl) (by unfold scaR; omega) hsz ?_; intro v' w1 ho1 hpb)
      have HP := Lib.hid (HB.out.trans hpb)
      have HQ := Lib.hid ho1
      clear hpb ho1
      go_wp2
      go_roundw
      case rel => exact ⟨j + 1, by omega, by go_num, by rw [HST.out]; exact HQ.out, HP.out⟩
      case measure => simp only [intOf]; omega
    · obtain rfl : j = l.length := by omega
      have ho := HO.out
      rw [List.take_of_length_le (by unfold scaR; rw [Ser.cut_length, E1.out]; exact Nat.le_refl _)] at ho
      have HF := Lib.hid ho
      clear ho
      go_wp2
      go_ret
      exact ⟨_, rfl, HF.out, HB.out⟩

end Go.Proofs.Ytpmbojbdppbkgaa

/- Contract of the model's product of lists. -/
namespace Go.Proofs.Ytpmbojbdppbkgaa
open Go.RowKit Go.WideShapes Go.ChangeShapes Go.ChangeAt

theorem timS_red {m : Int} (hm : 0 < m) (d : Nat) (a b : Nat → Int) (i : Nat) : Ser.Red m (Ser.timS m d a b i) := Ser.cut_red hm _ _
theorem timP_red {m : Int} (hm : 0 < m) (d : Nat) (a b : Nat → Int) (i k : Nat) : Ser.Red m (Ser.timP m d a b i k) := Ser.cut_red hm _ _

theorem timP_null (m : Int) (d : Nat) (a b : Nat → Int) (i k : Nat) (h : a i = 0) : Ser.timP m d a b i k = Ser.timS m d a b (i + 1) := by
  unfold Ser.timP Ser.timS
  refine Ser.cut_congr (Ser.Eq.of m d (fun n hn => ?_))
  rw [Ser.psum]
  unfold Ser.tr
  rw [h]
  simp
set_option maxHeartbeats 8000000 in
set_option maxRecDepth 100000 in
theorem l02Times_any (m : Int) (D : Nat) (A : Option Addr) (c : Nat) (l : List Int) (A' : Option Addr) (c' : Nat) (l' : List Int) (w : World) (m1 : 2 ≤ m) (m2 : m ≤ 10000) (hD : D ≤ 1000) (hl : l.length ≤ 1000) (hl' : l'.length ≤ 1000) (hs : Ser.Red m l) (hs' : Ser.Red m l') (hr : RI w A l) (hr' : RI w A' l') :
    Calls Try.prog 131 #[.int .i64 m, .slice A l.length c, .slice A' l'.length c', .int .i64 D] w fun e w' => ∃ v, e = .returned v ∧ OwnI w' w.heap.size v (Ser.mulL m D l l') ∧ Below w.heap.size w w' := by
  have HS := Lib.hid hs
  have HS' := Lib.hid hs'
  have HR := Lib.hid hr
  have HR' := Lib.hid hr'
  have hm0 : ¬ m = 0 := by omega
  clear hs hs' hr hr'
  have hmk : ∀ W : World, (Instr.makeSlice 26 (.int .i64 ((D : Int) + 1)) (.int .i64 ((D : Int) + 1))).run Try.prog W = .ok (.slice (some ⟨W.heap.size, 0, none⟩) (D + 1) (D + 1)) (W.alloc (.cells (madeCells #[.int .i64 0] (D + 1)) 2)) := by
    intro W
    have := run_make_row' (P := Try.prog) 26 2 (.int .i64 0) 8 Try.underlying26 info64 rfl .i64 .i64 (D + 1) (by omega) (by omega) W
    rwa [show ((D + 1 : Nat) : Int) = (D : Int) + 1 by omega] at this
  obtain ⟨a, ha⟩ : ∃ a, Ser.co l = a := ⟨_, rfl⟩
  obtain ⟨b, hb⟩ : ∃ b, Ser.co l' = b := ⟨_, rfl⟩
  have HA := Lib.hid ha
  have HB0 := Lib.hid hb
  have HE := Lib.hid (show Ser.mulL m D l l' = Ser.cut m D (Ser.mul a b) by unfold Ser.mulL; rw [ha, hb])
  rw [HE.out]
  clear ha hb
  go_enter Try.func131, Try.ntmps131
  go_wp2
  go_loopw [10, 11] (fun i _ wr => ∃ j : Nat, j ≤ 2000 ∧ i = .int .i64 j ∧ OwnI wr w.heap.size (.slice (some ⟨w.heap.size, 0, none⟩) (D + 1) (D + 1)) (Ser.timS m D a b j) ∧ Below w.heap.size w wr) (fun i _ _ => l.length - (intOf i).toNat)
  case atStart =>
    refine ⟨0, by omega, rfl, ?_, (Below.refl _ _).alloc (Nat.le_refl _) _⟩
    have h := OwnI.made w (D + 1) (by unfold maxLen; omega)
    rw [Ser.timS_zero]
    simpa using h
  case round =>
    clear hmk
    obtain ⟨j, hj, rfl, hown, hbel⟩ := hrel
    have HB := Lib.hid hbel
    have HO := Lib.hid hown
    clear hown hbel
    by_cases h1 : j < l.length
    · by_cases h2 : j ≤ D
      · go_wp2
        go_loopw [11] (fun i wr => ∃ k : Nat, k ≤ 1000 ∧ i = .int .i64 k ∧ OwnI wr w.heap.size (.slice (some ⟨w.heap.size, 0, none⟩) (D + 1) (D + 1)) (Ser.timP m D a b j k) ∧ Below w.heap.size w wr) (fun i _ => l'.length - (intOf i).toNat)
        case atStart => exact ⟨0, by omega, rfl, by rw [Ser.timP_zero]; exact HO.out, HB.out⟩
        case round =>
          clear HO HB
          obtain ⟨k, hk, rfl, hown, hbel⟩ := hrel
          have HB := Lib.hid hbel
          have HO := Lib.hid hown
          clear hown hbel
          obtain ⟨bb, off, rfl, hbb, hc⟩ := HR.out.at j h1
          have hc1 := (HB.out.cell (p := ⟨bb, off + j, none⟩) hbb).trans hc
          have r1 := HS.out j
          rw [HA.out] at hc1 r1
          obtain ⟨X, hX⟩ : ∃ X, a j = X := ⟨_, rfl⟩
          rw [hX] at hc1 r1
          obtain ⟨r1, r2⟩ := r1
          have j0 : (0 : Int) ≤ (j : Int) := by omega
          have j1 : (j : Int) < (l.length : Int) := by omega
          clear hc
          by_cases h3 : k < l'.length
          · by_cases h4 : j + k ≤ D
            · by_cases h5 : X = 0
              · have HN := Lib.hid (timP_null m D a b j k (hX.trans h5))
                subst h5
                clear hX
                go_wp2
                go_roundw
                case rel => exact ⟨j + 1, by omega, by go_num, by rw [← HN.out]; exact HO.out, HB.out⟩
                case measure => simp only [intOf]; omega
              · obtain ⟨n1, n2⟩ := ne_facts h5
                obtain ⟨bb', off', rfl, hbb', hc'⟩ := HR'.out.at k h3
                have hc2 := (HB.out.cell (p := ⟨bb', off' + k, none⟩) hbb').trans hc'
                have q1 := HS'.out k
                rw [HB0.out] at hc2 q1
                obtain ⟨Y, hY⟩ : ∃ Y, b k = Y := ⟨_, rfl⟩
                rw [hY] at hc2 q1
                obtain ⟨q1, q2⟩ := q1
                obtain ⟨_, _, o3, o4⟩ := HO.out.cells
                have hd1 := o3 (j + k) (by unfold Ser.timP; rw [Ser.cut_length]; omega)
                have hf1 := o4 (j + k)
                have z1 := timP_red (m := m) (by omega) D a b j k (j + k)
                have hst := Ser.timP_step m D a b j k h4
                change wr.cell? _ = some (.int .i64 (Ser.co (Ser.timP m D a b j k) (j + k))) at hd1
                obtain ⟨Z, hZ⟩ : ∃ Z, Ser.co (Ser.timP m D a b j k) (j + k) = Z := ⟨_, rfl⟩
                rw [hZ] at hd1 z1 hst
                rw [hX, hY] at hst
                obtain ⟨z1, z2⟩ := z1
                have hset := HO.out.set (j + k) ((Z + X * Y) % m)
                rw [hst] at hset
                have HSET := Lib.hid hset
                have p1 := Int.mul_nonneg r1 q1
                have p2 := (mul_bd (x := X) (y := Y) r1 (by omega) (by omega) (by omega)).2
                have j2 : (0 : Int) ≤ (k : Int) := by omega
                have j3 : (k : Int) < (l'.length : Int) := by omega
                have j4 : (j : Int) + (k : Int) ≤ (D : Int) := by omega
                have j5 : (j : Int) + (k : Int) < (D : Int) + 1 := by omega
                have j6 : (0 : Int) ≤ (j : Int) + (k : Int) := by omega
                have j7 : ((j : Int) + (k : Int)).toNat = j + k := by omega
                have w1 : IntKind.i64.wrap ((j : Int) + (k : Int)) = (j : Int) + (k : Int) := by rw [IntKind.wrap_i64]; omega
                have w2 : IntKind.i64.wrap (X * Y) = X * Y := by rw [IntKind.wrap_i64]; omega
                have w3 : IntKind.i64.wrap (Z + X * Y) = Z + X * Y := by rw [IntKind.wrap_i64]; omega
                clear hX hY hZ hst hset hc' o3 o4
                go_wp2
                go_still_tail 23, (by kernel_rfl)
                change wpList _ _ _ _ _ wr.drew
                go_wp2
                go_roundw
                case rel => exact ⟨k + 1, by omega, by go_num, HSET.out, HB.out.drew.setCell (Nat.le_refl _) _⟩
                case measure => simp only [intOf]; omega
            · have HN := Lib.hid (Ser.timP_end m D a b j k (fun q hq1 hq2 => by omega))
              have h4' : ¬ (j : Int) + (k : Int) ≤ (D : Int) := by omega
              clear hX h4
              go_wp2
              go_roundw
              case rel => exact ⟨j + 1, by omega, by go_num, by rw [← HN.out]; exact HO.out, HB.out⟩
              case measure => simp only [intOf]; omega
          · have HN := Lib.hid (Ser.timP_end m D a b j k (fun q hq1 hq2 => by rw [← HB0.out]; exact Ser.co_over (by omega)))
            clear hX
            go_wp2
            go_roundw
            case rel => exact ⟨j + 1, by omega, by go_num, by rw [← HN.out]; exact HO.out, HB.out⟩
            case measure => simp only [intOf]; omega
      · have ho := HO.out
        rw [Ser.timS_end m D a b j (fun q hq1 hq2 => by omega)] at ho
        have HF := Lib.hid ho
        clear ho
        go_wp2
        go_ret
        exact ⟨_, rfl, HF.out, HB.out⟩
    · have ho := HO.out
      rw [Ser.timS_end m D a b j (fun q hq1 hq2 => by rw [← HA.out]; exact Ser.co_over (by omega))] at ho
      have HF := Lib.hid ho
      clear ho
      go_wp2
      go_ret
      exact ⟨_, rfl, HF.out, HB.out⟩
end Go.Proofs.Ytpmbojbdppbkgaa

/- Contracts of AddSeries, of the program. -/
namespace Go.Proofs.Ytpmbojbdppbkgaa
open Go.RowKit Go.WideShapes Go.ChangeShapes Go.ChangeAt

theorem code2_iff {m : Int} {l : List Int} {m' : Int} {l' : List Int} (h : code2 m l m' l' = 0) : isS m l = true ∧ isS m' l' = true ∧ m = m' ∧ l.length = l'.length := by
  unfold code2 at h
  by_cases h1 : isS m l = true ∧ isS m' l' = true
  · rw [if_pos h1] at h
    by_cases h2 : m = m' ∧ l.length = l'.length
    · exact ⟨h1.1, h1.2, h2.1, h2.2⟩
    · rw [if_neg h2] at h; exact absurd h (by decide)
  · rw [if_neg h1] at h; exact absurd h (by decide)
theorem code2_ok {m : Int} {l : List Int} {m' : Int} {l' : List Int} (h : code2 m l m' l' = 0) : m = m' ∧ ∃ d, l.length = d + 1 ∧ l'.length = d + 1 ∧ SerOk m d l ∧ SerOk m d l' := by
  obtain ⟨h1, h2, rfl, h4⟩ := code2_iff h
  obtain ⟨d, e1, s1⟩ := serOk_of h1
  obtain ⟨d', e2, s2⟩ := serOk_of h2
  obtain rfl : d = d' := by omega
  exact ⟨rfl, d, e1, e2, s1, s2⟩

/-- a function of two series that are alike -/
def twoM (f : Int → Nat → List Int → List Int → List Int) (m : Int) (l : List Int) (m' : Int) (l' : List Int) : Int × List Int × Int :=
  if code2 m l m' l' = 0 then (m, f m (l.length - 1) l l', 0) else (0, [], code2 m l m' l')
def addL (m : Int) (d : Nat) (l l' : List Int) : List Int := Ser.cut m d fun n => Ser.co l n + Ser.co l' n
/-- the world behind both boxes, the result's variable and the list of both -/
theorem box4_new (w : World) (m m' : Int) (A A' : Option Addr) (n c n' c' : Nat) (W : World) (hW : ((((w.alloc (.cells #[.int .i64 m, .slice A n c] 28)).alloc (.cells #[.int .i64 m', .slice A' n' c'] 28)).alloc (.cells #[.int .i64 0, .slice none 0 0] 28)).alloc (.cells #[.int .i64 m, .slice A n c, .int .i64 m', .slice A' n' c'] 28)) = W) :
    Box W w.heap.size m A n c ∧ Box W (w.heap.size + 1) m' A' n' c' ∧ Var2 W (w.heap.size + 1 + 1) (.int .i64 0) (.slice none 0 0) ∧ Box4 W (w.heap.size + 1 + 1 + 1) m A n c m' A' n' c' ∧ Below w.heap.size w W := by
  obtain ⟨W0, hW0⟩ : ∃ W0, (((w.alloc (.cells #[.int .i64 m, .slice A n c] 28)).alloc (.cells #[.int .i64 m', .slice A' n' c'] 28)).alloc (.cells #[.int .i64 0, .slice none 0 0] 28)) = W0 := ⟨_, rfl⟩
  obtain ⟨h1, h2, h3, h4⟩ := box3_new w m m' A A' n c n' c' W0 hW0
  have hs : W0.heap.size = w.heap.size + 1 + 1 + 1 := by rw [← hW0]; simp
  rw [hW0] at hW
  subst hW
  refine ⟨h1.keep (below_one _ _), h2.keep (below_one _ _), h3.keep (below_one _ _), ?_, below_alloc _ h4⟩
  rw [← hs]
  exact Box4.new _ _ _ _ _ _ _ _ _

theorem OwnI.nil' (w : World) (base : Nat) : OwnI w base (.slice none 0 0) [] := OwnI.nil w base

end Go.Proofs.Ytpmbojbdppbkgaa

/- Contracts of the model's functions that look at series and make them. -/
namespace Go.Proofs.Ytpmbojbdppbkgaa
open Go.RowKit Go.WideShapes Go.ChangeShapes Go.ChangeAt

end Go.Proofs.Ytpmbojbdppbkgaa

