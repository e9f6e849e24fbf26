/- Texts of contracts, joined. -/
import Derived.Test.YtpmbojbdppbkgaaMgah
import Derived.Test.YtpmbojbdppbkgaaMgao
import Derived.Test.YtpmbojbdppbkgaaMgal
import Derived.Test.YtpmbojbdppbkgaaMgaf
import Derived.Test.YtpmbojbdppbkgaaMgam
import Derived.Test.YtpmbojbdppbkgaaMgaj
import Derived.Test.YtpmbojbdppbkgaaMgan
/- Contract of the inverse of a law, of the program. -/
namespace Go.Proofs.Ytpmbojbdppbkgaa
open Go.RowKit Go.WideShapes Go.ChangeShapes Go.ChangeAt

theorem law_keep {W wr W0 : World} {g G : Nat} {m : Int} {d : Nat} {A : Option Addr} {n c : Nat} {x y : Value} (h1 : GBox W g m d A n c) (h2 : Var2 wr G x y) (hb : Below W.heap.size W wr) (h : Below wr.heap.size wr W0) :
    (W0.cell? ⟨g, 0, none⟩ = some (.int .i64 m) ∧ W0.cell? ⟨g, 1, none⟩ = some (.int .i64 d) ∧ W0.cell? ⟨g, 2, none⟩ = some (.slice A n c)) ∧ W0.cell? ⟨G, 0, none⟩ = some x ∧ W0.cell? ⟨G, 1, none⟩ = some y := by
  obtain ⟨a, b, e, -⟩ := h1.keep (below_step hb h)
  exact ⟨⟨a, b, e⟩, (h2.keep h).c0, (h2.keep h).c1⟩
def cv (w : World) (p : Addr) : Value := (w.cell? p).getD undef
theorem cv_some {w : World} {p : Addr} {x : Value} (h : w.cell? p = some x) : w.cell? p = some (cv w p) := by simp [cv, h]
theorem cv_eq {w : World} {p : Addr} {x : Value} (h : w.cell? p = some x) : cv w p = x := by simp [cv, h]
/-- what the walk keeps: the variable holds something, the law's box holds the law -/
theorem lk_S {w' : World} {g G : Nat} {x0 x1 y0 y1 y2 : Value} (h : (w'.cell? ⟨g, 0, none⟩ = some y0 ∧ w'.cell? ⟨g, 1, none⟩ = some y1 ∧ w'.cell? ⟨g, 2, none⟩ = some y2) ∧ w'.cell? ⟨G, 0, none⟩ = some x0 ∧ w'.cell? ⟨G, 1, none⟩ = some x1) :
    (w'.cell? ⟨G, 0, none⟩ = some (cv w' ⟨G, 0, none⟩) ∧ w'.cell? ⟨G, 1, none⟩ = some (cv w' ⟨G, 1, none⟩)) ∧ (w'.cell? ⟨g, 0, none⟩ = some y0 ∧ w'.cell? ⟨g, 1, none⟩ = some y1 ∧ w'.cell? ⟨g, 2, none⟩ = some y2) :=
  ⟨⟨cv_some h.2.1, cv_some h.2.2⟩, h.1⟩
theorem lk_set {w : World} {g G : Nat} {x y u v y0 y1 y2 : Value} (hv : Var2 w G x y) (h : w.cell? ⟨g, 0, none⟩ = some y0 ∧ w.cell? ⟨g, 1, none⟩ = some y1 ∧ w.cell? ⟨g, 2, none⟩ = some y2) (hne : G ≠ g) :
    let w' := (w.setCell ⟨G, 0, none⟩ u).setCell ⟨G, 1, none⟩ v
    (w'.cell? ⟨G, 0, none⟩ = some (cv w' ⟨G, 0, none⟩) ∧ w'.cell? ⟨G, 1, none⟩ = some (cv w' ⟨G, 1, none⟩)) ∧ (w'.cell? ⟨g, 0, none⟩ = some y0 ∧ w'.cell? ⟨g, 1, none⟩ = some y1 ∧ w'.cell? ⟨g, 2, none⟩ = some y2) := by
  have h2 := hv.set2 u v
  have far : ∀ (i : Nat) (z : Value), w.cell? ⟨g, i, none⟩ = some z → ((w.setCell ⟨G, 0, none⟩ u).setCell ⟨G, 1, none⟩ v).cell? ⟨g, i, none⟩ = some z := fun i z hz => by
    rw [World.cell?_setCell_other _ _ _ _ (by intro e; injection e with e; exact hne e), World.cell?_setCell_other _ _ _ _ (by intro e; injection e with e; exact hne e)]
    exact hz
  exact ⟨⟨cv_some h2.c0, cv_some h2.c1⟩, far 0 _ h.1, far 1 _ h.2.1, far 2 _ h.2.2⟩
set_option maxHeartbeats 16000000 in
set_option maxRecDepth 100000 in
theorem inverseL_any (m : Int) (d : Nat) (A : Option Addr) (c : Nat) (t : List (List Int)) (w : World) (hs : Pl.Ok m d t) (hf : Pl.fau m d (Pl.pc t) = none) (hr : RP w A t) :
    Calls Try.prog 65 #[.agg #[.int .i64 m, .int .i64 d, .slice A t.length c]] w fun e w' => ∃ v, e = .returned (.agg #[.int .i64 m, v]) ∧ OwnI w' w.heap.size v (Pl.invP m d (Pl.pc t) d) ∧ Below w.heap.size w w' := by
  obtain ⟨W, hW, b1, v2, hwb⟩ := pro_lawS w m d A t.length c
  have B1 := Lib.hid b1
  have V2 := Lib.hid v2
  have HB := Lib.hid hwb
  have HW := Lib.hid hW
  have m1 := hs.m1
  have m2 := hs.m2
  have hd1 := hs.d1
  have hd2 := hs.d2
  have hN := Pl.norm_law hf hs
  have HL0 := Lib.hid (fun W0 => line_any m d A t.length c 0 W0 m1 m2 hd2 (by omega) (by omega))
  have HL1 := Lib.hid (fun W0 => line_any m d A t.length c 1 W0 m1 m2 hd2 (by omega) (by omega))
  have hsu := fun (k : Nat) (A1 : Option Addr) (c1 : Nat) (A2 : Option Addr) (c2 : Nat) (W0 : World) (h : Below W.heap.size W W0) (h1 : RI W0 A1 (Pl.lin m d 1)) (h2 : RI W0 A2 (Pl.invP m d (Pl.pc t) k)) =>
    sum_any m d A c t A1 c1 (Pl.lin m d 1) A2 c2 (Pl.invP m d (Pl.pc t) k) W0 hs (Pl.lin_ok m1 m2 hd1 hd2 1) (Pl.invP_ok m1 m2 hd1 hd2 _ k) (Pl.lin_zero m d 1) (Pl.invP_curve (by omega) hN k) ((hr.below hwb).below h) h1 h2
  have HSU := Lib.hid hsu
  have HSC := Lib.hid (fun (k : Nat) (A1 : Option Addr) (c1 : Nat) (W0 : World) (h1 : RI W0 A1 (Pl.putL m d (Pl.pc t) (Pl.lin m d 1) (Pl.invP m d (Pl.pc t) k))) =>
    scaled_any m d A1 c1 (Pl.putL m d (Pl.pc t) (Pl.lin m d 1) (Pl.invP m d (Pl.pc t) k)) (-1) W0 ⟨m1, m2, hd1, hd2, Pl.putL_length _ _ _ _ _, Ser.cut_red (by omega) _ _⟩ h1 (by omega) (by omega))
  have HPL := Lib.hid (fun (k : Nat) (A1 : Option Addr) (c1 : Nat) (A2 : Option Addr) (c2 : Nat) (W0 : World) (h1 : RI W0 A1 (Pl.invP m d (Pl.pc t) k)) (h2 : RI W0 A2 (scaL m d (Pl.putL m d (Pl.pc t) (Pl.lin m d 1) (Pl.invP m d (Pl.pc t) k)) (-1))) =>
    plus_any m d A1 c1 (Pl.invP m d (Pl.pc t) k) m A2 c2 (scaL m d (Pl.putL m d (Pl.pc t) (Pl.lin m d 1) (Pl.invP m d (Pl.pc t) k)) (-1)) W0 (Pl.invP_ok m1 m2 hd1 hd2 _ k) ⟨m1, m2, hd1, hd2, Ser.cut_length _ _ _, Ser.cut_red (by omega) _ _⟩ h1 h2)
  obtain ⟨F, hF⟩ : ∃ F, Pl.pc t = F := ⟨_, rfl⟩
  rw [hF] at HSU HSC HPL ⊢
  obtain ⟨L, hL⟩ : ∃ L, t.length = L := ⟨_, rfl⟩
  rw [hL] at HL0 HL1 HSU HW B1 ⊢
  have hsz : w.heap.size + 1 < W.heap.size := v2.lt
  clear b1 v2 hwb hW hr hs hf hN hsu hF hL
  obtain ⟨x1, x2, x3, x4⟩ := B1.out
  go_enter Try.func65, Try.ntmps65
  go_wp2_with fail
  rw [HW.out]
  refine (HL0.out _).mono ?_
  rintro e w1 ⟨v, rfl, ho, hb1⟩
  obtain ⟨A1, c1, rfl, -⟩ := ho.form
  have hl0 : (Pl.lin m d 0).length = d + 1 := Ser.cut_length _ _ _
  rw [hl0] at ho ⊢
  have HO := Lib.hid ((ho.keep (below_one w1 (.cells #[.int .i64 m, .slice A1 (d + 1) c1] 28))))
  have HV := Lib.hid (Var2.new w1 (.int .i64 m) (.slice A1 (d + 1) c1))
  have HB1 := Lib.hid (below_alloc (.cells #[.int .i64 m, .slice A1 (d + 1) c1] 28) hb1)
  have HZ1 := Lib.hid hb1.size
  obtain ⟨X, hX⟩ : ∃ X, w1.alloc (.cells #[.int .i64 m, .slice A1 (d + 1) c1] 28) = X := ⟨_, rfl⟩
  rw [hX] at HO HV HB1
  have HX := Lib.hid hX
  clear ho hb1 x1 x2 x3 x4 hX hl0
  obtain ⟨x1, x2, x3, x4⟩ := B1.out.keep HB1.out
  rw [← HX.out] at x1 x2 x3
  go_wp2
  rw [HX.out]
  clear x1 x2 x3 x4 HX
  obtain ⟨G, hG⟩ : ∃ G, w1.heap.size = G := ⟨_, rfl⟩
  rw [hG] at HV HZ1 ⊢
  clear hG
  go_loopw [10] (fun q wr => ∃ (k : Nat) (A2 : Option Addr) (c2 : Nat), k ≤ d ∧ q = .int .i64 k ∧ Var2 wr G (.int .i64 m) (.slice A2 (d + 1) c2) ∧ OwnI wr W.heap.size (.slice A2 (d + 1) c2) (Pl.invP m d F k) ∧ Below W.heap.size W wr) (fun q _ => d - (intOf q).toNat)
  case atStart => exact ⟨0, A1, c1, Nat.zero_le _, rfl, HV.out, HO.out, HB1.out⟩
  case round =>
    clear HV HO HB1
    obtain ⟨k, A2, c2, hk, rfl, hv, ho, hbel⟩ := hrel
    have HVV := Lib.hid hv
    have HOO := Lib.hid ho
    have HBE := Lib.hid hbel
    clear ho hbel
    by_cases hkd : k < d
    · obtain ⟨x1, x2, x3, x4⟩ := B1.out.keep HBE.out
      obtain ⟨y1, y2⟩ := (⟨hv.c0, hv.c1⟩ : _ ∧ _)
      have HS1 := Lib.hid (fun (Aa : Option Addr) (ca : Nat) (W0 : World) (h : Below wr.heap.size wr W0) (h1 : RI W0 Aa (Pl.lin m d 1)) => by
        have := HSU.out k Aa ca A2 c2 W0 (below_step HBE.out h) h1 (HOO.out.keep h).ri
        rw [Pl.invP_length] at this
        exact this)
      have HC1 := Lib.hid (fun (Aa : Option Addr) (ca : Nat) (W0 : World) (h1 : RI W0 Aa (Pl.putL m d F (Pl.lin m d 1) (Pl.invP m d F k))) => HSC.out k Aa ca W0 h1)
      have HP1 := Lib.hid (fun (Aa : Option Addr) (ca : Nat) (W0 : World) (h : Below wr.heap.size wr W0) (h1 : RI W0 Aa (scaL m d (Pl.putL m d F (Pl.lin m d 1) (Pl.invP m d F k)) (-1))) => by
        have := HPL.out k A2 c2 Aa ca W0 (HOO.out.keep h).ri h1
        rw [Pl.invP_length] at this
        exact this)
      have hnx : (Ser.cut m d fun n => Ser.co (Pl.invP m d F k) n + Ser.co (scaL m d (Pl.putL m d F (Pl.lin m d 1) (Pl.invP m d F k)) (-1)) n) = Pl.invP m d F (k + 1) := rfl
      rw [hnx] at HP1
      have hnl := Pl.invP_length m d F (k + 1)
      obtain ⟨PN, hPN⟩ : ∃ P, Pl.invP m d F (k + 1) = P := ⟨_, rfl⟩
      rw [hPN] at HP1 hnl
      have HPN := Lib.hid hPN
      have HNL := Lib.hid hnl
      obtain ⟨PL, hPL⟩ : ∃ P, Pl.putL m d F (Pl.lin m d 1) (Pl.invP m d F k) = P := ⟨_, rfl⟩
      rw [hPL] at HS1 HC1 HP1
      obtain ⟨PS, hPS⟩ : ∃ P, scaL m d PL (-1) = P := ⟨_, rfl⟩
      rw [hPS] at HC1 HP1
      obtain ⟨P1, hP1⟩ : ∃ P, Pl.lin m d 1 = P := ⟨_, rfl⟩
      have HLL := HL1
      rw [hP1] at HS1 HLL
      have j1 : (k : Int) < (d : Int) := by omega
      clear hv hnx hnl hPN hPL hPS hP1 HSU HSC HPL HL0 hk HOO
      have HK := Lib.hid (fun W0 (h : Below wr.heap.size wr W0) => law_keep B1.out HVV.out HBE.out h)
      clear B1 HL1
      obtain ⟨⟨a1, a2, a3⟩, a4, a5⟩ := HK.out _ (below_drew0 wr)
      have hS0 : (wr.drew.cell? ⟨w.heap.size, 0, none⟩ = some (.int .i64 m) ∧ wr.drew.cell? ⟨w.heap.size, 1, none⟩ = some (.int .i64 d) ∧ wr.drew.cell? ⟨w.heap.size, 2, none⟩ = some (.slice A L c)) ∧ wr.drew.cell? ⟨G, 0, none⟩ = some (.int .i64 m) ∧ wr.drew.cell? ⟨G, 1, none⟩ = some (.slice A2 (d + 1) c2) := ⟨⟨a1, a2, a3⟩, a4, a5⟩
      have HS0 := Lib.hid hS0
      have hGw : G ≠ w.heap.size := by have := HZ1.out; omega
      clear hS0 a1 a2 a3 a4 a5
      go_wp2
      clear hGw
      refine region_till (fun w' => (w'.cell? ⟨w.heap.size, 0, none⟩ = some (.int .i64 m) ∧ w'.cell? ⟨w.heap.size, 1, none⟩ = some (.int .i64 d) ∧ w'.cell? ⟨w.heap.size, 2, none⟩ = some (.slice A L c)) ∧ w'.cell? ⟨G, 0, none⟩ = some (.int .i64 m) ∧ w'.cell? ⟨G, 1, none⟩ = some (.slice A2 (d + 1) c2)) 8 (by kernel_rfl) ?_
      refine till_take (i := 0) (dst := some 12) (.agg #[.int .i64 m, .slice A2 (d + 1) c2]) rfl rfl (by kernel_rfl) (by kernel_rfl) (by kernel_rfl) (by kernel_rfl) (fun _ _ _ h => h) (Or.inl ⟨by rfl, ?_⟩) HS0.out ?_
      · rintro w' ⟨⟨a1, a2, a3⟩, a4, a5⟩
        go_simp
      simp only [Act.put, List.setIfInBounds_toArray, List.set_cons_zero, List.set_cons_succ]
      refine till_take (i := 1) (dst := some 13) (.agg #[.int .i64 m, .int .i64 d, .slice A L c]) rfl rfl (by kernel_rfl) (by kernel_rfl) (by kernel_rfl) (by kernel_rfl) (fun _ _ _ h => h) (Or.inl ⟨by rfl, ?_⟩) HS0.out ?_
      · rintro w' ⟨⟨a1, a2, a3⟩, a4, a5⟩
        go_simp
      simp only [Act.put, List.setIfInBounds_toArray, List.set_cons_zero, List.set_cons_succ]
      refine till_take (i := 2) (dst := some 14) (.agg #[.int .i64 m, .int .i64 d, .slice A L c]) rfl rfl (by kernel_rfl) (by kernel_rfl) (by kernel_rfl) (by kernel_rfl) (fun _ _ _ h => h) (Or.inl ⟨by rfl, ?_⟩) HS0.out ?_
      · rintro w' ⟨⟨a1, a2, a3⟩, a4, a5⟩
        go_simp
      simp only [Act.put, List.setIfInBounds_toArray, List.set_cons_zero, List.set_cons_succ]
      refine till_take (i := 4) (dst := some 16) (.agg #[.int .i64 m, .slice A2 (d + 1) c2]) rfl rfl (by kernel_rfl) (by kernel_rfl) (by kernel_rfl) (by kernel_rfl) (fun _ _ _ h => h) (Or.inl ⟨by rfl, ?_⟩) HS0.out ?_
      · rintro w' ⟨⟨a1, a2, a3⟩, a4, a5⟩
        go_simp
      simp only [Act.put, List.setIfInBounds_toArray, List.set_cons_zero, List.set_cons_succ]
      refine till_one (i := 3) (by kernel_rfl) rfl (fun K hK => ?_)
      go_simp
      (go_at_call 84; with_reducible refine Calls.mono (HLL.out _) ?_; rintro e w2 ⟨v2, rfl, ho2, hb2⟩; obtain ⟨A3, c3, rfl, -⟩ := ho2.form; have b2 := below_step (below_drew0 wr) hb2)
      dsimp only
      refine hK.out _ _ (fun _ => HK.out _ b2) ?_
      clear hK K
      try simp only [Act.put, List.setIfInBounds_toArray, List.set_cons_zero, List.set_cons_succ]
      refine till_one (i := 5) (by kernel_rfl) rfl (fun K hK => ?_)
      go_simp
      (go_at_call 76; with_reducible refine Calls.mono (HS1.out _ _ _ b2 ho2.ri) ?_; rintro e w3 ⟨v3, rfl, ho3, hb3⟩; obtain ⟨A4, c4, rfl, -⟩ := ho3.form; have b3 := below_step b2 hb3)
      dsimp only
      refine hK.out _ _ (fun _ => HK.out _ b3) ?_
      clear hK K
      try simp only [Act.put, List.setIfInBounds_toArray, List.set_cons_zero, List.set_cons_succ]
      refine till_one (i := 6) (by kernel_rfl) rfl (fun K hK => ?_)
      go_simp
      (go_at_call 116; with_reducible refine Calls.mono (HC1.out _ _ _ ho3.ri) ?_; rintro e w4 ⟨v4, rfl, ho4, hb4⟩; obtain ⟨A5, c5, rfl, -⟩ := ho4.form; have b4 := below_step b3 hb4)
      dsimp only
      refine hK.out _ _ (fun _ => HK.out _ b4) ?_
      clear hK K
      try simp only [Act.put, List.setIfInBounds_toArray, List.set_cons_zero, List.set_cons_succ]
      refine till_one (i := 7) (by kernel_rfl) rfl (fun K hK => ?_)
      go_simp
      (go_at_call 128; with_reducible refine Calls.mono (HP1.out _ _ _ b4 ho4.ri) ?_; rintro e w5 ⟨v5, rfl, ho5, hb5⟩; obtain ⟨A6, c6, rfl, -⟩ := ho5.form; rw [HNL.out] at ho5 ⊢; have b5 := below_step b4 hb5; have hv5 := HVV.out.keep b5; have z1 := hv5.c0; have z2 := hv5.c1; have z3 := hv5.fz 0; have z4 := hv5.fz 1)
      dsimp only
      refine hK.out _ _ (fun _ => HK.out _ b5) ?_
      clear hK K
      try simp only [Act.put, List.setIfInBounds_toArray, List.set_cons_zero, List.set_cons_succ]
      refine till_one (i := 8) (by kernel_rfl) rfl (fun K hK => ?_)
      go_simp
      refine hK.out _ _ (fun hne => absurd rfl hne) ?_
      clear hK K
      refine till_done (by kernel_rfl) ?_
      have K1 := Lib.hid (hv5.set2 (.int .i64 m) (.slice A6 (d + 1) c6))
      have K2 := Lib.hid ((ho5.set2 hv5 (.int .i64 m) (.slice A6 (d + 1) c6)).more (show W.heap.size ≤ w4.heap.size from (below_step HBE.out b4).size))
      have K3 := Lib.hid (below_set2 (below_step HBE.out b5) (show W.heap.size ≤ G from HZ1.out) (.int .i64 m) (.slice A6 (d + 1) c6))
      clear hv5 ho5 ho4 ho3 ho2 b2 b3 b4 b5 hb2 hb3 hb4 hb5 z1 z2 z3 z4
      go_wp2
      go_roundw
      case rel => exact ⟨k + 1, A6, c6, by omega, by go_num, K1.out, by rw [HPN.out]; exact K2.out, K3.out⟩
      case measure => simp only [intOf]; omega
    · obtain rfl : k = d := by omega
      have q0 := hv.c0
      have q1 := hv.c1
      have hvr := V2.out.keep HBE.out
      obtain ⟨q2, q3, q4, q5⟩ := hvr.tells2
      obtain ⟨f0, f1, f2, f3⟩ := fin_serC (w := w) hvr (HOO.out) hsz (by omega) (below_step HB.out HBE.out) (.int .i64 m) (.slice A2 (k + 1) c2)
      have F2 := Lib.hid (OwnI.more (b' := w.heap.size) f2 (by omega))
      have F3 := Lib.hid f3
      clear f2 f3 hvr hv
      go_wp2
      exact bodyPost_ret (v := .agg #[.int .i64 m, .slice A2 (k + 1) c2]) (by simp [results, Try.results65, go_sem, f0, f1]) rfl ⟨_, rfl, F2.out, F3.out⟩
end Go.Proofs.Ytpmbojbdppbkgaa

/- Contracts of InverseOfLaw, of the program and of the model. -/
namespace Go.Proofs.Ytpmbojbdppbkgaa
open Go.RowKit Go.WideShapes Go.ChangeShapes Go.ChangeAt

theorem lin_listP (m : Int) (d : Nat) (m1 : 2 ≤ m) (d1 : 1 ≤ d) : (List.replicate (d + 1) (0 : Int)).set 1 1 = Pl.lin m d 1 := by
  refine Ser.list_ext (by simp [Pl.lin, Ser.cut_length]) (fun i hi => ?_)
  rw [List.length_set, List.length_replicate] at hi
  rw [Ser.co_set (by simp; omega), Pl.lin, Ser.co_cut (by omega), Ser.co_zeros]
  unfold Ser.mon
  by_cases h : i = 1
  · rw [if_pos h, Int.emod_eq_of_lt (by omega) (by omega)]
  · rw [if_neg h, Int.zero_emod]
theorem putL_red {m : Int} (hm : 0 < m) (d : Nat) (F : Nat → Nat → Int) (a b : List Int) : Ser.Red m (Pl.putL m d F a b) := Ser.cut_red hm _ _
theorem made_two (w : World) (n : Nat) (hn : n ≤ maxLen) :
    let w' := ((w.alloc (.cells (madeCells #[.int .i64 0] n) 2)).alloc (.cells (madeCells #[.int .i64 0] n) 2)).drew
    OwnI w' w.heap.size (.slice (some ⟨w.heap.size, 0, none⟩) n n) (List.replicate n 0) ∧ OwnI w' w.heap.size (.slice (some ⟨w.heap.size + 1, 0, none⟩) n n) (List.replicate n 0) ∧ Below w.heap.size w w' := by
  have h2 := OwnI.made (w.alloc (.cells (madeCells #[.int .i64 0] n) 2)) n hn
  have e : (w.alloc (.cells (madeCells #[.int .i64 0] n) 2)).heap.size = w.heap.size + 1 := by simp
  rw [e] at h2
  exact ⟨((OwnI.made w n hn).alloc _).drew, (h2.more (by omega)).drew, below_step (below_alloc _ (below_one w _)) (below_drew0 _)⟩
set_option maxHeartbeats 8000000 in
set_option maxRecDepth 100000 in
theorem l04Inverse_any (m : Int) (d : Nat) (A : Option Addr) (c : Nat) (t : List (List Int)) (w : World) (hs : Pl.Ok m d t) (hr : RP w A t) :
    Calls Try.prog 61 #[.agg #[.int .i64 m, .slice A t.length c]] w fun e w' => ∃ v, e = .returned v ∧ OwnI w' w.heap.size v (Pl.invS m d (Pl.pc t) d) ∧ Below w.heap.size w w' := by
  obtain ⟨W, hW, b1, hwb⟩ := start1 31 w m A t.length c
  have B1 := Lib.hid b1
  have HB := Lib.hid hwb
  have HW := Lib.hid hW
  have m1 := hs.m1
  have m2 := hs.m2
  have hd1 := hs.d1
  have hd2 := hs.d2
  have HPU := Lib.hid (fun (k : Nat) (A1 : Option Addr) (c1 : Nat) (A2 : Option Addr) (c2 : Nat) (W0 : World) (h : Below W.heap.size W W0) (h1 : RI W0 A1 (Pl.lin m d 1)) (h2 : RI W0 A2 (Pl.invS m d (Pl.pc t) k)) => by
    have := l03Put_any m d A c t A1 c1 (Pl.lin m d 1) A2 c2 (Pl.invS m d (Pl.pc t) k) W0 hs (Pl.lin_ok m1 m2 hd1 hd2 1) ⟨m1, m2, hd1, hd2, Pl.invS_length _ _ _ _, Pl.invS_red (by omega) _ _ _⟩ ((hr.below hwb).below h) h1 h2
    rw [show (Pl.lin m d 1).length = d + 1 from Ser.cut_length _ _ _, Pl.invS_length] at this
    exact this)
  have hmk : ∀ W : World, (Instr.makeSlice 26 (.int .i64 ((d : Int) + 1)) (.int .i64 ((d : Int) + 1))).run Try.prog W = .ok (.slice (some ⟨W.heap.size, 0, none⟩) (d + 1) (d + 1)) (W.alloc (.cells (madeCells #[.int .i64 0] (d + 1)) 2)) := by
    intro W
    have := run_make_row' (P := Try.prog) 26 2 (.int .i64 0) 8 Try.underlying26 info64 rfl .i64 .i64 (d + 1) (by omega) (by omega) W
    rwa [show ((d + 1 : Nat) : Int) = (d : Int) + 1 by omega] at this
  obtain ⟨F, hF⟩ : ∃ F, Pl.pc t = F := ⟨_, rfl⟩
  rw [hF] at HPU ⊢
  obtain ⟨L, hL⟩ : ∃ L, t.length = L := ⟨_, rfl⟩
  have hLd : (L : Int) - 1 = (d : Int) := by have := hs.len; omega
  have hLb : L ≤ 11 := by omega
  rw [hL] at HPU HW B1 ⊢
  obtain ⟨x1, x2, x3⟩ := B1.out
  clear b1 hwb hW hr hs hF hL
  go_enter Try.func61, Try.ntmps61
  go_wp2_with fail
  rw [HW.out]
  go_upto_region 2 with fail
  go_cut [4, 5] (fun s4 s5 wx => ∃ g g' : Nat, s4 = .slice (some ⟨g, 0, none⟩) (d + 1) (d + 1) ∧ s5 = .slice (some ⟨g', 0, none⟩) (d + 1) (d + 1) ∧ g ≠ g' ∧ OwnI wx W.heap.size s4 (List.replicate (d + 1) 0) ∧ OwnI wx W.heap.size s5 (List.replicate (d + 1) 0) ∧ Below W.heap.size W wx)
  case first =>
    go_region
    all_goals
      go_wp2
      go_meet
      case rel =>
        first
          | exact ⟨_, _, rfl, rfl, by omega, (made_two W (d + 1) (by unfold maxLen; omega)).1, (made_two W (d + 1) (by unfold maxLen; omega)).2.1, (made_two W (d + 1) (by unfold maxLen; omega)).2.2⟩
          | exact ⟨_, _, rfl, rfl, by omega, (made_two W (d + 1) (by unfold maxLen; omega)).2.1, (made_two W (d + 1) (by unfold maxLen; omega)).1, (made_two W (d + 1) (by unfold maxLen; omega)).2.2⟩
  case rest =>
    clear x1 x2 x3 hmk
    obtain ⟨w1, hwc⟩ : ∃ w9, w9 = wc := ⟨_, rfl⟩
    subst hwc
    obtain ⟨g, g', rfl, rfl, hgg, hO, hT, hb1⟩ := hcut
    obtain ⟨-, -, o3, o4⟩ := hT.cells
    have q1 := o3 1 (by simp; omega)
    have q2 := o4 1
    have q3 : (List.replicate (d + 1) (0 : Int))[1]?.getD 0 = 0 := by rw [List.getElem?_replicate]; split <;> rfl
    rw [q3] at q1
    have hset := hT.set 1 1
    rw [lin_listP m d m1 hd1] at hset
    have hg1 := hT.cells.1
    have HO := Lib.hid (hO.other (grown_setCell w1 g' 1 (.int .i64 1)) (.inr (by simpa [Value.ownBlock] using hgg)))
    have HT := Lib.hid hset
    have HB1 := Lib.hid (hb1.setCell (p := ⟨g', 1, none⟩) hg1 (.int .i64 1))
    have HGG := Lib.hid hgg
    have HG0 := Lib.hid hO.cells.1
    have z2 : (1 : Int) < (d : Int) + 1 := by omega
    have z3 : 1 < d + 1 := by omega
    clear hO hT hb1 o3 o4 q3 hset hg1 hgg
    obtain ⟨X, hX⟩ : ∃ X, w1.setCell ⟨g', 1, none⟩ (.int .i64 1) = X := ⟨_, rfl⟩
    rw [hX] at HO HT HB1
    have HX := Lib.hid hX
    clear hX
    go_wp2
    rw [HX.out]
    clear q1 q2 z2 z3 HX
    go_loopw [6, 7] (fun s6 _ wr => ∃ N k : Nat, N = k + 1 ∧ k ≤ d ∧ s6 = .int .i64 N ∧ OwnI wr W.heap.size (.slice (some ⟨g, 0, none⟩) (d + 1) (d + 1)) (Pl.invS m d F k) ∧ OwnI wr W.heap.size (.slice (some ⟨g', 0, none⟩) (d + 1) (d + 1)) (Pl.lin m d 1) ∧ Below W.heap.size W wr) (fun s6 _ _ => d + 2 - (intOf s6).toNat)
    case atStart => exact ⟨1, 0, rfl, Nat.zero_le _, rfl, HO.out, HT.out, HB1.out⟩
    case round =>
      clear HO HT HB1
      obtain ⟨N, k, hN, hk, rfl, own, tt, hbl⟩ := hrel
      have OW := Lib.hid own
      have TT := Lib.hid tt
      have HBE := Lib.hid hbl
      clear own tt hbl
      by_cases hlt : N ≤ d
      · have hlt2 : (N : Int) ≤ (d : Int) := by omega
        have HT1 := Lib.hid (HPU.out k (some ⟨g', 0, none⟩) (d + 1) (some ⟨g, 0, none⟩) (d + 1) wr HBE.out TT.out.ri OW.out.ri)
        have hst : (Pl.invS m d F k).set N ((m - Ser.co (Pl.putL m d F (Pl.lin m d 1) (Pl.invS m d F k)) N) % m) = Pl.invS m d F (k + 1) := by rw [hN]; rfl
        have hll : (Pl.putL m d F (Pl.lin m d 1) (Pl.invS m d F k)).length = d + 1 := Pl.putL_length _ _ _ _ _
        obtain ⟨hT1, hT2⟩ := putL_red (m := m) (by omega) d F (Pl.lin m d 1) (Pl.invS m d F k) N
        obtain ⟨L3, hL3⟩ : ∃ L3, Pl.putL m d F (Pl.lin m d 1) (Pl.invS m d F k) = L3 := ⟨_, rfl⟩
        rw [hL3] at HT1 hst hll hT1 hT2
        obtain ⟨T, hT⟩ : ∃ T, Ser.co L3 N = T := ⟨_, rfl⟩
        rw [hT] at hst hT1 hT2
        obtain ⟨V, hV⟩ : ∃ V, m - T = V := ⟨_, rfl⟩
        rw [hV] at hst
        have hm0 : ¬ m = 0 := by omega
        have p1 : 0 ≤ V := by omega
        have w1 : IntKind.i64.wrap V = V := by rw [IntKind.wrap_i64]; omega
        have hLo := Pl.invS_length m d F k
        obtain ⟨x1, x2, -⟩ := B1.out.keep HBE.out
        have HNN := Lib.hid hN
        have HST := Lib.hid hst
        have HTT := Lib.hid hT
        clear hst hL3 hT hN
        go_wp2_with fail
        refine HT1.out.mono ?_
        rintro e w3 ⟨s3, rfl, ho3, hb3⟩
        obtain ⟨A3, c3, rfl, r3⟩ := ho3.form
        rw [hll]
        obtain ⟨b, off, hA3, hb, hc⟩ := r3.at N (by omega)
        subst hA3
        rw [HTT.out] at hc
        have ow := OW.out.keep hb3
        have ot := TT.out.keep hb3
        clear x1 x2
        obtain ⟨x1, x2, -⟩ := B1.out.keep (below_step HBE.out hb3)
        obtain ⟨hg1, -, o3, o4⟩ := ow.cells
        have d1 := o3 N (by omega)
        have f1 := o4 N
        have hset := ow.set N (V % m)
        rw [HST.out] at hset
        have HSE := Lib.hid hset
        have HTE := Lib.hid (ot.other (grown_setCell w3 g N (.int .i64 (V % m))) (.inr (by simpa [Value.ownBlock] using HGG.out.symm)))
        have HB3 := Lib.hid ((below_step HBE.out hb3).setCell (p := ⟨g, N, none⟩) hg1 (.int .i64 (V % m)))
        have hx0 : g ≠ w.heap.size := by have := HG0.out; have := B1.out.2.2; omega
        have j0 : (0 : Int) ≤ (N : Int) := by omega
        have j1 : (N : Int) < ((d + 1 : Nat) : Int) := by omega
        have j2 : (N : Int) < (d : Int) + 1 := by omega
        have j3 : N < d + 1 := by omega
        clear ho3 hb3 r3 ow ot o3 o4 hset hb hg1
        go_wp2
        go_region
        all_goals
          go_wp2
          go_roundw
          case rel => exact ⟨N + 1, k + 1, by have := HNN.out; omega, by have := HNN.out; omega, by first | rfl | go_num, HSE.out.drew, HTE.out.drew, below_step HB3.out (below_drew0 _)⟩
          case measure => simp only [intOf]; omega
      · have hlt2 : ¬ (N : Int) ≤ (d : Int) := by omega
        obtain rfl : d = k := by omega
        have HO9 := Lib.hid (OW.out.more (b' := w.heap.size) HB.out.size)
        have HB9 := Lib.hid (below_step HB.out HBE.out)
        clear hN hlt
        go_wp2
        go_ret
        exact ⟨_, rfl, HO9.out, HB9.out⟩
/-- the model of InverseOfLaw -/
def invL (m : Int) (t : List (List Int)) : Int × List Int × Int := if isL m t = true then (m, Pl.invP m (t.length - 1) (Pl.pc t) (t.length - 1), 0) else (0, [], 1)
theorem invL_len (m : Int) (t : List (List Int)) : (invL m t).2.1.length ≤ 1048576 := by
  unfold invL
  by_cases h : isL m t = true
  · rw [if_pos h]
    obtain ⟨-, d, e, ok, -⟩ := isL_of h
    have := ok.d2
    dsimp only
    rw [Pl.invP_length]; omega
  · rw [if_neg h]; exact Nat.zero_le _
set_option maxHeartbeats 4000000 in
set_option maxRecDepth 100000 in
theorem InverseOfLaw_any (m : Int) (A : Option Addr) (c : Nat) (t : List (List Int)) (w : World) (hz : szT t ≤ 1048576) (hr : RP w A t) :
    Calls Try.prog 21 #[.agg #[.int .i64 m, .slice A t.length c]] w fun e w' => ∃ s, e = .returned (.tuple #[.agg #[.int .i64 (invL m t).1, s], .int .i64 (invL m t).2.2]) ∧ OwnI w' w.heap.size s (invL m t).2.1 ∧ Below w.heap.size w w' := by
  obtain ⟨W, hW, b1, v3, b4, hwb⟩ := pro1S w m A t.length c
  have B1 := Lib.hid b1
  have V3 := Lib.hid v3
  have HB := Lib.hid hwb
  have HW := Lib.hid hW
  have hc := codeL1_any (w.heap.size + 1 + 1) m A c t W hz (hr.below hwb) b4
  unfold codeL1 at hc
  by_cases h0 : isL m t = true
  · rw [if_pos h0] at hc
    have HC0 := Lib.hid hc
    obtain ⟨-, d, e1, ok, hf⟩ := isL_of h0
    have HA : Hid (invL m t = (m, Pl.invP m d (Pl.pc t) d, 0)) := Lib.hid (by unfold invL; rw [if_pos h0, e1]; rfl)
    rw [HA.out]
    have hd2 := ok.d2
    have HG := Lib.hid (fun W0 => lawOf_nat m A t.length c d W0 e1 (by omega))
    have HI := Lib.hid (fun W0 (h : Below W.heap.size W W0) => inverseL_any m d A c t W0 ok hf ((hr.below hwb).below h))
    obtain ⟨T, hT⟩ : ∃ T, Pl.invP m d (Pl.pc t) d = T := ⟨_, rfl⟩
    rw [hT] at HI ⊢
    obtain ⟨L, hL⟩ : ∃ L, t.length = L := ⟨_, rfl⟩
    rw [hL] at HG HI HW B1 ⊢
    clear b1 v3 b4 hwb hW hr hc h0 ok hf e1 hz hT hL HA
    go_enter Try.func21, Try.ntmps21
    go_wp2_with fail
    rw [HW.out]
    refine HC0.out.mono ?_
    rintro e w1 ⟨rfl, hb1⟩
    obtain ⟨x1, x2, x3⟩ := B1.out.keep hb1
    go_wp2_with fail
    refine (HG.out _).mono ?_
    rintro e w2 ⟨rfl, hb2⟩
    go_wp2_with fail
    refine (HI.out _ (below_step hb1 hb2)).mono ?_
    rintro e w3 ⟨s, rfl, ho, hb3⟩
    obtain ⟨A2, c2, rfl, -⟩ := ho.form
    have hb := below_step (below_step hb1 hb2) hb3
    have hv := V3.out.keep hb
    obtain ⟨q0, q1, q2, q3⟩ := hv.tells2
    have hsz := (below_step hb1 hb2).size
    have hz2 := V3.out.lt
    obtain ⟨f0, f1, f2, f3⟩ := fin_serC (w := w) hv ho (by omega) (by omega) (below_step HB.out hb) (.int .i64 m) (.slice A2 T.length c2)
    have F2 := Lib.hid (OwnI.more (b' := w.heap.size) f2 (by omega))
    have F3 := Lib.hid f3
    clear f2 f3 hv ho hb hb1 hb2 hb3 x1 x2 x3
    go_wp2
    exact bodyPost_ret (v := .tuple #[.agg #[.int .i64 m, .slice A2 T.length c2], .int .i64 0]) (by simp [results, Try.results21, go_sem, f0, f1]) rfl ⟨_, rfl, F2.out, F3.out⟩
  · rw [if_neg h0] at hc
    have HC0 := Lib.hid hc
    have HA : Hid (invL m t = (0, [], 1)) := Lib.hid (by unfold invL; rw [if_neg h0])
    rw [HA.out]
    clear b1 v3 b4 hwb hW hr hc h0 hz
    go_enter Try.func21, Try.ntmps21
    go_wp2_with fail
    rw [HW.out]
    refine HC0.out.mono ?_
    rintro e w1 ⟨rfl, hb1⟩
    have hv := V3.out.keep (hb1)
    obtain ⟨q0, q1, q2, q3⟩ := hv.tells2
    obtain ⟨f0, f1, f2, f3⟩ := fin_serC (w := w) hv (OwnI.nil _ (w.heap.size + 1 + 1)) (by omega) (by omega) (below_step HB.out (hb1)) (.int .i64 0) (.slice none 0 0)
    have F2 := Lib.hid (OwnI.more (b' := w.heap.size) f2 (by omega))
    have F3 := Lib.hid f3
    clear f2 f3 hv
    go_wp2
    exact bodyPost_ret (v := .tuple #[.agg #[.int .i64 0, .slice none 0 0], .int .i64 (1)]) (by simp [results, Try.results21, go_sem, f0, f1]) rfl ⟨_, rfl, F2.out, F3.out⟩
set_option maxHeartbeats 8000000 in
set_option maxRecDepth 100000 in
theorem sInverseOfLaw_any (m : Int) (A : Option Addr) (c : Nat) (t : List (List Int)) (w : World) (hz : szT t ≤ 1048576) (hr : RP w A t) :
    Calls Try.prog 19 #[.agg #[.int .i64 m, .slice A t.length c]] w fun e w' => ∃ s, e = .returned (.tuple #[.agg #[.int .i64 (invL m t).1, s], .int .i64 (invL m t).2.2]) ∧ OwnI w' w.heap.size s (invL m t).2.1 ∧ Below w.heap.size w w' := by
  obtain ⟨W, hW, b1, v3, hwb⟩ := spro1S w m A t.length c
  have B1 := Lib.hid b1
  have V3 := Lib.hid v3
  have HB := Lib.hid hwb
  have HW := Lib.hid hW
  have hc := l04Is_any m A c t W hz (hr.below hwb)
  by_cases h0 : isL m t = true
  · rw [h0] at hc
    have HC0 := Lib.hid hc
    obtain ⟨-, d, e1, ok, hf⟩ := isL_of h0
    have HA : Hid (invL m t = (m, Pl.invS m d (Pl.pc t) d, 0)) := Lib.hid (by unfold invL; rw [if_pos h0, e1, ← Pl.inv_same (by have := ok.m1; omega) (Pl.norm_law hf ok)]; rfl)
    rw [HA.out]
    have HI := Lib.hid (fun W0 (h : Below W.heap.size W W0) => l04Inverse_any m d A c t W0 ok ((hr.below hwb).below h))
    obtain ⟨T, hT⟩ : ∃ T, Pl.invS m d (Pl.pc t) d = T := ⟨_, rfl⟩
    rw [hT] at HI ⊢
    obtain ⟨L, hL⟩ : ∃ L, t.length = L := ⟨_, rfl⟩
    rw [hL] at HC0 HI HW B1 ⊢
    clear b1 v3 hwb hW hr hc h0 ok hf e1 hz hT hL HA
    go_enter Try.func19, Try.ntmps19
    go_wp2_with fail
    rw [HW.out]
    refine HC0.out.mono ?_
    rintro e w0 ⟨rfl, hb0⟩
    obtain ⟨x1, x2, x3⟩ := B1.out.keep hb0
    go_wp2
    go_region_held3 (fun w' => w'.cell? ⟨w.heap.size, 0, none⟩ = some (.int .i64 m) ∧ w'.cell? ⟨w.heap.size, 1, none⟩ = some (.slice A L c) ∧ w.heap.size < w'.heap.size) (first | exact ⟨x1, x2, x3⟩ | exact box_store (by omega) (by assumption) | exact box_call (by assumption) (by assumption)) (first
      | (go_at_call 61; refine (HI.out _ (below_step hb0 (below_drew0 _))).mono ?_; rintro e2 w2 ⟨s, rfl, ho, hb2⟩; obtain ⟨A2, c2, rfl, -⟩ := ho.form)
      | (go_at_call 60; refine (l02Make_any _ _ _ _ _).mono ?_; rintro e3 w3 ⟨rfl, hb3⟩; have hv := V3.out.keep (below_step (below_step (below_step hb0 (below_drew0 _)) hb2) hb3); obtain ⟨q0, q1, q2, q3⟩ := hv.tells2))
    all_goals
      have hw3 := below_step (below_step (below_step hb0 (below_drew0 _)) hb2) hb3
      have hz1 := (below_step hb0 (below_drew0 _)).size
      have hz2 := V3.out.lt
      obtain ⟨f0, f1, f2, f3⟩ := fin_serC (w := w) hv (ho.keep hb3) (by omega) (by omega) (below_step HB.out hw3) (.int .i64 m) (.slice A2 T.length c2)
      have F2 := Lib.hid (OwnI.more (b' := w.heap.size) f2 (by omega))
      have F3 := Lib.hid f3
      clear f2 f3 ho hb0 hb2 hb3 hv hw3
      go_wp2
      exact bodyPost_ret (v := .tuple #[.agg #[.int .i64 m, .slice A2 T.length c2], .int .i64 0]) (by simp [results, Try.results19, go_sem, f0, f1]) rfl ⟨_, rfl, F2.out, F3.out⟩
  · have h0' : isL m t = false := by simpa using h0
    rw [h0'] at hc
    have HC0 := Lib.hid hc
    have HA : Hid (invL m t = (0, [], 1)) := Lib.hid (by unfold invL; rw [if_neg h0])
    rw [HA.out]
    clear b1 v3 hwb hW hr hc h0 h0' hz
    go_enter Try.func19, Try.ntmps19
    go_wp2_with fail
    rw [HW.out]
    refine HC0.out.mono ?_
    rintro e w1 ⟨rfl, hb1⟩
    have hv := V3.out.keep (hb1)
    obtain ⟨q0, q1, q2, q3⟩ := hv.tells2
    obtain ⟨f0, f1, f2, f3⟩ := fin_serC (w := w) hv (OwnI.nil _ (w.heap.size + 1 + 1)) (by omega) (by omega) (below_step HB.out (hb1)) (.int .i64 0) (.slice none 0 0)
    have F2 := Lib.hid (OwnI.more (b' := w.heap.size) f2 (by omega))
    have F3 := Lib.hid f3
    clear f2 f3 hv
    go_wp2
    exact bodyPost_ret (v := .tuple #[.agg #[.int .i64 0, .slice none 0 0], .int .i64 (1)]) (by simp [results, Try.results19, go_sem, f0, f1]) rfl ⟨_, rfl, F2.out, F3.out⟩
end Go.Proofs.Ytpmbojbdppbkgaa

/- Contracts of the opposite of a curve, of the program and of the model. -/
namespace Go.Proofs.Ytpmbojbdppbkgaa
open Go.RowKit Go.WideShapes Go.ChangeShapes Go.ChangeAt

/-- the opposite of a curve -/
def oppC (m : Int) (d : Nat) (t : List (List Int)) (l : List Int) : List Int := Ser.cmpL m d (Pl.invS m d (Pl.pc t) d) l
theorem oppC_ok {m : Int} {d : Nat} {t : List (List Int)} {l : List Int} (hs : SerOk m d l) : SerOk m d (oppC m d t l) :=
  ⟨hs.m1, hs.m2, hs.d1, hs.d2, Ser.cmpL_length _ _ _ _, Ser.cmpL_red (by have := hs.m1; omega) d (Pl.invS_red (by have := hs.m1; omega) _ _ _) _⟩
theorem oppC_zero {m : Int} {d : Nat} {t : List (List Int)} {l : List Int} (hs : SerOk m d l) (hz : Ser.co l 0 = 0) : Ser.co (oppC m d t l) 0 = 0 := by
  have h := Ser.cmpL_eq (m := m) (d := d) (a := Pl.invS m d (Pl.pc t) d) hz 0 (Nat.zero_le _)
  rw [Ser.comp_zero, Pl.invS_curve m d (Pl.pc t) d (Nat.le_refl _), Int.zero_emod] at h
  obtain ⟨r1, r2⟩ := (oppC_ok (t := t) hs).red 0
  rwa [show Ser.cmpL m d (Pl.invS m d (Pl.pc t) d) l = oppC m d t l from rfl, Int.emod_eq_of_lt r1 r2] at h
theorem inv_okS {m : Int} {d : Nat} {t : List (List Int)} (hs : Pl.Ok m d t) : SerOk m d (Pl.invS m d (Pl.pc t) d) :=
  ⟨hs.m1, hs.m2, hs.d1, hs.d2, Pl.invS_length _ _ _ _, Pl.invS_red (by have := hs.m1; omega) _ _ _⟩
set_option maxHeartbeats 4000000 in
set_option maxRecDepth 100000 in
theorem l04Opposite_any (m : Int) (d : Nat) (A : Option Addr) (c : Nat) (t : List (List Int)) (A1 : Option Addr) (c1 : Nat) (l1 : List Int) (w : World) (hs : Pl.Ok m d t) (s1 : SerOk m d l1) (z1 : Ser.co l1 0 = 0) (hr : RP w A t) (hr1 : RI w A1 l1) :
    Calls Try.prog 77 #[.agg #[.int .i64 m, .slice A t.length c], .slice A1 l1.length c1] w fun e w' => ∃ v, e = .returned v ∧ OwnI w' w.heap.size v (oppC m d t l1) ∧ Below w.heap.size w w' := by
  obtain ⟨W, hW, b1, hwb⟩ := start1 31 w m A t.length c
  have B1 := Lib.hid b1
  have HB := Lib.hid hwb
  have HW := Lib.hid hW
  have hd2 := hs.d2
  have HI := Lib.hid (fun W0 (h : Below W.heap.size W W0) => l04Inverse_any m d A c t W0 hs ((hr.below hwb).below h))
  have HCM := Lib.hid (fun (A2 : Option Addr) (c2 : Nat) W0 (h : Below W.heap.size W W0) (h2 : RI W0 A2 (Pl.invS m d (Pl.pc t) d)) =>
    l02Compose_any m d A2 c2 (Pl.invS m d (Pl.pc t) d) A1 c1 l1 W0 hs.m1 hs.m2 (by omega) (by rw [Pl.invS_length]; omega) (by rw [Pl.invS_length]; omega) (by have := s1.len; omega) (Pl.invS_red (by have := hs.m1; omega) _ _ _) s1.red z1 h2 ((hr1.below hwb).below h))
  obtain ⟨R, hR⟩ : ∃ R, oppC m d t l1 = R := ⟨_, rfl⟩
  rw [show Ser.horC m d (Ser.co (Pl.invS m d (Pl.pc t) d)) (Ser.co l1) (d + 1) = R from hR] at HCM
  rw [hR]
  obtain ⟨V, hV⟩ : ∃ V, Pl.invS m d (Pl.pc t) d = V := ⟨_, rfl⟩
  rw [hV] at HI HCM
  have hn1 := s1.len
  obtain ⟨n1, hn⟩ : ∃ n, l1.length = n := ⟨_, rfl⟩
  rw [hn] at HCM hn1 ⊢
  obtain ⟨L, hL⟩ : ∃ L, t.length = L := ⟨_, rfl⟩
  rw [hL] at HI HW B1 ⊢
  obtain ⟨D, hD⟩ : ∃ D : Int, D = (d : Int) := ⟨_, rfl⟩
  rw [← hD] at HCM
  have hnb : n1 ≤ 11 := by omega
  have e1 : IntKind.i64.wrap ((n1 : Int) - 1) = D := by rw [IntKind.wrap_i64]; omega
  have hsz : w.heap.size < W.heap.size := b1.2.2
  obtain ⟨x1, x2, -⟩ := b1
  rw [hL] at x2
  have HF := Lib.hid (fun w' (h : Below W.heap.size W w') => (⟨(h.cell (p := ⟨w.heap.size, 0, none⟩) (by simp; omega)).trans x1, (h.cell (p := ⟨w.heap.size, 1, none⟩) (by simp; omega)).trans x2⟩ :
    w'.cell? ⟨w.heap.size, 0, none⟩ = some (.int .i64 m) ∧ w'.cell? ⟨w.heap.size, 1, none⟩ = some (.slice A L c)))
  have X0 := Lib.hid (keepW HF.out (below_drew0 W))
  clear hwb hW hr hr1 hs s1 z1 hV hR hn hL hn1 hD hd2 x1 x2 B1
  go_enter Try.func77, Try.ntmps77
  go_wp2
  rw [HW.out]
  go_region_held3 (fun w' => (w'.cell? ⟨w.heap.size, 0, none⟩ = some (.int .i64 m) ∧ w'.cell? ⟨w.heap.size, 1, none⟩ = some (.slice A L c)) ∧ Below W.heap.size W w') (first | exact X0.out | exact keepS HF.out (Nat.le_refl _) (by assumption) hbb | exact keepS HF.out (Nat.le_refl _) (by assumption) hba) (first
    | (go_at_call 61; with_reducible refine Calls.mono (HI.out _ (below_drew0 _)) ?_; rintro e wa ⟨va, rfl, hoa, hba⟩; obtain ⟨A2, c2, rfl, -⟩ := hoa.form)
    | (go_at_call 114; with_reducible refine Calls.mono (HCM.out _ _ _ (below_step (below_drew0 _) hba) hoa.ri) ?_; rintro e wb ⟨vb, rfl, hob, hbb⟩))
  all_goals
    have hzz := (below_step (below_drew0 W) hba).size
    have HO := Lib.hid (hob.more (b' := w.heap.size) (by omega))
    have HB9 := Lib.hid (below_step HB.out (below_step (below_step (below_drew0 _) hba) hbb))
    clear hob hoa hba hbb hzz
    go_wp2
    go_ret
    exact ⟨_, rfl, HO.out, HB9.out⟩
/-- a law's box, a series' box, a series' variable -/
theorem pro_lawSV (w : World) (m : Int) (d : Nat) (A : Option Addr) (n c : Nat) (m1 : Int) (A1 : Option Addr) (n1 c1 : Nat) :
    ∃ W, ((w.alloc (.cells #[.int .i64 m, .int .i64 d, .slice A n c] 68)).alloc (.cells #[.int .i64 m1, .slice A1 n1 c1] 28)).alloc (.cells #[.int .i64 0, .slice none 0 0] 28) = W ∧
    GBox W w.heap.size m d A n c ∧ Box W (w.heap.size + 1) m1 A1 n1 c1 ∧ VarC 28 W (w.heap.size + 1 + 1) #[.int .i64 0, .slice none 0 0] ∧ Below w.heap.size w W := by
  refine ⟨_, rfl, ((GBox.new _ _ _ _ _ _ _).keep (below_one _ _)).keep (below_one _ _), ?_, ?_, below_alloc _ (below_alloc _ (below_one _ _))⟩
  · have := (Box.newT 28 (w.alloc (.cells #[.int .i64 m, .int .i64 d, .slice A n c] 68)) m1 A1 n1 c1).keep (below_one _ (.cells #[.int .i64 0, .slice none 0 0] 28))
    simpa using this
  · have := VarC.new 28 ((w.alloc (.cells #[.int .i64 m, .int .i64 d, .slice A n c] 68)).alloc (.cells #[.int .i64 m1, .slice A1 n1 c1] 28)) #[.int .i64 0, .slice none 0 0]
    simpa using this
set_option maxHeartbeats 4000000 in
set_option maxRecDepth 100000 in
theorem opposite_any (m : Int) (d : Nat) (A : Option Addr) (c : Nat) (t : List (List Int)) (A1 : Option Addr) (c1 : Nat) (l1 : List Int) (w : World) (hs : Pl.Ok m d t) (hf : Pl.fau m d (Pl.pc t) = none) (s1 : SerOk m d l1) (hr : RP w A t) (hr1 : RI w A1 l1) :
    Calls Try.prog 78 #[.agg #[.int .i64 m, .int .i64 d, .slice A t.length c], .agg #[.int .i64 m, .slice A1 l1.length c1]] w fun e w' => ∃ v, e = .returned (.agg #[.int .i64 m, v]) ∧ OwnI w' w.heap.size v (oppC m d t l1) ∧ Below w.heap.size w w' := by
  obtain ⟨W, hW, b1, b2, v3, hwb⟩ := pro_lawSV w m d A t.length c m A1 l1.length c1
  have V3 := Lib.hid v3
  have HB := Lib.hid hwb
  have HW := Lib.hid hW
  have m1 := hs.m1
  have HI := Lib.hid (fun W0 (h : Below W.heap.size W W0) => by
    have := inverseL_any m d A c t W0 hs hf ((hr.below hwb).below h)
    rw [Pl.inv_same (by omega) (Pl.norm_law hf hs)] at this
    exact this)
  have HCM := Lib.hid (fun (A2 : Option Addr) (c2 : Nat) W0 (h : Below W.heap.size W W0) (h2 : RI W0 A2 (Pl.invS m d (Pl.pc t) d)) =>
    composed_any m d A2 c2 (Pl.invS m d (Pl.pc t) d) m A1 c1 l1 W0 (inv_okS hs) s1 h2 ((hr1.below hwb).below h))
  obtain ⟨R, hR⟩ : ∃ R, oppC m d t l1 = R := ⟨_, rfl⟩
  rw [show Ser.cmpL m d (Pl.invS m d (Pl.pc t) d) l1 = R from hR] at HCM
  rw [hR]
  obtain ⟨V, hV⟩ : ∃ V, Pl.invS m d (Pl.pc t) d = V := ⟨_, rfl⟩
  rw [hV] at HI HCM
  obtain ⟨n1, hn⟩ : ∃ n, l1.length = n := ⟨_, rfl⟩
  rw [hn] at HCM HW b2 ⊢
  obtain ⟨L, hL⟩ : ∃ L, t.length = L := ⟨_, rfl⟩
  rw [hL] at HI HW b1 ⊢
  have hsz : w.heap.size + 1 + 1 < W.heap.size := v3.lt
  obtain ⟨x1, x2, x3, -⟩ := b1
  obtain ⟨y1, y2, -⟩ := b2
  have HF := Lib.hid (fun w' (h : Below (w.heap.size + 1 + 1) W w') => (⟨⟨(h.cell (p := ⟨w.heap.size, 0, none⟩) (by simp; omega)).trans x1, (h.cell (p := ⟨w.heap.size, 1, none⟩) (by simp; omega)).trans x2, (h.cell (p := ⟨w.heap.size, 2, none⟩) (by simp; omega)).trans x3⟩,
      (h.cell (p := ⟨w.heap.size + 1, 0, none⟩) (by simp)).trans y1, (h.cell (p := ⟨w.heap.size + 1, 1, none⟩) (by simp)).trans y2⟩ :
    (w'.cell? ⟨w.heap.size, 0, none⟩ = some (.int .i64 m) ∧ w'.cell? ⟨w.heap.size, 1, none⟩ = some (.int .i64 d) ∧ w'.cell? ⟨w.heap.size, 2, none⟩ = some (.slice A L c)) ∧ w'.cell? ⟨w.heap.size + 1, 0, none⟩ = some (.int .i64 m) ∧ w'.cell? ⟨w.heap.size + 1, 1, none⟩ = some (.slice A1 n1 c1)))
  have X0 := Lib.hid (keepW HF.out (below_less (by omega) (below_drew0 W)))
  clear v3 hwb hW hr hr1 hs hf s1 hR hL hn hV x1 x2 x3 y1 y2
  go_enter Try.func78, Try.ntmps78
  go_wp2
  rw [HW.out]
  go_region_held3 (fun w' => ((w'.cell? ⟨w.heap.size, 0, none⟩ = some (.int .i64 m) ∧ w'.cell? ⟨w.heap.size, 1, none⟩ = some (.int .i64 d) ∧ w'.cell? ⟨w.heap.size, 2, none⟩ = some (.slice A L c)) ∧ w'.cell? ⟨w.heap.size + 1, 0, none⟩ = some (.int .i64 m) ∧ w'.cell? ⟨w.heap.size + 1, 1, none⟩ = some (.slice A1 n1 c1)) ∧ Below (w.heap.size + 1 + 1) W w') (first | exact X0.out | exact keep2 HF.out (by omega) _ _ (by assumption) | exact keepS HF.out (by omega) (by assumption) hbb | exact keepS HF.out (by omega) (by assumption) hba) (first
    | (go_at_call 65; with_reducible refine Calls.mono (HI.out _ (below_drew0 _)) ?_; rintro e wa ⟨va, rfl, hoa, hba⟩; obtain ⟨A2, c2, rfl, -⟩ := hoa.form)
    | (go_at_call 115; with_reducible refine Calls.mono (HCM.out _ _ _ (below_step (below_drew0 _) hba) hoa.ri) ?_; rintro e wb ⟨vb, rfl, hob, hbb⟩; obtain ⟨A3, c3, rfl, -⟩ := hob.form; have hv := V3.out.keep (below_step (below_step (below_drew0 W) hba) hbb); obtain ⟨q0, q1, q2, q3⟩ := hv.tells2))
  all_goals
    have hw3 := below_step (below_step (below_drew0 W) hba) hbb
    have hzz := (below_step (below_drew0 W) hba).size
    obtain ⟨f0, f1, f2, f3⟩ := fin_serC (w := w) hv hob (by omega) (by omega) (below_step HB.out hw3) (.int .i64 m) (.slice A3 R.length c3)
    have F2 := Lib.hid (OwnI.more (b' := w.heap.size) f2 (by omega))
    have F3 := Lib.hid f3
    clear f2 f3 hob hoa hba hbb hv hw3
    go_wp2
    exact bodyPost_ret (v := .agg #[.int .i64 m, .slice A3 R.length c3]) (by simp [results, Try.results78, go_sem, f0, f1]) rfl ⟨_, rfl, F2.out, F3.out⟩
end Go.Proofs.Ytpmbojbdppbkgaa

