/- Texts of contracts, joined. -/
import Derived.Test.YtfhdgcndiljjcaaGreatDoorMgah
import Derived.Test.YtfhdgcndiljjcaaGreatDoorMgai
import Derived.StillTailTactics
import Derived.Test.YtfhdgcndiljjcaaGreatDoorMgaa
import Derived.Test.YtfhdgcndiljjcaaGreatDoorRows
import Derived.ChangeSame
import Derived.ChangeVars
import Derived.JoinedOf
import Derived.RowKitTokens
import Derived.LaidLaws
import Derived.LaidHandle
import Derived.Stop.Joined
import Derived.Test.YtfhdgcndiljjcaaGreatDoorMgab
import Derived.Test.YtfhdgcndiljjcaaGreatDoorMgad
import Derived.Deep.Matrix
/- Contracts of multipleOverField and codeOfError. -/
namespace Go.Proofs.YtfhdgcndiljjcaaGreatDoor
open Go Go.RowKit Go.WideShapes Go.ChangeShapes Go.ChangeAt

/-- a law's box and a multiple's variable -/
theorem pro_lawM (w : World) (m : Int) (d : Nat) (A : Option Addr) (n c : Nat) : ∃ W, (w.alloc (.cells #[.int .i64 m, .int .i64 d, .slice A n c] 65)).alloc (.cells #[.int .i64 0, .slice none 0 0] 71) = W ∧
    GBox W w.heap.size m d A n c ∧ VarC 71 W (w.heap.size + 1) #[.int .i64 0, .slice none 0 0] ∧ Below w.heap.size w W := by
  refine ⟨_, rfl, (GBox.new _ _ _ _ _ _ _).keep (below_one _ _), ?_, below_alloc _ (below_one _ _)⟩
  have := VarC.new 71 (w.alloc (.cells #[.int .i64 m, .int .i64 d, .slice A n c] 65)) #[.int .i64 0, .slice none 0 0]
  simpa using this
set_option maxHeartbeats 8000000 in
set_option maxRecDepth 100000 in
theorem overField_no (m : Int) (d : Nat) (A : Option Addr) (n c : Nat) (k : Int) (w : World) (hp : isP4 m = false) :
    Calls Tryz.prog 43 #[.agg #[.int .i64 m, .int .i64 d, .slice A n c], .int .i64 k] w fun e w' => e = .returned (.tuple #[.agg #[.int .i64 0, .slice none 0 0], .iface 83 (.agg #[.int .i64 m])]) ∧ Below w.heap.size w w' := by
  obtain ⟨W, hW, b1, v2, hwb⟩ := pro_lawM w m d A n c
  have V2 := Lib.hid v2
  have HB := Lib.hid hwb
  have HW := Lib.hid hW
  have HP := Lib.hid (fun W0 => isTypicalPrime_any m W0)
  rw [hp] at HP
  have hsz : w.heap.size + 1 < W.heap.size := v2.lt
  obtain ⟨x1, x2, x3, -⟩ := b1
  have HF := Lib.hid (fun w' (h : Below (w.heap.size + 1) W w') => (⟨(h.cell (p := ⟨w.heap.size, 0, none⟩) (by simp)).trans x1, (h.cell (p := ⟨w.heap.size, 1, none⟩) (by simp)).trans x2, (h.cell (p := ⟨w.heap.size, 2, none⟩) (by simp)).trans x3⟩ :
    w'.cell? ⟨w.heap.size, 0, none⟩ = some (.int .i64 m) ∧ w'.cell? ⟨w.heap.size, 1, none⟩ = some (.int .i64 d) ∧ w'.cell? ⟨w.heap.size, 2, none⟩ = some (.slice A n c)))
  have X0 := Lib.hid (keepW HF.out (below_less (by omega) (below_drew0 W)))
  have X1 := Lib.hid (keepW HF.out ((((Below.refl (w.heap.size + 1) W).setCell (p := ⟨w.heap.size + 1, 0, none⟩) (Nat.le_refl _) (.int .i64 0)).setCell (p := ⟨w.heap.size + 1, 1, none⟩) (Nat.le_refl _) (.slice none 0 0)).drew))
  clear v2 hwb hW hp
  go_enter Tryz.func43, Tryz.ntmps43
  go_wp2_with fail
  rw [HW.out]
  go_wp2_with fail
  refine (HP.out _).mono ?_
  rintro e w1 ⟨rfl, rfl⟩
  go_upto_region 2 with fail
  clear x1 x2 x3
  have hv := V2.out
  obtain ⟨q0, q1, q2, q3⟩ := hv.tells2
  obtain ⟨f0, f1, f2, f3⟩ := fin_serC (w := w) hv (OwnI.nil _ (w.heap.size + 1 + 1)) (by omega) (by omega) HB.out (.int .i64 0) (.slice none 0 0)
  have F3 := Lib.hid f3
  clear f2 f3 hv
  go_region_held3 (fun w' => (w'.cell? ⟨w.heap.size, 0, none⟩ = some (.int .i64 m) ∧ w'.cell? ⟨w.heap.size, 1, none⟩ = some (.int .i64 d) ∧ w'.cell? ⟨w.heap.size, 2, none⟩ = some (.slice A n c)) ∧ Below (w.heap.size + 1) W w') (first | exact X0.out | exact X1.out) (fail)
  all_goals
    go_wp2
    exact bodyPost_ret (v := .tuple #[.agg #[.int .i64 0, .slice none 0 0], .iface 83 (.agg #[.int .i64 m])]) (by simp [results, Tryz.results43, go_sem, f0, f1]) rfl ⟨rfl, F3.out.drew⟩
set_option maxHeartbeats 8000000 in
set_option maxRecDepth 100000 in
theorem overField_ok (m : Int) (d : Nat) (A : Option Addr) (c : Nat) (t : List (List Int)) (k : Int) (w : World) (hs : Pl.Ok m d t) (hf : Pl.fau m d (Pl.pc t) = none) (hp : isP4 m = true) (hn1 : -1000000 ≤ k) (hn2 : k ≤ 1000000) (hr : RP w A t) :
    Calls Tryz.prog 43 #[.agg #[.int .i64 m, .int .i64 d, .slice A t.length c], .int .i64 k] w fun e w' => ∃ v, e = .returned (.tuple #[.agg #[.int .i64 m, v], .nilIface]) ∧ OwnI w' w.heap.size v (mulC m d t k (Pl.lin m d 1)) ∧ Below w.heap.size w w' := by
  obtain ⟨W, hW, b1, v2, hwb⟩ := pro_lawM w m d A t.length c
  have V2 := Lib.hid v2
  have HB := Lib.hid hwb
  have HW := Lib.hid hW
  have HP := Lib.hid (fun W0 => isTypicalPrime_any m W0)
  rw [hp] at HP
  have hd2 := hs.d2
  have HL := Lib.hid (fun W0 => line_any m d A t.length c 1 W0 hs.m1 hs.m2 hd2 (by omega) (by omega))
  have HM := Lib.hid (fun W0 (h : Below W.heap.size W W0) A1 c1 (h1 : RI W0 A1 (Pl.lin m d 1)) => multiple_any m d A c t k A1 c1 (Pl.lin m d 1) W0 hs hf (lin_cv hs 1) hn1 hn2 ((hr.below hwb).below h) h1)
  obtain ⟨Z, hZ⟩ : ∃ Z, Pl.lin m d 1 = Z := ⟨_, rfl⟩
  rw [hZ] at HL HM ⊢
  obtain ⟨R, hR⟩ : ∃ R, mulC m d t k Z = R := ⟨_, rfl⟩
  rw [hR] at HM ⊢
  obtain ⟨L, hL⟩ : ∃ L, t.length = L := ⟨_, rfl⟩
  rw [hL] at HL HM HW b1 ⊢
  have hsz : w.heap.size + 1 < W.heap.size := v2.lt
  obtain ⟨x1, x2, x3, -⟩ := b1
  have HF := Lib.hid (fun w' (h : Below (w.heap.size + 1) W w') => (⟨(h.cell (p := ⟨w.heap.size, 0, none⟩) (by simp)).trans x1, (h.cell (p := ⟨w.heap.size, 1, none⟩) (by simp)).trans x2, (h.cell (p := ⟨w.heap.size, 2, none⟩) (by simp)).trans x3⟩ :
    w'.cell? ⟨w.heap.size, 0, none⟩ = some (.int .i64 m) ∧ w'.cell? ⟨w.heap.size, 1, none⟩ = some (.int .i64 d) ∧ w'.cell? ⟨w.heap.size, 2, none⟩ = some (.slice A L c)))
  have X0 := Lib.hid (keepW HF.out (below_less (by omega) (below_drew0 W)))
  clear v2 hwb hW hr hs hf hR hL hp hZ
  go_enter Tryz.func43, Tryz.ntmps43
  go_wp2_with fail
  rw [HW.out]
  go_wp2_with fail
  refine (HP.out _).mono ?_
  rintro e w1 ⟨rfl, rfl⟩
  go_wp2_with fail
  clear x1 x2 x3
  go_region_held3 (fun w' => (w'.cell? ⟨w.heap.size, 0, none⟩ = some (.int .i64 m) ∧ w'.cell? ⟨w.heap.size, 1, none⟩ = some (.int .i64 d) ∧ w'.cell? ⟨w.heap.size, 2, none⟩ = some (.slice A L c)) ∧ Below (w.heap.size + 1) W w') (first | exact X0.out | exact keep2 HF.out (by omega) _ _ (by assumption) | exact keepS HF.out (by omega) (by assumption) hbb | exact keepS HF.out (by omega) (by assumption) hba) (first
    | (go_at_call 59; with_reducible refine Calls.mono (HL.out _) ?_; rintro e wa ⟨va, rfl, hoa, hba⟩; obtain ⟨A2, c2, rfl, -⟩ := hoa.form)
    | (go_at_call 58; with_reducible refine Calls.mono (HM.out _ (below_step (below_drew0 _) hba) _ _ hoa.ri) ?_; rintro e wb ⟨vb, rfl, hob, hbb⟩; obtain ⟨A3, c3, rfl, -⟩ := hob.form; have hv := V2.out.keep (below_step (below_step (below_drew0 W) hba) hbb); obtain ⟨q0, q1, q2, q3⟩ := hv.tells2))
  all_goals
    have hw3 := below_step (below_step (below_drew0 W) hba) hbb
    have hzz := (below_step (below_drew0 W) hba).size
    obtain ⟨f0, f1, f2, f3⟩ := fin_serC (w := w) hv hob (by omega) (by omega) (below_step HB.out hw3) (.int .i64 m) (.slice A3 R.length c3)
    have F2 := Lib.hid (OwnI.more (b' := w.heap.size) f2 (by omega))
    have F3 := Lib.hid f3
    clear f2 f3 hob hoa hba hbb hv hw3
    go_wp2
    exact bodyPost_ret (v := .tuple #[.agg #[.int .i64 m, .slice A3 R.length c3], .nilIface]) (by simp [results, Tryz.results43, go_sem, f0, f1]) rfl ⟨_, rfl, F2.out, F3.out⟩
/-- what an error means -/
theorem codeOfError_nil (w : World) :
    Calls Tryz.prog 41 #[.nilIface] w fun e w' => e = .returned (.int .i64 0) ∧ Below w.heap.size w w' := by
  go_enter Tryz.func41, Tryz.ntmps41
  go_wp2
  go_ret
  exact ⟨rfl, below_one _ _⟩
theorem codeOfError_hit (m : Int) (w : World) (hg : ErrT w) :
    Calls Tryz.prog 41 #[.iface 83 (.agg #[.int .i64 m])] w fun e w' => e = .returned (.int .i64 5) ∧ Below w.heap.size w w' := by
  have hlt := hg.lt
  have HA := Lib.hid (as_hit m ⟨w.heap.size, 0, none⟩ (.int .i64 0) (w.alloc (.cells #[.int .i64 0] 83)) (hg.keep (below_one _ _) hlt) (by simp) (by simp))
  go_enter Tryz.func41, Tryz.ntmps41
  go_wp2_with fail
  refine HA.out.mono ?_
  rintro e w1 ⟨rfl, hb⟩
  go_wp2
  go_ret
  exact ⟨rfl, (below_one _ _).trans hb⟩
theorem codeOfError_miss (v : Value) (w : World) (hg : ErrT w) :
    Calls Tryz.prog 41 #[.iface 155 v] w fun e w' => e = .returned (.int .i64 4) ∧ Below w.heap.size w w' := by
  have hlt := hg.lt
  have HA := Lib.hid (as_miss v ⟨w.heap.size, 0, none⟩ (.int .i64 0) (w.alloc (.cells #[.int .i64 0] 83)) (hg.keep (below_one _ _) hlt) (by simp))
  go_enter Tryz.func41, Tryz.ntmps41
  go_wp2_with fail
  refine HA.out.mono ?_
  rintro e w1 ⟨rfl, hb⟩
  go_wp2
  go_ret
  exact ⟨rfl, below_step (below_one _ _) hb⟩
end Go.Proofs.YtfhdgcndiljjcaaGreatDoor

/- Contracts of OrderOfSeries, of the program and of the model. -/
namespace Go.Proofs.YtfhdgcndiljjcaaGreatDoor
open Go.RowKit Go.WideShapes Go.ChangeShapes Go.ChangeAt

/-- the least index from k on with a number other than 0 -/
def ordF (l : List Int) : Nat → Nat → Int × Int
  | 0, _ => (0, 5)
  | f + 1, k => if Ser.co l k = 0 then ordF l f (k + 1) else ((k : Int), 0)
def ordM (m : Int) (l : List Int) : Int × Int := if isS m l = true then ordF l l.length 0 else (0, 1)
theorem ordF_zero (l : List Int) (f k : Nat) (h : Ser.co l k = 0) : ordF l (f + 1) k = ordF l f (k + 1) := by rw [ordF, if_pos h]
theorem ordF_not (l : List Int) (f k : Nat) (h : ¬ Ser.co l k = 0) : ordF l (f + 1) k = ((k : Int), 0) := by rw [ordF, if_neg h]

set_option maxHeartbeats 2000000 in
theorem OrderOfSeries_any (m : Int) (A : Option Addr) (c : Nat) (l : List Int) (w : World) (hl : l.length ≤ 1048576) (hr : RI w A l) :
    Calls Tryz.prog 62 #[.agg #[.int .i64 m, .slice A l.length c]] w fun e w' => e = .returned (.tuple #[.int .i64 (ordM m l).1, .int .i64 (ordM m l).2]) ∧ Below w.heap.size w w' := by
  obtain ⟨W, hW, b1, b4, hwb⟩ := pro0 w m A l.length c
  have B1 := Lib.hid b1
  have HB := Lib.hid hwb
  have HW := Lib.hid hW
  have R1 := Lib.hid (hr.below hwb)
  have HC := Lib.hid (codeOfSeries1_any (w.heap.size + 1) m A c l W (by omega) R1.out b4)
  clear b1 b4 hwb hW hr
  by_cases h0 : isS m l = true
  · have HF := Lib.hid (show ordM m l = ordF l l.length 0 by unfold ordM; rw [if_pos h0])
    have hc := HC.out
    rw [code1_isS h0] at hc
    have HC0 := Lib.hid hc
    clear hc HC
    go_enter Tryz.func62, Tryz.ntmps62
    go_wp2_with fail
    rw [HW.out]
    refine HC0.out.mono ?_
    rintro e w1 ⟨rfl, hb1⟩
    obtain ⟨x1, x2⟩ := box_in B1.out hb1
    have HR := Lib.hid (R1.out.below hb1)
    go_wp2
    go_loop [16] (fun i => ∃ k f : Nat, k + f = l.length ∧ i = .int .i64 k ∧ ordF l l.length 0 = ordF l f k) (fun i => l.length - (intOf i).toNat)
    case atStart => exact ⟨0, l.length, Nat.zero_add _, rfl, rfl⟩
    case round =>
      obtain ⟨k, f, hk, rfl, hq⟩ := hrel
      have HQ := Lib.hid hq
      have hk2 : k ≤ l.length := by omega
      have HK := Lib.hid hk
      clear hq hk
      by_cases hlt : k < l.length
      · obtain ⟨b, off, rfl, hb, hc⟩ := HR.out.at k hlt
        obtain ⟨f, rfl⟩ : ∃ f', f = f' + 1 := ⟨f - 1, by have := HK.out; omega⟩
        by_cases hz : Ser.co l k = 0
        · have HN := Lib.hid (ordF_zero l f k hz)
          rw [hz] at hc
          clear hz
          go_wp2
          go_round
          case rel => exact ⟨k + 1, f, by have := HK.out; omega, by go_num, by rw [HQ.out, HN.out]⟩
          case measure => simp only [intOf]; omega
        · have HN := Lib.hid (ordF_not l f k hz)
          obtain ⟨n1, n2⟩ := ne_facts hz
          obtain ⟨X, hX⟩ : ∃ X, Ser.co l k = X := ⟨_, rfl⟩
          rw [hX] at hc n1 n2 hz
          clear hX
          go_wp2
          go_ret2
          exact ⟨ret_i2 (by rw [HF.out, HQ.out, HN.out]) (by rw [HF.out, HQ.out, HN.out]), below_step HB.out hb1⟩
      · obtain rfl : f = 0 := by have := HK.out; omega
        go_wp2
        go_ret2
        exact ⟨ret_i2 (by rw [HF.out, HQ.out]; rfl) (by rw [HF.out, HQ.out]; rfl), below_step HB.out hb1⟩
  · have h0' : isS m l = false := by simpa using h0
    have HF := Lib.hid (show ordM m l = (0, 1) by unfold ordM; rw [if_neg h0])
    have hc := HC.out
    rw [code1_no h0'] at hc
    have HC0 := Lib.hid hc
    clear hc HC h0
    go_enter Tryz.func62, Tryz.ntmps62
    go_wp2_with fail
    rw [HW.out]
    refine HC0.out.mono ?_
    rintro e w1 ⟨rfl, hb1⟩
    go_wp2
    go_ret2
    exact ⟨ret_i2 (by rw [HF.out]) (by rw [HF.out]), below_step HB.out hb1⟩

end Go.Proofs.YtfhdgcndiljjcaaGreatDoor

/- Contract of multipleAndOrder. -/
namespace Go.Proofs.YtfhdgcndiljjcaaGreatDoor
open Go Go.RowKit Go.WideShapes Go.ChangeShapes Go.ChangeAt

/-- the cell in which the error of a multiple that is 0 lies -/
def ErrZ (w : World) (v : Value) : Prop := w.cell? ⟨0, 0, none⟩ = some (.iface 155 v)
theorem ErrZ.keep {B : Nat} {w w' : World} {v : Value} (h : ErrZ w v) (hb : Below B w w') (hB : 0 < B) : ErrZ w' v := by
  unfold ErrZ at *
  rw [hb.cell hB]; exact h
set_option maxHeartbeats 8000000 in
set_option maxRecDepth 100000 in
theorem andOrder_no (m : Int) (d : Nat) (A : Option Addr) (n c : Nat) (k : Int) (w : World) (hp : isP4 m = false) :
    Calls Tryz.prog 48 #[.agg #[.int .i64 m, .int .i64 d, .slice A n c], .int .i64 k] w fun e w' => e = .returned (.tuple #[.agg #[.int .i64 0, .slice none 0 0], .int .i64 0, .iface 83 (.agg #[.int .i64 m])]) ∧ Below w.heap.size w w' := by
  obtain ⟨W, hW, b1, v2, hwb⟩ := pro_lawM w m d A n c
  have V2 := Lib.hid v2
  have HB := Lib.hid hwb
  have HW := Lib.hid hW
  have HO := Lib.hid (fun W0 => overField_no m d A n c k W0 hp)
  obtain ⟨x1, x2, x3, -⟩ := b1
  clear v2 hwb hW hp
  go_enter Tryz.func48, Tryz.ntmps48
  go_wp2_with fail
  rw [HW.out]
  go_wp2_with fail
  refine (HO.out _).mono ?_
  rintro e w1 ⟨rfl, hb1⟩
  obtain ⟨X, hX⟩ : ∃ X, w1.alloc (.cells #[.int .i64 0, .slice none 0 0] 71) = X := ⟨_, rfl⟩
  have hbX : Below W.heap.size W X := by rw [← hX]; exact below_alloc _ hb1
  have HX := Lib.hid hX
  have hv := V2.out.keep hbX
  obtain ⟨q0, q1, q2, q3⟩ := hv.tells2
  obtain ⟨f0, f1, f2, f3⟩ := fin_serC (w := w) hv (OwnI.nil _ (w.heap.size + 1 + 1)) (by omega) (by omega) (below_step HB.out hbX) (.int .i64 0) (.slice none 0 0)
  have F3 := Lib.hid f3
  clear f2 f3 hv hX hbX hb1
  go_upto_region 2 with fail
  rw [HX.out]
  go_wp2
  exact bodyPost_ret (v := .tuple #[.agg #[.int .i64 0, .slice none 0 0], .int .i64 0, .iface 83 (.agg #[.int .i64 m])]) (by simp [results, Tryz.results48, go_sem, f0, f1]) rfl ⟨rfl, F3.out⟩
set_option maxHeartbeats 8000000 in
set_option maxRecDepth 100000 in
theorem andOrder_zero (m : Int) (d : Nat) (A : Option Addr) (c : Nat) (t : List (List Int)) (k : Int) (v : Value) (w : World) (hs : Pl.Ok m d t) (hf : Pl.fau m d (Pl.pc t) = none) (hp : isP4 m = true) (hn1 : -1000000 ≤ k) (hn2 : k ≤ 1000000) (hr : RP w A t) (hz : ErrZ w v) (hw0 : 0 < w.heap.size)
    (hC : (ordM m (mulC m d t k (Pl.lin m d 1))).2 ≠ 0) :
    Calls Tryz.prog 48 #[.agg #[.int .i64 m, .int .i64 d, .slice A t.length c], .int .i64 k] w fun e w' => e = .returned (.tuple #[.agg #[.int .i64 0, .slice none 0 0], .int .i64 0, .iface 155 v]) ∧ Below w.heap.size w w' := by
  obtain ⟨W, hW, b1, v2, hwb⟩ := pro_lawM w m d A t.length c
  have V2 := Lib.hid v2
  have HB := Lib.hid hwb
  have HW := Lib.hid hW
  have HO := Lib.hid (fun W0 (h : Below W.heap.size W W0) => overField_ok m d A c t k W0 hs hf hp hn1 hn2 ((hr.below hwb).below h))
  have hRl := (mulC_cv hs (Pl.norm_law hf hs) k (lin_cv hs 1)).1.len
  have hd2 := hs.d2
  obtain ⟨R, hR⟩ : ∃ R, mulC m d t k (Pl.lin m d 1) = R := ⟨_, rfl⟩
  rw [hR] at HO hC hRl
  have HRO := Lib.hid (fun A1 c1 W0 (h1 : RI W0 A1 R) => OrderOfSeries_any m A1 c1 R W0 (by omega) h1)
  obtain ⟨⟨X1, C⟩, hX1⟩ : ∃ x, ordM m R = x := ⟨_, rfl⟩
  rw [hX1] at HRO hC
  rw [hRl] at HRO
  obtain ⟨n1, n2⟩ := ne_facts hC
  have HZ := Lib.hid (hz.keep hwb hw0)
  have hsz : w.heap.size + 1 < W.heap.size := v2.lt
  obtain ⟨x1, x2, x3, -⟩ := b1
  obtain ⟨L, hL⟩ : ∃ L, t.length = L := ⟨_, rfl⟩
  rw [hL] at HO HW x3 ⊢
  clear v2 hwb hW hr hs hf hp hR hX1 hL hz hC
  go_enter Tryz.func48, Tryz.ntmps48
  go_wp2_with fail
  rw [HW.out]
  go_wp2_with fail
  refine (HO.out _ (Below.refl _ _)).mono ?_
  rintro e w1 ⟨u, rfl, ho, hb1⟩
  obtain ⟨A1, c1, rfl, -⟩ := ho.form
  rw [hRl] at ho ⊢
  obtain ⟨X, hX⟩ : ∃ X, w1.alloc (.cells #[.int .i64 m, .slice A1 (d + 1) c1] 71) = X := ⟨_, rfl⟩
  have hbX : Below W.heap.size W X := by rw [← hX]; exact below_alloc _ hb1
  have v7 : VarC 71 X w1.heap.size #[.int .i64 m, .slice A1 (d + 1) c1] := by rw [← hX]; exact VarC.new _ _ _
  have hrX : RI X A1 R := by rw [← hX]; exact ho.ri.below (below_one _ _)
  have HX := Lib.hid hX
  have HBX := Lib.hid hbX
  have HO1 := Lib.hid (HRO.out A1 c1 X hrX)
  obtain ⟨g7, hg7⟩ : ∃ g, w1.heap.size = g := ⟨_, rfl⟩
  rw [hg7] at v7
  have HG := Lib.hid hg7
  obtain ⟨y1, y2, -, -⟩ := v7.tells2
  clear hX hbX hb1 ho v7 hrX hg7 x1 x2 x3
  go_upto_region 2 with fail
  rw [HX.out, HG.out]
  go_wp2_with fail
  refine HO1.out.mono ?_
  rintro e w2 ⟨rfl, hb2⟩
  have hbW := below_step HBX.out hb2
  have hv := V2.out.keep hbW
  obtain ⟨q0, q1, q2, q3⟩ := hv.tells2
  obtain ⟨f0, f1, f2, f3⟩ := fin_serC (w := w) hv (OwnI.nil _ (w.heap.size + 1 + 1)) (by omega) (by omega) (below_step HB.out hbW) (.int .i64 0) (.slice none 0 0)
  have F3 := Lib.hid f3
  have hz2 := HZ.out.keep hbW (by omega)
  unfold ErrZ at hz2
  clear f2 f3 hv y1 y2
  have HK := Lib.hid (fun w' (h : Below (w.heap.size + 1) w2 w') => ((h.cell (p := ⟨0, 0, none⟩) (by simp)).trans hz2 : w'.cell? ⟨0, 0, none⟩ = some (.iface 155 v)))
  have X0 := Lib.hid (HK.out _ (below_less (by have := hbW.size; omega) (below_drew0 w2)))
  have X9 := Lib.hid (HK.out _ ((((Below.refl (w.heap.size + 1) w2).setCell (p := ⟨w.heap.size + 1, 0, none⟩) (Nat.le_refl _) (.int .i64 0)).setCell (p := ⟨w.heap.size + 1, 1, none⟩) (Nat.le_refl _) (.slice none 0 0)).drew))
  clear hbW hb2
  go_upto_region 6 with fail
  go_region_held3 (fun w' => w'.cell? ⟨0, 0, none⟩ = some (.iface 155 v)) (first | exact X0.out | exact X9.out) (fail)
  all_goals
    go_wp2
    exact bodyPost_ret (v := .tuple #[.agg #[.int .i64 0, .slice none 0 0], .int .i64 0, .iface 155 v]) (by simp [results, Tryz.results48, go_sem, f0, f1]) rfl ⟨rfl, F3.out.drew⟩
set_option maxHeartbeats 8000000 in
set_option maxRecDepth 100000 in
theorem andOrder_ok (m : Int) (d : Nat) (A : Option Addr) (c : Nat) (t : List (List Int)) (k : Int) (x : Int) (w : World) (hs : Pl.Ok m d t) (hf : Pl.fau m d (Pl.pc t) = none) (hp : isP4 m = true) (hn1 : -1000000 ≤ k) (hn2 : k ≤ 1000000) (hr : RP w A t)
    (hC : ordM m (mulC m d t k (Pl.lin m d 1)) = (x, 0)) :
    Calls Tryz.prog 48 #[.agg #[.int .i64 m, .int .i64 d, .slice A t.length c], .int .i64 k] w fun e w' => ∃ v, e = .returned (.tuple #[.agg #[.int .i64 m, v], .int .i64 x, .nilIface]) ∧ OwnI w' w.heap.size v (mulC m d t k (Pl.lin m d 1)) ∧ Below w.heap.size w w' := by
  obtain ⟨W, hW, b1, v2, hwb⟩ := pro_lawM w m d A t.length c
  have V2 := Lib.hid v2
  have HB := Lib.hid hwb
  have HW := Lib.hid hW
  have HO := Lib.hid (fun W0 (h : Below W.heap.size W W0) => overField_ok m d A c t k W0 hs hf hp hn1 hn2 ((hr.below hwb).below h))
  have hRl := (mulC_cv hs (Pl.norm_law hf hs) k (lin_cv hs 1)).1.len
  have hd2 := hs.d2
  obtain ⟨R, hR⟩ : ∃ R, mulC m d t k (Pl.lin m d 1) = R := ⟨_, rfl⟩
  rw [hR] at HO hC hRl ⊢
  have HRO := Lib.hid (fun A1 c1 W0 (h1 : RI W0 A1 R) => OrderOfSeries_any m A1 c1 R W0 (by omega) h1)
  rw [hC] at HRO
  rw [hRl] at HRO
  have hsz : w.heap.size + 1 < W.heap.size := v2.lt
  obtain ⟨x1, x2, x3, -⟩ := b1
  obtain ⟨L, hL⟩ : ∃ L, t.length = L := ⟨_, rfl⟩
  rw [hL] at HO HW x3 ⊢
  clear v2 hwb hW hr hs hf hp hR hL hC
  go_enter Tryz.func48, Tryz.ntmps48
  go_wp2_with fail
  rw [HW.out]
  go_wp2_with fail
  refine (HO.out _ (Below.refl _ _)).mono ?_
  rintro e w1 ⟨u, rfl, ho, hb1⟩
  obtain ⟨A1, c1, rfl, -⟩ := ho.form
  rw [hRl] at ho ⊢
  obtain ⟨X, hX⟩ : ∃ X, w1.alloc (.cells #[.int .i64 m, .slice A1 (d + 1) c1] 71) = X := ⟨_, rfl⟩
  have hbX : Below W.heap.size W X := by rw [← hX]; exact below_alloc _ hb1
  have v7 : VarC 71 X w1.heap.size #[.int .i64 m, .slice A1 (d + 1) c1] := by rw [← hX]; exact VarC.new _ _ _
  have hoX : OwnI X W.heap.size (.slice A1 (d + 1) c1) R := by rw [← hX]; exact ho.keep (below_one _ _)
  have HX := Lib.hid hX
  have HBX := Lib.hid hbX
  have HO1 := Lib.hid (HRO.out A1 c1 X hoX.ri)
  have HOX := Lib.hid hoX
  obtain ⟨g7, hg7⟩ : ∃ g, w1.heap.size = g := ⟨_, rfl⟩
  rw [hg7] at v7
  have HG := Lib.hid hg7
  have V7 := Lib.hid v7
  obtain ⟨y1, y2, -, -⟩ := v7.tells2
  clear hX hbX hb1 ho v7 hoX hg7 x1 x2 x3
  go_upto_region 2 with fail
  rw [HX.out, HG.out]
  go_wp2_with fail
  refine HO1.out.mono ?_
  rintro e w2 ⟨rfl, hb2⟩
  have hbW := below_step HBX.out hb2
  have hv := V2.out.keep hbW
  have h7 := V7.out.keep hb2
  obtain ⟨z1, z2, -, -⟩ := h7.tells2
  obtain ⟨q0, q1, q2, q3⟩ := hv.tells2
  obtain ⟨f0, f1, f2, f3⟩ := fin_serC (w := w) hv (HOX.out.keep hb2) (by omega) (by omega) (below_step HB.out hbW) (.int .i64 m) (.slice A1 (d + 1) c1)
  have F2 := Lib.hid (OwnI.more (b' := w.heap.size) f2 (by omega))
  have F3 := Lib.hid f3
  clear f2 f3 hv h7 hbW hb2 y1 y2
  go_wp2
  exact bodyPost_ret (v := .tuple #[.agg #[.int .i64 m, .slice A1 (d + 1) c1], .int .i64 x, .nilIface]) (by simp [results, Tryz.results48, go_sem, f0, f1]) rfl ⟨_, rfl, F2.out, F3.out⟩
end Go.Proofs.YtfhdgcndiljjcaaGreatDoor

/- Contract of HasseOfLaw, of the program. -/
namespace Go.Proofs.YtfhdgcndiljjcaaGreatDoor
open Go Go.RowKit Go.WideShapes Go.ChangeShapes Go.ChangeAt

/-- what HasseOfLaw answers -/
def hasM (m : Int) (t : List (List Int)) : Int × Int :=
  if isL m t = true then (if isP4 m = true then (if (t.length : Int) - 1 < m then (0, 5) else (Ser.co (mulC m (t.length - 1) t m (Pl.lin m (t.length - 1) 1)) m.toNat, 0)) else (0, 5)) else (0, 1)
set_option maxHeartbeats 16000000 in
set_option maxRecDepth 100000 in
theorem HasseOfLaw_any (m : Int) (A : Option Addr) (c : Nat) (t : List (List Int)) (w : World) (hz : szT t ≤ 1048576) (hr : RP w A t) (hE : ErrT w) :
    Calls Tryz.prog 25 #[.agg #[.int .i64 m, .slice A t.length c]] w fun e w' => e = .returned (.tuple #[.int .i64 (hasM m t).1, .int .i64 (hasM m t).2]) ∧ Below w.heap.size w w' := by
  obtain ⟨W, hW, b1, b4, hwb⟩ := startB2 28 28 w m A t.length c m A t.length c
  have B1 := Lib.hid b1
  have HB := Lib.hid hwb
  have HW := Lib.hid hW
  have hc := codeL1_any (w.heap.size + 1) m A c t W hz (hr.below hwb) b4
  unfold codeL1 at hc
  have HET := Lib.hid (hE.keep hwb hE.lt)
  by_cases h0 : isL m t = true
  · rw [if_pos h0] at hc
    have HC0 := Lib.hid hc
    obtain ⟨-, d, e1, ok, hf⟩ := isL_of h0
    have hd2 := ok.d2
    have hd1 := ok.d1
    have HG := Lib.hid (fun W0 => lawOf_nat m A t.length c d W0 e1 (by omega))
    by_cases hp : isP4 m = true
    · have hp4 := (isP4_iff m).1 hp
      obtain ⟨p, rfl⟩ := Int.eq_ofNat_of_zero_le (show 0 ≤ m by omega)
      have HOF := Lib.hid (fun W0 (h : Below W.heap.size W W0) => overField_ok p d A c t p W0 ok hf hp (by omega) (by omega) ((hr.below hwb).below h))
      have hRl := (mulC_cv ok (Pl.norm_law hf ok) p (lin_cv ok 1)).1.len
      have hA0 : hasM p t = if (d : Int) < p then (0, 5) else (Ser.co (mulC p d t p (Pl.lin p d 1)) p, 0) := by
        unfold hasM
        rw [if_pos h0, if_pos hp, e1, Nat.add_sub_cancel, Int.toNat_natCast, show ((d + 1 : Nat) : Int) - 1 = d by omega]
      obtain ⟨R, hR⟩ : ∃ R, mulC (p : Int) d t p (Pl.lin p d 1) = R := ⟨_, rfl⟩
      rw [hR] at HOF hRl hA0
      obtain ⟨Z, hZ⟩ : ∃ Z, hasM p t = Z := ⟨_, rfl⟩
      rw [hZ] at hA0 ⊢
      have HA := Lib.hid hA0
      have HDG := Lib.hid (fun A1 c1 W0 => degree_any p A1 R.length c1 W0 (by omega))
      have HRL := Lib.hid hRl
      obtain ⟨L, hL⟩ : ∃ L, t.length = L := ⟨_, rfl⟩
      rw [hL] at HG HOF HW B1 ⊢
      clear b1 b4 hwb hW hr hc h0 ok hf e1 hz hL hR hp hE hA0 hRl hZ HET
      go_enter Tryz.func25, Tryz.ntmps25
      go_wp2_with fail
      rw [HW.out]
      refine HC0.out.mono ?_
      rintro e w1 ⟨rfl, hb1⟩
      have HB1 := Lib.hid hb1
      have y1 := B1.out.keep hb1
      have Y1 := Lib.hid y1
      obtain ⟨x1, x2, x3⟩ := y1
      clear hb1
      go_wp2_with fail
      go_cut [5, 6] (fun s5 s6 wx => ∃ g A1 c1, s5 = .pointer (some ⟨g, 0, none⟩) ∧ s6 = .nilIface ∧ Var2 wx g (.int .i64 p) (.slice A1 R.length c1) ∧ OwnI wx w1.heap.size (.slice A1 R.length c1) R ∧ Below w1.heap.size w1 wx ∧ w1.heap.size ≤ g)
      case first =>
        go_region_held3 (fun w' => (w'.cell? ⟨w.heap.size, 0, none⟩ = some (.int .i64 p) ∧ w'.cell? ⟨w.heap.size, 1, none⟩ = some (.slice A L c)) ∧ True ∧ Below w1.heap.size w1 w') (first | exact one_in Y1.out (below_drew0 _) | exact one_in Y1.out hka | exact one_in Y1.out hbel | exact one_in Y1.out (below_alloc _ (trd (by assumption))) | exact one_in Y1.out (below_alloc _ hbel) | exact one_in Y1.out (reg_fin2 hwg hgc hv hod hbel p).2.2.1) (first
          | (go_at_call 39; refine (HG.out _).mono ?_; rintro e wa ⟨rfl, hba⟩; obtain ⟨hka, -⟩ := reg_end (by assumption) hba)
          | (go_at_call 43; refine (HOF.out _ (below_step HB1.out (trd (by assumption)))).mono ?_; rintro e wd ⟨sd, rfl, hod, hbd⟩; obtain ⟨Ad, cd, rfl, -⟩ := hod.form; obtain ⟨hbel, hle⟩ := reg_end (by assumption) hbd; first | (refine use_it (var_keep ((Var2.new w1 _ _).drew.keep hba) hbd) ?_; rintro ⟨hv, hgc⟩; have hwg := var_at (k := w1.heap.size) hv (Nat.le_refl _); have q0 := hv.c0; have q1 := hv.c1; have q2 := hv.fz 0; have q3 := hv.fz 1) | (refine use_it (var_keep (Var2.new _ _ _).drew hbd) ?_; rintro ⟨hv, hgc⟩; have hwg := var_at (k := w1.heap.size) hv (Nat.le_refl _); have q0 := hv.c0; have q1 := hv.c1; have q2 := hv.fz 0; have q3 := hv.fz 1) | (refine use_it (var_keep (Var2.new _ _ _) hbd) ?_; rintro ⟨hv, hgc⟩; have hwg := var_at (k := w1.heap.size) hv hka.size; have q0 := hv.c0; have q1 := hv.c1; have q2 := hv.fz 0; have q3 := hv.fz 1) | skip))
        all_goals
          go_wp2_with fail
          go_meet
          case rel => first | exact ⟨_, _, _, rfl, rfl, reg_new2 hle hod hbel p⟩ | exact ⟨_, _, _, rfl, rfl, reg_fin2 hwg hgc hv hod hbel p⟩
      case rest =>
        obtain ⟨w2, hwc⟩ : ∃ w9, w9 = wc := ⟨_, rfl⟩
        subst hwc
        obtain ⟨g, A1, c1, rfl, rfl, hv, ho, hb2, hg⟩ := hcut
        have HB2 := Lib.hid (below_step HB1.out hb2)
        have HO := Lib.hid ho
        have HV := Lib.hid hv
        have y2 := Y1.out.keep hb2
        obtain ⟨x1, x2, x3⟩ := y2
        have z1 := hv.c0
        have z2 := hv.c1
        have HK := Lib.hid (fun W0 (h : Below w2.heap.size w2 W0) => (⟨⟨(h.cell (p := ⟨w.heap.size, 0, none⟩) (by simp; have := Y1.out.keep hb2; exact this.2.2)).trans x1, (h.cell (p := ⟨w.heap.size, 1, none⟩) (by simp; have := Y1.out.keep hb2; exact this.2.2)).trans x2⟩, ⟨(hv.keep h).c0, (hv.keep h).c1⟩, h⟩ :
          (W0.cell? ⟨w.heap.size, 0, none⟩ = some (.int .i64 p) ∧ W0.cell? ⟨w.heap.size, 1, none⟩ = some (.slice A L c)) ∧ (W0.cell? ⟨g, 0, none⟩ = some (.int .i64 p) ∧ W0.cell? ⟨g, 1, none⟩ = some (.slice A1 R.length c1)) ∧ Below w2.heap.size w2 W0))
        clear hb2 ho hv
        have hRi : ((R.length : Int)) = (d : Int) + 1 := by have := HRL.out; omega
        by_cases hdp : (d : Int) < p
        · have HZ := Lib.hid (show Z = (0, 5) by rw [HA.out, if_pos hdp])
          have hlt : (R.length : Int) - 1 < (p : Int) := by omega
          clear hRi hdp
          go_wp2_with fail
          clear x1 x2 x3 z1 z2
          go_region_held3 (fun w' => (w'.cell? ⟨w.heap.size, 0, none⟩ = some (.int .i64 p) ∧ w'.cell? ⟨w.heap.size, 1, none⟩ = some (.slice A L c)) ∧ (w'.cell? ⟨g, 0, none⟩ = some (.int .i64 p) ∧ w'.cell? ⟨g, 1, none⟩ = some (.slice A1 R.length c1)) ∧ Below w2.heap.size w2 w') (first | exact HK.out _ (below_drew0 _) | exact HK.out _ hka) (first
            | (go_at_call 44; refine (HDG.out _ _ _).mono ?_; rintro e wa ⟨rfl, hba⟩; obtain ⟨hka, -⟩ := reg_end (by assumption) hba))
          all_goals
            go_wp2
            exact bodyPost_ret (v := .tuple #[.int .i64 0, .int .i64 5]) (by simp [results, Tryz.results25, go_sem]) rfl ⟨by rw [HZ.out], below_step HB.out (below_step HB2.out hka)⟩
        · have HZ := Lib.hid (show Z = (Ser.co R p, 0) by rw [HA.out, if_neg hdp])
          have hge : ¬ (R.length : Int) - 1 < (p : Int) := by omega
          obtain ⟨b, off, rfl, hb, hcc⟩ := HO.out.ri.at p (by omega)
          have HC := Lib.hid (fun W0 (h : Below w2.heap.size w2 W0) => (h.cell (p := ⟨b, off + p, none⟩) hb).trans hcc)
          have j0 : (0 : Int) ≤ (p : Int) := by omega
          have j1 : (p : Int) < (R.length : Int) := by omega
          clear hRi hdp hb hcc
          go_wp2_with fail
          clear x1 x2 x3 z1 z2
          go_region_held3 (fun w' => (w'.cell? ⟨w.heap.size, 0, none⟩ = some (.int .i64 p) ∧ w'.cell? ⟨w.heap.size, 1, none⟩ = some (.slice A L c)) ∧ (w'.cell? ⟨g, 0, none⟩ = some (.int .i64 p) ∧ w'.cell? ⟨g, 1, none⟩ = some (.slice (some ⟨b, off, none⟩) R.length c1)) ∧ Below w2.heap.size w2 w') (first | exact HK.out _ (below_drew0 _) | exact HK.out _ hka) (first
            | (go_at_call 44; refine (HDG.out _ _ _).mono ?_; rintro e wa ⟨rfl, hba⟩; obtain ⟨hka, -⟩ := reg_end (by assumption) hba))
          all_goals
            have hcw := HC.out _ hka
            obtain ⟨⟨x1, x2⟩, ⟨z1, z2⟩, -⟩ := HK.out _ hka
            go_wp2
            exact bodyPost_ret (v := .tuple #[.int .i64 (Ser.co R p), .int .i64 0]) (by simp [results, Tryz.results25, go_sem]) rfl ⟨by rw [HZ.out], below_step HB.out (below_step HB2.out hka)⟩
    · have HA : Hid (hasM m t = (0, 5)) := Lib.hid (by unfold hasM; rw [if_pos h0, if_neg hp])
      rw [HA.out]
      have HOF := Lib.hid (fun W0 => overField_no m d A t.length c m W0 (by simpa using hp))
      obtain ⟨L, hL⟩ : ∃ L, t.length = L := ⟨_, rfl⟩
      rw [hL] at HG HOF HW B1 ⊢
      clear b1 b4 hwb hW hr hc h0 ok hf e1 hz hL hp hE HA
      go_enter Tryz.func25, Tryz.ntmps25
      go_wp2_with fail
      rw [HW.out]
      refine HC0.out.mono ?_
      rintro e w1 ⟨rfl, hb1⟩
      have HB1 := Lib.hid hb1
      have y1 := B1.out.keep hb1
      have Y1 := Lib.hid y1
      obtain ⟨x1, x2, x3⟩ := y1
      clear hb1
      go_wp2_with fail
      go_cut [5, 6] (fun _ s6 wx => s6 = .iface 83 (.agg #[.int .i64 m]) ∧ Below w1.heap.size w1 wx)
      case first =>
        go_region_held3 (fun w' => (w'.cell? ⟨w.heap.size, 0, none⟩ = some (.int .i64 m) ∧ w'.cell? ⟨w.heap.size, 1, none⟩ = some (.slice A L c)) ∧ True ∧ Below w1.heap.size w1 w') (first | exact one_in Y1.out (below_drew0 _) | exact one_in Y1.out hka | exact one_in Y1.out hbel | exact one_in Y1.out (below_alloc _ (trd (by assumption))) | exact one_in Y1.out (below_alloc _ hbel) | exact one_in Y1.out ((hbel.setCell hwg _).setCell hwg _)) (first
          | (go_at_call 39; refine (HG.out _).mono ?_; rintro e wa ⟨rfl, hba⟩; obtain ⟨hka, -⟩ := reg_end (by assumption) hba)
          | (go_at_call 43; refine (HOF.out _).mono ?_; rintro e wd ⟨rfl, hbd⟩; obtain ⟨hbel, hle⟩ := reg_end (by assumption) hbd; first | (refine use_it (var_keep ((Var2.new w1 _ _).drew.keep hba) hbd) ?_; rintro ⟨hv, hgc⟩; have hwg := var_at (k := w1.heap.size) hv (Nat.le_refl _); have q0 := hv.c0; have q1 := hv.c1; have q2 := hv.fz 0; have q3 := hv.fz 1) | (refine use_it (var_keep (Var2.new _ _ _).drew hbd) ?_; rintro ⟨hv, hgc⟩; have hwg := var_at (k := w1.heap.size) hv (Nat.le_refl _); have q0 := hv.c0; have q1 := hv.c1; have q2 := hv.fz 0; have q3 := hv.fz 1) | (refine use_it (var_keep (Var2.new _ _ _) hbd) ?_; rintro ⟨hv, hgc⟩; have hwg := var_at (k := w1.heap.size) hv hka.size; have q0 := hv.c0; have q1 := hv.c1; have q2 := hv.fz 0; have q3 := hv.fz 1) | skip))
        all_goals
          go_wp2_with fail
          go_meet
          case rel => first | exact ⟨rfl, below_alloc _ hbel⟩ | exact ⟨rfl, (hbel.setCell hwg _).setCell hwg _⟩
      case rest =>
        obtain ⟨w2, hwc⟩ : ∃ w9, w9 = wc := ⟨_, rfl⟩
        subst hwc
        obtain ⟨rfl, hb2⟩ := hcut
        have hbW := below_step HB1.out hb2
        have HCE := Lib.hid (codeOfError_hit m w2 (HET.out.keep hbW HET.out.lt))
        have HBW := Lib.hid hbW
        clear hb2 hbW x1 x2 x3
        go_wp2_with fail
        refine HCE.out.mono ?_
        rintro e w3 ⟨rfl, hb3⟩
        go_wp2
        exact bodyPost_ret (v := .tuple #[.int .i64 0, .int .i64 5]) (by simp [results, Tryz.results25, go_sem]) rfl ⟨rfl, below_step HB.out (below_step HBW.out hb3)⟩
  · have HA : Hid (hasM m t = (0, 1)) := Lib.hid (by unfold hasM; rw [if_neg h0])
    rw [HA.out]
    rw [if_neg h0] at hc
    have HC0 := Lib.hid hc
    clear b1 b4 hwb hW hr hc h0 hz hE HA HET
    go_enter Tryz.func25, Tryz.ntmps25
    go_wp2_with fail
    rw [HW.out]
    refine HC0.out.mono ?_
    rintro e w1 ⟨rfl, hb1⟩
    go_wp2
    exact bodyPost_ret (v := .tuple #[.int .i64 0, .int .i64 1]) (by simp [results, Tryz.results25, go_sem]) rfl ⟨rfl, below_step HB.out hb1⟩
end Go.Proofs.YtfhdgcndiljjcaaGreatDoor

/- Contracts of chapter 10, of the model: l10Prime, l10Code, HasseOfLaw. -/
namespace Go.Proofs.YtfhdgcndiljjcaaGreatDoor
open Go Go.RowKit Go.WideShapes Go.ChangeShapes Go.ChangeAt

set_option maxHeartbeats 4000000 in
theorem l10Prime_any (m : Int) (A : Option Addr) (n c : Nat) (w : World) :
    Calls Tryz.prog 37 #[.agg #[.int .i64 m, .slice A n c]] w fun e w' => e = .returned (.bool (isP4 m)) ∧ Below w.heap.size w w' := by
  have HP := Lib.hid (show (m == 2 || m == 3 || m == 5 || m == 7) = isP4 m by
    rw [Bool.eq_iff_iff, isP4_iff]
    simp only [Bool.or_eq_true, beq_iff_eq]
    omega)
  obtain ⟨W, hW, b1, hwb⟩ := start1 28 w m A n c
  obtain ⟨x1, x2, x3⟩ := b1
  have HB := Lib.hid hwb
  have HW := Lib.hid hW
  clear hwb hW
  by_cases h2 : m = 2
  · subst h2
    go_enter Tryz.func37, Tryz.ntmps37
    go_wp2_with fail
    rw [HW.out]
    go_wp2
    go_ret
    exact ⟨by rw [← HP.out]; rfl, HB.out⟩
  · have e2 : (m == 2) = false := by simpa using h2
    by_cases h3 : m = 3
    · subst h3
      go_enter Tryz.func37, Tryz.ntmps37
      go_wp2_with fail
      rw [HW.out]
      go_wp2
      go_ret
      exact ⟨by rw [← HP.out]; rfl, HB.out⟩
    · have e3 : (m == 3) = false := by simpa using h3
      by_cases h5 : m = 5
      · subst h5
        go_enter Tryz.func37, Tryz.ntmps37
        go_wp2_with fail
        rw [HW.out]
        go_wp2
        go_ret
        exact ⟨by rw [← HP.out]; rfl, HB.out⟩
      · have e5 : (m == 5) = false := by simpa using h5
        have H7 := Lib.hid (show (m == 7) = isP4 m by rw [← HP.out, e2, e3, e5]; rfl)
        go_enter Tryz.func37, Tryz.ntmps37
        go_wp2_with fail
        rw [HW.out]
        go_wp2
        go_ret
        exact ⟨by rw [← H7.out]; rfl, HB.out⟩
def codeH (m : Int) (t : List (List Int)) : Int := if isL m t = true then (if isP4 m = true then 0 else 5) else 1
set_option maxHeartbeats 4000000 in
theorem l10Code_any (m : Int) (A : Option Addr) (c : Nat) (t : List (List Int)) (w : World) (hz : szT t ≤ 1048576) (hr : RP w A t) :
    Calls Tryz.prog 29 #[.agg #[.int .i64 m, .slice A t.length c]] w fun e w' => e = .returned (.int .i64 (codeH m t)) ∧ Below w.heap.size w w' := by
  obtain ⟨W, hW, b1, hwb⟩ := start1 28 w m A t.length c
  have B1 := Lib.hid b1
  have HB := Lib.hid hwb
  have HW := Lib.hid hW
  have HL := Lib.hid (l04Is_any m A c t W hz (hr.below hwb))
  have HP := Lib.hid (fun W0 => l10Prime_any m A t.length c W0)
  unfold codeH
  obtain ⟨L, hL⟩ : ∃ L, t.length = L := ⟨_, rfl⟩
  rw [hL] at HL HW B1 HP ⊢
  obtain ⟨x1, x2, x3⟩ := B1.out
  clear b1 hwb hW hr hz hL
  by_cases h0 : isL m t = true
  · rw [if_pos h0]
    rw [h0] at HL
    by_cases hp : isP4 m = true
    · rw [if_pos hp]
      rw [hp] at HP
      clear h0 hp
      go_enter Tryz.func29, Tryz.ntmps29
      go_wp2_with fail
      rw [HW.out]
      go_wp2_with fail
      refine HL.out.mono ?_
      rintro e w1 ⟨rfl, hb1⟩
      obtain ⟨y1, y2, y3⟩ := B1.out.keep hb1
      go_wp2_with fail
      refine (HP.out _).mono ?_
      rintro e w2 ⟨rfl, hb2⟩
      go_wp2
      go_ret
      exact ⟨rfl, below_step HB.out (below_step hb1 hb2)⟩
    · rw [if_neg hp]
      rw [show isP4 m = false by simpa using hp] at HP
      clear h0 hp
      go_enter Tryz.func29, Tryz.ntmps29
      go_wp2_with fail
      rw [HW.out]
      go_wp2_with fail
      refine HL.out.mono ?_
      rintro e w1 ⟨rfl, hb1⟩
      obtain ⟨y1, y2, y3⟩ := B1.out.keep hb1
      go_wp2_with fail
      refine (HP.out _).mono ?_
      rintro e w2 ⟨rfl, hb2⟩
      go_wp2
      go_ret
      exact ⟨rfl, below_step HB.out (below_step hb1 hb2)⟩
  · rw [if_neg h0]
    rw [show isL m t = false by simpa using h0] at HL
    clear h0
    go_enter Tryz.func29, Tryz.ntmps29
    go_wp2_with fail
    rw [HW.out]
    go_wp2_with fail
    refine HL.out.mono ?_
    rintro e w1 ⟨rfl, hb1⟩
    go_wp2
    go_ret
    exact ⟨rfl, below_step HB.out hb1⟩
theorem codeH_ok {m : Int} {t : List (List Int)} (h : codeH m t = 0) : isL m t = true ∧ isP4 m = true := by
  unfold codeH at h
  by_cases h0 : isL m t = true
  · rw [if_pos h0] at h
    by_cases h1 : isP4 m = true
    · exact ⟨h0, h1⟩
    · rw [if_neg h1] at h; omega
  · rw [if_neg h0] at h; omega
set_option maxHeartbeats 8000000 in
set_option maxRecDepth 100000 in
theorem sHasseOfLaw_any (m : Int) (A : Option Addr) (c : Nat) (t : List (List Int)) (w : World) (hz : szT t ≤ 1048576) (hr : RP w A t) :
    Calls Tryz.prog 24 #[.agg #[.int .i64 m, .slice A t.length c]] w fun e w' => e = .returned (.tuple #[.int .i64 (hasM m t).1, .int .i64 (hasM m t).2]) ∧ Below w.heap.size w w' := by
  obtain ⟨W, hW, b1, hwb⟩ := start1 28 w m A t.length c
  have B1 := Lib.hid b1
  have HB := Lib.hid hwb
  have HW := Lib.hid hW
  have HC := Lib.hid (l10Code_any m A c t W hz (hr.below hwb))
  by_cases h0 : codeH m t = 0
  · rw [h0] at HC
    obtain ⟨hl, hp⟩ := codeH_ok h0
    obtain ⟨-, d, e1, ok, hf⟩ := isL_of hl
    have hd2 := ok.d2
    have hd1 := ok.d1
    have hp4 := (isP4_iff m).1 hp
    obtain ⟨p, rfl⟩ := Int.eq_ofNat_of_zero_le (show 0 ≤ m by omega)
    have HO := Lib.hid (fun W0 (h : Below W.heap.size W W0) => l04Of_any p d A c t p W0 ok hf (by omega) (by omega) ((hr.below hwb).below h))
    have hRl := (mulC_cv ok (Pl.norm_law hf ok) p (lin_cv ok 1)).1.len
    have hA0 : hasM p t = if (d : Int) < p then (0, 5) else (Ser.co (mulC p d t p (Pl.lin p d 1)) p, 0) := by
      unfold hasM
      rw [if_pos hl, if_pos hp, e1, Nat.add_sub_cancel, Int.toNat_natCast, show ((d + 1 : Nat) : Int) - 1 = d by omega]
    obtain ⟨R, hR⟩ : ∃ R, mulC (p : Int) d t p (Pl.lin p d 1) = R := ⟨_, rfl⟩
    rw [hR] at HO hRl hA0
    obtain ⟨L, hL⟩ : ∃ L, t.length = L := ⟨_, rfl⟩
    rw [hL] at HC HO HW B1 e1 ⊢
    by_cases hdp : (d : Int) < p
    · rw [if_pos hdp] at hA0
      rw [hA0]
      have hle : (L : Int) ≤ (p : Int) := by omega
      clear b1 hwb hW hr hz hL hp hA0 hRl hf ok h0 hl hdp e1
      go_enter Tryz.func24, Tryz.ntmps24
      go_wp2_with fail
      rw [HW.out]
      obtain ⟨x1, x2, x3⟩ := B1.out
      go_wp2_with fail
      refine HC.out.mono ?_
      rintro e w1 ⟨rfl, hb1⟩
      obtain ⟨y1, y2, y3⟩ := B1.out.keep hb1
      go_wp2
      exact bodyPost_ret (v := .tuple #[.int .i64 0, .int .i64 5]) (by simp [results, Tryz.results24, go_sem]) rfl ⟨rfl, below_step HB.out hb1⟩
    · rw [if_neg hdp] at hA0
      rw [hA0]
      have hle : ¬ (L : Int) ≤ (p : Int) := by omega
      have j0 : (0 : Int) ≤ (p : Int) := by omega
      have j1 : (p : Int) < (R.length : Int) := by omega
      have HJ := Lib.hid (show p < R.length by omega)
      clear b1 hwb hW hr hz hL hp hA0 hRl hf ok h0 hl hdp e1
      go_enter Tryz.func24, Tryz.ntmps24
      go_wp2_with fail
      rw [HW.out]
      obtain ⟨x1, x2, x3⟩ := B1.out
      go_wp2_with fail
      refine HC.out.mono ?_
      rintro e w1 ⟨rfl, hb1⟩
      have y1 := B1.out.keep hb1
      have Y1 := Lib.hid y1
      have HB1 := Lib.hid hb1
      obtain ⟨z1, z2, z3⟩ := y1
      clear x1 x2 x3 hb1
      go_upto_region 6 with fail
      go_region_with (first
        | (go_at_call 42; refine (HO.out _ (below_step HB1.out (below_drew0 _))).mono ?_; rintro e wd ⟨sd, rfl, hod, hbd⟩; obtain ⟨Ad, cd, rfl, -⟩ := hod.form; obtain ⟨b, off, rfl, hbb, hcc⟩ := hod.ri.at p HJ.out; have hbe := below_step (below_drew0 w1) hbd; obtain ⟨v1, v2, v3⟩ := Y1.out.keep hbe))
      all_goals
        go_wp2
        exact bodyPost_ret (v := .tuple #[.int .i64 (Ser.co R p), .int .i64 0]) (by simp [results, Tryz.results24, go_sem]) rfl ⟨rfl, below_step HB.out (below_step HB1.out hbe)⟩
  · have HA : Hid (hasM m t = (0, codeH m t)) := Lib.hid (by
      unfold hasM codeH
      by_cases hl : isL m t = true
      · rw [if_pos hl, if_pos hl]
        by_cases hp : isP4 m = true
        · exact absurd (by unfold codeH; rw [if_pos hl, if_pos hp]) h0
        · rw [if_neg hp, if_neg hp]
      · rw [if_neg hl, if_neg hl])
    rw [HA.out]
    obtain ⟨n1, n2⟩ := ne_facts h0
    obtain ⟨C, hC⟩ : ∃ C, codeH m t = C := ⟨_, rfl⟩
    rw [hC] at HC n1 n2 ⊢
    obtain ⟨x1, x2, x3⟩ := B1.out
    clear b1 hwb hW hr hz h0 HA hC
    go_enter Tryz.func24, Tryz.ntmps24
    go_wp2_with fail
    rw [HW.out]
    go_wp2_with fail
    refine HC.out.mono ?_
    rintro e w1 ⟨rfl, hb1⟩
    go_wp2
    exact bodyPost_ret (v := .tuple #[.int .i64 0, .int .i64 C]) (by simp [results, Tryz.results24, go_sem]) rfl ⟨rfl, below_step HB.out hb1⟩
end Go.Proofs.YtfhdgcndiljjcaaGreatDoor

/- What the condition 'laid' gives a walk; worlds that meet it. After the guide's worked example of errors.As at a concrete target. -/
namespace Go.Proofs.YtfhdgcndiljjcaaGreatDoor
open Go Go.ChangeShapes Go.WideShapes Go.RowKit

theorem lai_et : Tryz.prog.globalNamed "errors.errorType" = some 1 := by kernel_rfl
theorem lai_rt : (Tryz.prog.cutTypes.find? (·.1 == "internal/reflectlite.rtype")).map (·.2) = some 119 := by kernel_rfl
theorem lai_size : Tryz.prog.types.size = 189 := by kernel_rfl
theorem lai_oneRow : ((List.range 189).filter fun t => Tryz.prog.rowNamed t [101, 114, 114, 111, 114]) = [58] := by kernel_rfl
theorem handle_of_laid {laid : List (String × DataW Unit)} {W : World} (h : handlesMet Tryz.prog laid W) (hm : ("errors.errorType", Rows.laid_errors_errorType) ∈ laid) : ErrT W := by
  obtain ⟨name, u, ty, e1, e2, e3, e4, e5⟩ := h _ hm
  have en : name = [101, 114, 114, 111, 114] := (Option.some.inj e1).symm
  subst en
  obtain rfl := Option.some.inj (lai_rt.symm.trans e2)
  have hm : ty ∈ (List.range 189).filter fun t => Tryz.prog.rowNamed t [101, 114, 114, 111, 114] := List.mem_filter.2 ⟨List.mem_range.2 (by rw [← lai_size]; exact e3), e4⟩
  rw [lai_oneRow] at hm
  obtain rfl := List.mem_singleton.1 hm
  have hh : typeHandle Tryz.prog 58 = .pointer (some ⟨2, 58, none⟩) := by kernel_rfl
  rw [hh] at e5
  unfold ErrT
  simpa using World.var?_cell lai_et e5 0
/-- the row that lists the handle alone -/
theorem errT_of_laid {W : World} (h : laidMetH Tryz.prog [("errors.errorType", Rows.laid_errors_errorType)] W) : ErrT W := by
  have h' : laidMet Tryz.prog [] W ∧ handlesMet Tryz.prog [("errors.errorType", Rows.laid_errors_errorType)] W := h
  exact handle_of_laid h'.2 (List.mem_singleton.2 rfl)
noncomputable def laidWorld (os : Os) : World :=
  let w0 := World.holding Tryz.prog os ⟨#[], #[], []⟩
  { w0 with heap := w0.heap.modify 1 fun
      | .cells _ t frozen => .cells #[.iface 119 (.agg #[.pointer (some ⟨2, 58, none⟩)])] t frozen
      | o => o }
theorem laidWorld_met (os : Os) (args : Array Value) : laidMetH Tryz.prog [("errors.errorType", Rows.laid_errors_errorType)] ((laidWorld os).forCall (fun _ _ => 0) ⟨#[], args, []⟩).memory :=
  laidMetH_of_parts (laidMet_nil _ _) (by kernel_rfl)
end Go.Proofs.YtfhdgcndiljjcaaGreatDoor

/- A plane among a law's arguments: what its reading tells. -/
namespace Go.Proofs.YtfhdgcndiljjcaaGreatDoor
open Go.RowKit Go.WideShapes Go.ChangeShapes Go.ChangeAt

theorem cells_pla : Tryz.prog.cellsOf 24 = 2 := by kernel_rfl
theorem cells_i64ss : Tryz.prog.cellsOf 22 = 1 := by kernel_rfl
set_option maxRecDepth 100000 in
theorem open_pla {H : Type} {enc : TypeId × Value → H} {W : World} {base : Nat} {v : Value} {d : DataW H} {p : List MemPlace}
    (hv : Value.okWide Tryz.prog W .any base 24 v) (h : DataW.Trod enc Tryz.prog W 0 (fun _ => true) true 24 v d p) :
    ∃ (m : Int) (A : Option Addr) (c : Nat) (t : List (List Int)), v = .agg #[.int .i64 m, .slice A t.length c] ∧ (t.length ≤ 9223372036854775807 ∧ ∀ k, (Pl.rw' t k).length ≤ 9223372036854775807) ∧ RQ W A t := by
  obtain ⟨cs, rfl, hsz⟩ := okWide_struct Tryz.underlying24 hv
  rw [cells_pla] at hsz
  obtain ⟨l⟩ := cs
  match l, hsz with
  | [c0, c1], _ =>
    obtain ⟨fuel, hf⟩ := h
    obtain ⟨y0, y1, m, hx, _, hy0, hy1⟩ := trod_struct2 Tryz.underlying24 hf
    obtain ⟨a, e0, -, -⟩ := DataW.trod_int Tryz.underlying2 hy0
    simp [Value.cells, cells_i64] at e0
    subst e0
    rcases Go.Deep.open_int_rows Tryz.underlying22 Tryz.underlying32 Tryz.underlying2 (by kernel_rfl) (by kernel_rfl) hy1 with ⟨hcs, -⟩ | ⟨ad, n, cap, A, L, C, Z, hcs, -, hl, hm, -, hr⟩
    · simp [Value.cells, cells_i64ss] at hcs
      subst hcs
      exact ⟨a, none, 0, [], rfl, ⟨Nat.zero_le _, fun k => Nat.zero_le _⟩, fun h => absurd rfl h⟩
    · simp [Value.cells, cells_i64ss] at hcs
      subst hcs
      have key : ∀ r, r < n → Pl.rw' ((List.range n).map fun r => (Z r).take (L r)) r = (Z r).take (L r) := by
        intro r h
        unfold Pl.rw'
        rw [List.getElem?_map, List.getElem?_range h]; rfl
      have klen : ∀ r, r < n → ((Z r).take (L r)).length = L r := by
        intro r h
        obtain ⟨_, h2, _, h4, _⟩ := hr r (by omega)
        rw [List.length_take]; omega
      have hlen : ((List.range n).map fun r => (Z r).take (L r)).length = n := by simp
      refine ⟨a, some ad, cap, (List.range n).map fun r => (Z r).take (L r), by rw [hlen], ⟨by rw [hlen]; unfold maxLen at hm; omega, fun k => ?_⟩, fun hne => ?_⟩
      · by_cases hk : k < n
        · rw [key k hk, klen k hk]
          obtain ⟨_, h2, h3, _⟩ := hr k (by omega)
          unfold maxLen at h3; omega
        · rw [Pl.rw_over (by rw [hlen]; omega)]; exact Nat.zero_le _
      · have hn : 0 < n := by
          rcases Nat.eq_zero_or_pos n with e | e
          · subst e; exact absurd rfl hne
          · exact e
        refine ⟨ad, rfl, ?_, fun k hk => ?_⟩
        · have := World.block_lt_of_cell? W _ (hr 0 (by omega)).1
          rwa [add_block] at this
        · rw [hlen] at hk
          obtain ⟨h1, h2, h3, h4, _, _, h7⟩ := hr k (by omega)
          refine ⟨A k, C k, by rw [key k hk, klen k hk]; exact h1, ?_⟩
          rw [key k hk]
          intro hne2
          have hL : 0 < L k := by
            rcases Nat.eq_zero_or_pos (L k) with e | e
            · rw [e] at hne2; exact absurd rfl hne2
            · exact e
          rcases hA : A k with _ | a'
          · obtain ⟨_, _, _, _, _, h6, _⟩ := hr k (by omega)
            have := h6 hA
            omega
          · obtain ⟨_, h8⟩ := h7 a' hA
            refine ⟨a', rfl, ?_, fun j hj => ?_⟩
            · have := World.block_lt_of_cell? W _ (h8 0 (by omega))
              rwa [add_block] at this
            · rw [klen k hk] at hj
              rw [h8 j (by omega), List.getElem?_take, if_pos hj]
              simp [List.getD_eq_getElem?_getD]
end Go.Proofs.YtfhdgcndiljjcaaGreatDoor

