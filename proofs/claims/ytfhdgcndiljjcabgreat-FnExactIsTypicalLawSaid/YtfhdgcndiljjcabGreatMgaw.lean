/- Texts of contracts, joined. -/
import Derived.Test.YtfhdgcndiljjcabGreatMgau
import Derived.Test.YtfhdgcndiljjcabGreatMgav
import Derived.Test.YtfhdgcndiljjcabGreatMgas
import Derived.Test.YtfhdgcndiljjcabGreatMgat
import Derived.Test.YtfhdgcndiljjcabGreatMgaj
import Derived.Test.YtfhdgcndiljjcabGreatMgaa
import Derived.Test.YtfhdgcndiljjcabGreatMgab
import Derived.Test.YtfhdgcndiljjcabGreatMgaf
import Derived.Deep.Matrix
/- Contracts of l09Of and l09Parameters, of the model. -/
namespace Go.Proofs.YtfhdgcndiljjcabGreat
open Go Go.RowKit Go.WideShapes Go.ChangeShapes Go.ChangeAt
theorem ok_rowLe {m : Int} {d : Nat} {t : List (List Int)} (ok : Pl.Ok m d t) (k : Nat) : (Pl.rw' t k).length ≤ 10485760 := by
  by_cases h : k ≤ d
  · rw [ok.row k h]; have := ok.d2; omega
  · unfold Pl.rw'
    rw [List.getElem?_eq_none (by rw [ok.len]; omega)]
    exact Nat.zero_le _
theorem facR_some {m : Int} {l : List Int} {n : Nat} (h : (Cyc.facO m l n).isSome = true) : facR m l n = Cyc.facM m l n := by unfold facR; rw [if_pos h]
theorem facR_no {m : Int} {l : List Int} {n : Nat} (h : ¬ (Cyc.facO m l n).isSome = true) : facR m l n = -1 := by unfold facR; rw [if_neg h]
theorem facM_in {m : Int} (m1 : 2 ≤ m) (m2 : m ≤ 10000) (l : List Int) (n : Nat) : 0 ≤ Cyc.facM m l n ∧ Cyc.facM m l n < m := by
  unfold Cyc.facM
  cases h : Cyc.facO m l n with
  | none => exact ⟨Int.le_refl 0, show (0 : Int) < m by omega⟩
  | some X =>
    obtain ⟨b1, b2, -⟩ := Cyc.facO_some m1 m2 h
    exact ⟨b1, b2⟩
theorem pow_step : ∀ p ∈ [2, 3, 5, 7], ∀ D ∈ List.range 11, ∀ k ∈ List.range 5, 1 ≤ k → k ≤ needN p D → p ^ (k - 1) * p = p ^ k ∧ p ^ k ≤ D ∧ 2 ≤ p ^ k := by decide
set_option maxHeartbeats 16000000 in
set_option maxRecDepth 100000 in
theorem l09Parameters_any (p : Nat) (m : Int) (d : Nat) (A : Option Addr) (c : Nat) (t : List (List Int)) (w : World) (ok : Pl.Ok m d t) (hr : RP w A t) (hp : p = 2 ∨ p = 3 ∨ p = 5 ∨ p = 7) :
    Calls Tryz.prog 28 #[.int .i64 p, .agg #[.int .i64 m, .slice A t.length c]] w fun e w' => ∃ v, e = .returned (.tuple #[v, .bool (mpR m p d t).isSome]) ∧ (∀ r, mpR m p d t = some r → OwnI w' w.heap.size v r) ∧ Below w.heap.size w w' := by
  obtain ⟨W, hW, b1, hwb⟩ := start1 29 w m A t.length c
  have B1 := Lib.hid b1
  have HB := Lib.hid hwb
  have HW := Lib.hid hW
  have m1 := ok.m1
  have m2 := ok.m2
  have hd1 := ok.d1
  have hd2 := ok.d2
  have hlen := ok.len
  have HDG := Lib.hid (fun W0 => l03Degree_any m A t.length c d W0 hlen (by omega))
  have HMO := Lib.hid (fun W0 => l09Most_any p d W0 hp hd1 hd2)
  have HPS := Lib.hid (fun k (k1 : 1 ≤ k) (k2 : k ≤ needN p d) => pow_step p (in4 hp) d (List.mem_range.2 (by omega)) k (List.mem_range.2 (by have := needN_le3 p (in4 hp) d (List.mem_range.2 (by omega)); omega)) k1 k2)
  have hN3 := needN_le3 p (in4 hp) d (List.mem_range.2 (by omega))
  have HLW := Lib.hid (fun (D : Nat) (d1 : 1 ≤ D) (d2 : D ≤ 10) A1 c1 (l : List Int) W0 (hl : l.length ≤ 3) (hx : ∀ i, 0 ≤ Ser.co l i ∧ Ser.co l i < m) (h : RI W0 A1 l) => l09Law_any p m D A1 c1 l W0 hp m1 m2 d1 d2 hl (fun i => by have := hx i; omega) h)
  have HCU := Lib.hid (fun (n : Nat) (hn : n ≤ d) W0 (h : Below W.heap.size W W0) => l03Cut_any m d A c t n W0 ok ((hr.below hwb).below h) hn)
  have HGP := Lib.hid (fun (n : Nat) (n1 : 1 ≤ n) (hn : n ≤ 10) (l : List Int) A1 c1 A2 c2 W0 (h1 : RP W0 A1 (Pl.tab m n (Pl.pc t))) (h2 : RP W0 A2 (lawT p m n (Ser.co l))) => l07Gap_any m n A1 c1 (Pl.tab m n (Pl.pc t)) A2 c2 (lawT p m n (Ser.co l)) W0 (Pl.Ok.of_tab m1 m2 n1 hn _) (lawT_ok m1 m2 n1 hn _) h1 h2)
  have HFC := Lib.hid (fun (n : Nat) (n2 : 2 ≤ n) (hn : n ≤ 10) (T : List (List Int)) A1 c1 W0 (okT : Pl.Ok m n T) (h1 : RP W0 A1 T) => l07FactorO_any m n A1 c1 T W0 n2 okT h1)
  have HOW := Lib.hid (fun A1 c1 (l : List Int) W0 (hl : l.length ≤ 1000) (h : RI W0 A1 l) => l01Own_all A1 c1 l W0 hl h)
  have HSM := Lib.hid (fun A1 c1 (l : List Int) W0 (h : Below W.heap.size W W0) (h1 : RP W0 A1 (lawT p m d (Ser.co l))) => l01Same2_any A1 A c1 c (lawT p m d (Ser.co l)) t W0 (by rw [hlen, (lawT_ok (p := p) m1 m2 hd1 hd2 (Ser.co l)).len]) (by rw [(lawT_ok (p := p) m1 m2 hd1 hd2 (Ser.co l)).len]; omega) (fun k => ok_rowLe (lawT_ok (p := p) m1 m2 hd1 hd2 (Ser.co l)) k) (fun k => ok_rowLe ok k) h1 ((hr.below hwb).below h))
  obtain ⟨Y, hY⟩ : ∃ Y, mpP m p t (needN p d) 1 [] = Y := ⟨_, rfl⟩
  obtain ⟨Z, hZ⟩ : ∃ Z, mpR m p d t = Z := ⟨_, rfl⟩
  have hZN : Y = none → Z = none := fun h => by rw [← hZ]; unfold mpR; rw [hY, h]
  have hZS : ∀ out, Y = some out → Z = if lawT p m d (Ser.co out) = t then some out else none := fun out h => by rw [← hZ]; unfold mpR; rw [hY, h]
  rw [hZ]
  have HZN := Lib.hid hZN
  have HZS := Lib.hid hZS
  have HY := Lib.hid hY
  have HTL := Lib.hid (fun n (n1 : 1 ≤ n) (n2 : n ≤ 10) => (Pl.Ok.of_tab m1 m2 n1 n2 (Pl.pc t)).len)
  have HLL := Lib.hid (fun n (l : List Int) (n1 : 1 ≤ n) (n2 : n ≤ 10) => (lawT_ok (p := p) m1 m2 n1 n2 (Ser.co l)).len)
  have HGL : Hid (∀ (n : Nat) (l : List Int), 1 ≤ n → n ≤ 10 → Pl.Ok m n (gapT m n (Pl.tab m n (Pl.pc t)) (lawT p m n (Ser.co l)))) := Lib.hid (fun n l n1 n2 => Pl.Ok.of_tab m1 m2 n1 n2 _)
  have HFB := Lib.hid (fun l n => facM_in m1 m2 l n)
  obtain ⟨N, hN⟩ : ∃ N, needN p d = N := ⟨_, rfl⟩
  rw [hN] at HMO HPS HY hN3
  obtain ⟨L, hL⟩ : ∃ L, t.length = L := ⟨_, rfl⟩
  rw [hL] at HDG HSM HCU HW B1 ⊢
  have hp10 : p ≤ 7 := by omega
  obtain ⟨x1, x2, x3⟩ := B1.out
  clear b1 hwb hW hr ok hL hN hY hZ hZN hZS hlen hp
  go_enter Tryz.func28, Tryz.ntmps28
  go_wp2_with fail
  rw [HW.out]
  go_wp2_with fail
  refine (HDG.out _).mono ?_
  rintro e w1 ⟨rfl, hb1⟩
  go_wp2_with fail
  refine (HMO.out _).mono ?_
  rintro e w' ⟨rfl, rfl⟩
  have HB1 := Lib.hid hb1
  have HE := Lib.hid (OwnI.empty w1)
  have HE1 := Lib.hid (below_one w1 (.cells #[] 2))
  clear x1 x2 x3 hb1
  go_wp2_with fail
  go_loopw [9, 10, 11, 12, 13] (fun s9 s10 s11 _ _ wr => ∃ (k P1 : Nat) (out : List Int), s11 = .int .i64 k ∧ s10 = .int .i64 P1 ∧ p ^ (k - 1) = P1 ∧ 1 ≤ k ∧ k ≤ N + 1 ∧ out.length = k - 1 ∧ (∀ i, 0 ≤ Ser.co out i ∧ Ser.co out i < m) ∧ OwnI wr w1.heap.size s9 out ∧ mpP m p t (N + 1 - k) k out = Y ∧ Below w1.heap.size w1 wr) (fun _ _ s11 _ _ _ => 10 - (intOf s11).toNat)
  case atStart => exact ⟨1, 1, [], rfl, rfl, rfl, Nat.le_refl _, by omega, rfl, fun i => by rw [Ser.co_over (Nat.zero_le _)]; omega, HE.out, by rw [Nat.add_sub_cancel]; exact HY.out, HE1.out⟩
  case round =>
    obtain ⟨k, P1, out, rfl, rfl, hP1, k1, hk, hlen, hx, hown, hq, hbel⟩ := hrel
    have HO := Lib.hid hown
    have HBW := Lib.hid (below_step HB1.out hbel)
    have HBL := Lib.hid hbel
    have HQ := Lib.hid hq
    have HX := Lib.hid hx
    have hsz := hbel.size
    obtain ⟨z1, z2, z3⟩ := B1.out.keep (below_step HB1.out hbel)
    have HK := Lib.hid (fun W0 (h : Below wr.heap.size wr W0) => (⟨⟨(B1.out.keep (below_step HBW.out h)).1, (B1.out.keep (below_step HBW.out h)).2.1⟩, trivial, h⟩ :
      (W0.cell? ⟨w.heap.size, 0, none⟩ = some (.int .i64 m) ∧ W0.cell? ⟨w.heap.size, 1, none⟩ = some (.slice A L c)) ∧ True ∧ Below wr.heap.size wr W0))
    clear hown hbel hq hx
    obtain ⟨Al, cl, hs, -⟩ := HO.out.form
    subst hs
    by_cases hlt : k ≤ N
    · have j2 : (k : Int) ≤ (N : Int) := by omega
      obtain ⟨p1, p2, p3⟩ := HPS.out k k1 hlt
      rw [hP1] at p1
      obtain ⟨q, hqq⟩ : ∃ q, p ^ k = q := ⟨_, rfl⟩
      rw [hqq] at p1 p2 p3
      have hwr : IntKind.i64.wrap ((P1 : Int) * (p : Int)) = (q : Int) := by rw [← Int.natCast_mul, p1, IntKind.wrap_i64]; omega
      have HQQ := Lib.hid hqq
      have HST := Lib.hid (show mpP m p t (N + 1 - k) k out = if (Cyc.facO m (mpL m p t out q) q).isSome = true then mpP m p t (N + 1 - (k + 1)) (k + 1) (out ++ [Cyc.facM m (mpL m p t out q) q]) else none by
        rw [show N + 1 - k = (N + 1 - (k + 1)) + 1 by omega, mpP, hqq])
      have HLEN := Lib.hid hlen
      have hl1000 : out.length ≤ 1000 := by omega
      clear hqq hP1
      obtain ⟨T1, hT1⟩ : ∃ T, lawT p m q (Ser.co (out ++ [0])) = T := ⟨_, rfl⟩
      have HL1 := Lib.hid (fun A1 c1 W0 (h : RI W0 A1 (out ++ [0])) => by
        have := HLW.out q (by omega) (by omega) A1 c1 (out ++ [0]) W0 (by rw [List.length_append]; simp; omega) (fun i => by rw [co_zero]; exact HX.out i) h
        rw [hT1, List.length_append, show out.length + [(0 : Int)].length = out.length + 1 from rfl] at this
        exact this)
      have HOW1 := Lib.hid (fun W0 (h : Below wr.heap.size wr W0) => HOW.out Al cl out W0 hl1000 (HO.out.ri.below h))
      have HT1 := Lib.hid hT1
      clear hT1 hlen
      go_upto_region 8 with fail
      clear z1 z2 z3
      go_cut [12] (fun s12 wx => ∃ A3 c3, s12 = .slice A3 T1.length c3 ∧ RP wx A3 T1 ∧ Below wr.heap.size wr wx)
      case first =>
        go_region_held3 (fun w' => (w'.cell? ⟨w.heap.size, 0, none⟩ = some (.int .i64 m) ∧ w'.cell? ⟨w.heap.size, 1, none⟩ = some (.slice A L c)) ∧ True ∧ Below wr.heap.size wr w') (first | exact HK.out _ (below_drew0 _) | exact HK.out _ hkc | exact HK.out _ hk8 | exact HK.out _ hka | exact HK.out _ (below_alloc _ (trd (by assumption))) | exact HK.out _ (below_alloc _ hka)) (first
          | (go_at_call 51; with_reducible refine Calls.mono (HOW1.out _ (trd (by assumption))) ?_; rintro e wa ⟨va, rfl, hoa, hba⟩; obtain ⟨hka, hza⟩ := reg_end (by assumption) hba)
          | (refine step_push _ _ _ (by rfl) (by rfl) Tryz.underlying26 wr.heap.size _ _ (by rfl) ((hoa.more hza).alloc _) wa.heap.size 0 (by rfl) (by simp) (by omega) (by have := hka.size; simp; omega) ?_; intro v' w8 ho8 hpb; have hk8 := (hka.alloc hka.size _).trans hpb; obtain ⟨A8, c8, hs8, -⟩ := ho8.form; subst hs8)
          | (refine step_push _ _ _ (by rfl) (by rfl) Tryz.underlying26 wr.heap.size _ _ (by rfl) (hoa.more hza) wr.heap.size 0 (by rfl) ((hba.cell (p := ⟨wr.heap.size, 0, none⟩) (by simp)).trans (by simp)) (by omega) (by have := hka.size; omega) ?_; intro v' w8 ho8 hpb; have hk8 := hka.trans hpb; obtain ⟨A8, c8, hs8, -⟩ := ho8.form; subst hs8)
          | (go_at_call 50; with_reducible refine Calls.mono (HL1.out _ _ _ ho8.ri) ?_; rintro e wc ⟨vc, rfl, hoc, hbc⟩; obtain ⟨A3, c3, rfl, -⟩ := hoc.len; obtain ⟨hkc, -⟩ := reg_end (by assumption) hbc))
        all_goals
          go_wp2_with fail
          go_meet
          case rel => exact ⟨_, _, rfl, hoc.rp, hkc⟩
      case rest =>
        obtain ⟨w3, hwc⟩ : ∃ w9, w9 = wc := ⟨_, rfl⟩
        subst hwc
        obtain ⟨A3, c3, rfl, hr3, hk3⟩ := hcut
        have HR3 := Lib.hid hr3
        have HB3 := Lib.hid (below_step HBW.out hk3)
        have HBR := Lib.hid hk3
        have HK3 := Lib.hid (fun W0 (h : Below w3.heap.size w3 W0) => (⟨⟨(B1.out.keep (below_step (below_step HBW.out hk3) h)).1, (B1.out.keep (below_step (below_step HBW.out hk3) h)).2.1⟩, trivial, h⟩ :
          (W0.cell? ⟨w.heap.size, 0, none⟩ = some (.int .i64 m) ∧ W0.cell? ⟨w.heap.size, 1, none⟩ = some (.slice A L c)) ∧ True ∧ Below w3.heap.size w3 W0))
        obtain ⟨T0, hT0⟩ : ∃ T, Pl.tab m q (Pl.pc t) = T := ⟨_, rfl⟩
        have HC1 := Lib.hid (fun W0 (h : Below w3.heap.size w3 W0) => by
          have := HCU.out q (by omega) W0 (below_step HB3.out h)
          rw [hT0] at this
          exact this)
        have HG1 := Lib.hid (fun A1 c1 W0 (h1 : RP W0 A1 T0) (h : Below w3.heap.size w3 W0) => by
          have := HGP.out q (by omega) (by omega) (out ++ [0]) A1 c1 A3 c3 W0 (by rw [hT0]; exact h1) (by rw [HT1.out]; exact HR3.out.below h)
          rw [hT0, HT1.out] at this
          exact this)
        have hG := HGL.out q (out ++ [0]) (by omega) (by omega)
        rw [hT0, HT1.out] at hG
        obtain ⟨FR, hFR⟩ : ∃ F, facR m (mpL m p t out q) q = F := ⟨_, rfl⟩
        have hFR2 : facR m (layC m (gapT m q T0 T1) q) q = FR := by rw [← hFR]; unfold mpL; rw [hT0, HT1.out]
        obtain ⟨G, hGG⟩ : ∃ G, gapT m q T0 T1 = G := ⟨_, rfl⟩
        rw [hGG] at HG1 hG hFR2
        have HF1 := Lib.hid (fun A1 c1 W0 (h1 : RP W0 A1 G) => by
          have := HFC.out q p3 (by omega) G A1 c1 W0 hG h1
          rw [hFR2] at this
          exact this)
        have HFR := Lib.hid hFR
        clear hr3 hk3 hT0 hG hGG hFR2 hFR
        go_upto_region 9 with fail
        go_cut [13] (fun s13 wx => s13 = .int .i64 FR ∧ Below w3.heap.size w3 wx)
        case first =>
          go_region_held3 (fun w' => (w'.cell? ⟨w.heap.size, 0, none⟩ = some (.int .i64 m) ∧ w'.cell? ⟨w.heap.size, 1, none⟩ = some (.slice A L c)) ∧ True ∧ Below w3.heap.size w3 w') (first | exact HK3.out _ (below_drew0 _) | exact HK3.out _ hkc | exact HK3.out _ hkb | exact HK3.out _ hka) (first
            | (go_at_call 54; with_reducible refine Calls.mono (HC1.out _ (trd (by assumption))) ?_; rintro e wa ⟨va, rfl, hoa, hba⟩; obtain ⟨A5, c5, rfl, -⟩ := hoa.len; obtain ⟨hka, -⟩ := reg_end (by assumption) hba)
            | (go_at_call 53; with_reducible refine Calls.mono (HG1.out _ _ _ hoa.rp (trd (by assumption))) ?_; rintro e wb ⟨vb, rfl, hob, hbb⟩; obtain ⟨A6, c6, rfl, -⟩ := hob.len; obtain ⟨hkb, -⟩ := reg_end (by assumption) hbb)
            | (go_at_call 52; with_reducible refine Calls.mono (HF1.out _ _ _ hob.rp) ?_; rintro e wc ⟨rfl, hbc⟩; obtain ⟨hkc, -⟩ := reg_end (by assumption) hbc))
          all_goals
            go_wp2_with fail
            go_meet
            case rel => exact ⟨rfl, hkc⟩
        case rest =>
          obtain ⟨w4, hwc⟩ : ∃ w9, w9 = wc := ⟨_, rfl⟩
          subst hwc
          obtain ⟨rfl, hk4⟩ := hcut
          have hb14 : Below w1.heap.size w1 w4 := below_step HBL.out (below_step HBR.out hk4)
          have hown4 := HO.out.keep (below_step HBR.out hk4)
          by_cases hso : (Cyc.facO m (mpL m p t out q) q).isSome = true
          · have hst := HST.out
            rw [if_pos hso] at hst
            obtain ⟨f1, f2⟩ := HFB.out (mpL m p t out q) q
            have hF : FR = Cyc.facM m (mpL m p t out q) q := by rw [← HFR.out, facR_some hso]
            rw [← hF] at hst f1 f2
            have HST2 := Lib.hid hst
            have HO4 := Lib.hid hown4
            have hs4 := hb14.size
            have HB4 := Lib.hid hb14
            have hn : ¬ FR < 0 := by omega
            have HLEN2 := Lib.hid (show (out ++ [FR]).length = k + 1 - 1 by have := HLEN.out; rw [List.length_append]; simp; omega)
            clear hso hst hF hk4 hown4 hb14
            go_wp2_with (at_builtin; refine wp_push _ _ _ (by rfl) (by rfl) Tryz.underlying26 w1.heap.size _ _ (by rfl) HO4.out FR (by rfl) (by omega) hs4 ?_; intro v' w5 ho5 hpb)
            have HP := Lib.hid (HB4.out.trans hpb)
            have HQ5 := Lib.hid ho5
            clear hpb ho5
            go_wp2
            go_roundw
            case rel => exact ⟨k + 1, q, out ++ [FR], by go_num, rfl, by rw [Nat.add_sub_cancel]; exact HQQ.out, by omega, by omega, HLEN2.out, fun i => by
                rcases Nat.lt_trichotomy i out.length with h | rfl | h
                · rw [co_snoc_low out FR h]; exact HX.out i
                · rw [co_snoc_at]; exact ⟨f1, f2⟩
                · rw [Ser.co_over (by rw [List.length_append]; simp; omega)]; omega, HQ5.out, by rw [← HST2.out]; exact HQ.out, HP.out⟩
            case measure => simp only [intOf]; omega
          · have hst := HST.out
            rw [if_neg hso] at hst
            have hF : FR = -1 := by rw [← HFR.out, facR_no hso]
            subst hF
            have HN := Lib.hid (show Z = none from HZN.out (by rw [← HQ.out, hst]))
            have HB4 := Lib.hid (below_step HB.out (below_step HB1.out hb14))
            clear hso hst hk4 hown4 hb14
            go_wp2
            exact bodyPost_ret (v := .tuple #[.slice none 0 0, .bool false]) (by simp [results, Tryz.results28, go_sem]) rfl ⟨_, by rw [HN.out]; rfl, fun r hr => (by rw [HN.out] at hr; cases hr), HB4.out⟩
    · have j2 : ¬ (k : Int) ≤ (N : Int) := by omega
      have HYS := Lib.hid (show Y = some out by rw [← HQ.out, show N + 1 - k = 0 by omega]; rfl)
      have HZ1 := Lib.hid (HZS.out out HYS.out)
      obtain ⟨T1, hT1⟩ : ∃ T, lawT p m d (Ser.co out) = T := ⟨_, rfl⟩
      have HL1 := Lib.hid (fun W0 (h : Below wr.heap.size wr W0) => by
        have := HLW.out d hd1 hd2 Al cl out W0 (by omega) HX.out (HO.out.ri.below h)
        rw [hT1] at this
        exact this)
      have HS1 := Lib.hid (fun A1 c1 W0 (h1 : RP W0 A1 T1) (h : Below wr.heap.size wr W0) => by
        have := HSM.out A1 c1 out W0 (below_step HBW.out h) (by rw [hT1]; exact h1)
        rw [hT1] at this
        exact this)
      have HT1 := Lib.hid hT1
      clear hT1 hlen hP1
      go_upto_region 13 with fail
      clear z1 z2 z3
      go_region_held3 (fun w' => (w'.cell? ⟨w.heap.size, 0, none⟩ = some (.int .i64 m) ∧ w'.cell? ⟨w.heap.size, 1, none⟩ = some (.slice A L c)) ∧ True ∧ Below wr.heap.size wr w') (first | exact HK.out _ (below_drew0 _) | exact HK.out _ hkb | exact HK.out _ hka) (first
        | (go_at_call 50; with_reducible refine Calls.mono (HL1.out _ (trd (by assumption))) ?_; rintro e wa ⟨va, rfl, hoa, hba⟩; obtain ⟨A5, c5, rfl, -⟩ := hoa.len; obtain ⟨hka, -⟩ := reg_end (by assumption) hba)
        | (go_at_call 55; with_reducible refine Calls.mono (HS1.out _ _ _ hoa.rp (trd (by assumption))) ?_; rintro e wb ⟨rfl, hbb⟩; obtain ⟨hkb, -⟩ := reg_end (by assumption) hbb))
      all_goals
        have hown4 := HO.out.keep hkb
        have HO4 := Lib.hid (hown4.more (b' := w.heap.size) (below_step HB.out HB1.out).size)
        have HB4 := Lib.hid (below_step HB.out (below_step HBW.out hkb))
        have HZ2 := Lib.hid (show Z.isSome = decide (T1 = t) by
          rw [HZ1.out, HT1.out]
          by_cases hh : T1 = t
          · rw [if_pos hh, decide_eq_true hh]; rfl
          · rw [if_neg hh, decide_eq_false hh]; rfl)
        have HZ3 : Hid (∀ r, Z = some r → out = r) := Lib.hid (fun r hr => by
          rw [HZ1.out] at hr
          by_cases hh : lawT p m d (Ser.co out) = t
          · rw [if_pos hh] at hr; exact Option.some.inj hr
          · rw [if_neg hh] at hr; cases hr)
        clear hown4
        go_wp2
        exact bodyPost_ret (v := .tuple #[.slice Al out.length cl, .bool (decide (T1 = t))]) (by simp [results, Tryz.results28, go_sem]) rfl ⟨_, by rw [HZ2.out], fun r hr => (by rw [← HZ3.out r hr]; exact HO4.out), HB4.out⟩
end Go.Proofs.YtfhdgcndiljjcabGreat

/- Contracts of TypicalParameters and IsTypicalLaw, of the model. -/
namespace Go.Proofs.YtfhdgcndiljjcabGreat
open Go Go.RowKit Go.WideShapes Go.ChangeShapes Go.ChangeAt
set_option maxHeartbeats 4000000 in
theorem l09Of_any (m : Int) (A : Option Addr) (c : Nat) (t : List (List Int)) (p : Int) (w : World) (hz : szT t ≤ 1048576) (hr : RP w A t) :
    Calls Tryz.prog 27 #[.int .i64 p, .agg #[.int .i64 m, .slice A t.length c]] w fun e w' => e = .returned (.int .i64 (codeLP m t p)) ∧ Below w.heap.size w w' := by
  obtain ⟨W, hW, b1, hwb⟩ := start1 29 w m A t.length c
  have HB := Lib.hid hwb
  have HW := Lib.hid hW
  have HL := Lib.hid (l04Is_any m A c t W hz (hr.below hwb))
  have HP := Lib.hid (fun W0 => l09Prime_any p W0)
  unfold codeLP
  obtain ⟨x1, x2, x3⟩ := b1
  clear hwb hW hr hz
  by_cases h0 : isL m t = true
  · rw [if_pos h0]
    rw [h0] at HL
    by_cases hp : isP4 p = true
    · rw [if_pos hp]
      rw [hp] at HP
      clear h0 hp
      go_enter Tryz.func27, Tryz.ntmps27
      go_wp2_with fail
      rw [HW.out]
      go_wp2_with fail
      refine HL.out.mono ?_
      rintro e w1 ⟨rfl, hb1⟩
      go_wp2_with fail
      refine (HP.out _).mono ?_
      rintro e w' ⟨rfl, rfl⟩
      go_wp2
      go_ret
      exact ⟨rfl, below_step HB.out hb1⟩
    · rw [if_neg hp]
      rw [show isP4 p = false by simpa using hp] at HP
      clear h0 hp
      go_enter Tryz.func27, Tryz.ntmps27
      go_wp2_with fail
      rw [HW.out]
      go_wp2_with fail
      refine HL.out.mono ?_
      rintro e w1 ⟨rfl, hb1⟩
      go_wp2_with fail
      refine (HP.out _).mono ?_
      rintro e w' ⟨rfl, rfl⟩
      go_wp2
      go_ret
      exact ⟨rfl, below_step HB.out hb1⟩
  · rw [if_neg h0]
    rw [show isL m t = false by simpa using h0] at HL
    clear h0 HP
    go_enter Tryz.func27, Tryz.ntmps27
    go_wp2_with fail
    rw [HW.out]
    go_wp2_with fail
    refine HL.out.mono ?_
    rintro e w1 ⟨rfl, hb1⟩
    go_wp2
    go_ret
    exact ⟨rfl, below_step HB.out hb1⟩
theorem tparM_len (p m : Int) (t : List (List Int)) : (tparM p m t).1.length ≤ 1048576 := by
  unfold tparM
  by_cases h0 : codeLP m t p = 0
  · rw [if_pos h0]
    obtain ⟨hl, hp⟩ := codeLP_ok h0
    obtain ⟨-, d, e1, ok, hf⟩ := isL_of hl
    have hp4 := (isP4_iff p).1 hp
    have hd2 := ok.d2
    have hd1 := ok.d1
    obtain ⟨P, rfl⟩ := Int.eq_ofNat_of_zero_le (show 0 ≤ p by omega)
    have hO : tpO (P : Int) m t = mpR m P d t := by unfold tpO; rw [e1, Int.toNat_natCast, mp_eq (by omega) ok hf]; rfl
    show (tpL (tpO (P : Int) m t)).length ≤ _
    rw [hO]
    unfold mpR
    cases h : mpP m P t (needN P d) 1 [] with
    | none => exact Nat.zero_le _
    | some out =>
      have hlen : ∀ f k o r, mpP m P t f k o = some r → r.length = o.length + f := by
        intro f
        induction f with
        | zero => intro k o r h; obtain rfl := Option.some.inj (show some o = some r from h); rfl
        | succ f ih =>
          intro k o r h
          rw [mpP] at h
          split at h
          · have := ih _ _ _ h
            rw [List.length_append] at this
            simp at this
            omega
          · cases h
      have h1 := hlen _ _ _ _ h
      have h3 := needN_le3 P (in4 (by omega)) d (List.mem_range.2 (by omega))
      simp at h1
      show (tpL (if lawT P m d (Ser.co out) = t then some out else none)).length ≤ _
      split
      · show out.length ≤ _; omega
      · exact Nat.zero_le _
  · rw [if_neg h0]; exact Nat.zero_le _
set_option maxHeartbeats 8000000 in
set_option maxRecDepth 100000 in
theorem sTypicalParameters_any (p : Int) (m : Int) (A : Option Addr) (c : Nat) (t : List (List Int)) (w : World) (hz : szT t ≤ 1048576) (hr : RP w A t) :
    Calls Tryz.prog 8 #[.int .i64 p, .agg #[.int .i64 m, .slice A t.length c]] w fun e w' => ∃ s, e = .returned (.tuple #[s, .int .i64 (tparM p m t).2]) ∧ OwnI w' w.heap.size s (tparM p m t).1 ∧ Below w.heap.size w w' := by
  obtain ⟨W, hW, b1, hwb⟩ := start1 29 w m A t.length c
  have B1 := Lib.hid b1
  have HB := Lib.hid hwb
  have HW := Lib.hid hW
  have HC := Lib.hid (l09Of_any m A c t p W hz (hr.below hwb))
  by_cases h0 : codeLP m t p = 0
  · obtain ⟨hl, hp⟩ := codeLP_ok h0
    obtain ⟨-, d, e1, ok, hf⟩ := isL_of hl
    have hp4 := (isP4_iff p).1 hp
    rw [h0] at HC
    obtain ⟨P, rfl⟩ := Int.eq_ofNat_of_zero_le (show 0 ≤ p by omega)
    have HT := Lib.hid (fun W0 (h : Below W.heap.size W W0) => l09Parameters_any P m d A c t W0 ok ((hr.below hwb).below h) (by omega))
    have hO : tpO (P : Int) m t = mpR m P d t := by unfold tpO; rw [e1, Int.toNat_natCast, mp_eq (by omega) ok hf]; rfl
    have hA : tparM (P : Int) m t = (tpL (tpO (P : Int) m t), if (tpO (P : Int) m t).isSome = true then 0 else 4) := by unfold tparM; rw [if_pos h0]
    rw [hA]
    rw [← hO] at HT
    obtain ⟨O, hOO⟩ : ∃ O, tpO (P : Int) m t = O := ⟨_, rfl⟩
    rw [hOO] at HT ⊢
    obtain ⟨L, hL⟩ : ∃ L, t.length = L := ⟨_, rfl⟩
    rw [hL] at HC HT HW B1 ⊢
    obtain ⟨x1, x2, x3⟩ := B1.out
    cases O with
    | some r =>
      clear b1 hwb hW hr hz h0 hl hp e1 ok hf hp4 hO hA hOO hL
      rw [if_pos (show (some r).isSome = true from rfl)]
      go_enter Tryz.func8, Tryz.ntmps8
      go_wp2_with fail
      rw [HW.out]
      go_wp2_with fail
      refine HC.out.mono ?_
      rintro e w1 ⟨rfl, hb1⟩
      obtain ⟨y1, y2, y3⟩ := B1.out.keep hb1
      go_wp2_with fail
      refine (HT.out _ hb1).mono ?_
      rintro e w3 ⟨v, rfl, ho, hb3⟩
      have HO := Lib.hid ((ho r rfl).more (b' := w.heap.size) (below_step HB.out hb1).size)
      have HB3 := Lib.hid (below_step HB.out (below_step hb1 hb3))
      clear ho hb1 hb3
      go_wp2
      exact bodyPost_ret (v := .tuple #[v, .int .i64 0]) (by simp [results, Tryz.results8, go_sem]) rfl ⟨_, rfl, HO.out, HB3.out⟩
    | none =>
      clear b1 hwb hW hr hz h0 hl hp e1 ok hf hp4 hO hA hOO hL
      rw [if_neg (show ¬ (none : Option (List Int)).isSome = true by decide)]
      go_enter Tryz.func8, Tryz.ntmps8
      go_wp2_with fail
      rw [HW.out]
      go_wp2_with fail
      refine HC.out.mono ?_
      rintro e w1 ⟨rfl, hb1⟩
      obtain ⟨y1, y2, y3⟩ := B1.out.keep hb1
      go_wp2_with fail
      refine (HT.out _ hb1).mono ?_
      rintro e w3 ⟨v, rfl, -, hb3⟩
      have HB3 := Lib.hid (below_step HB.out (below_step hb1 hb3))
      clear hb1 hb3
      go_wp2
      exact bodyPost_ret (v := .tuple #[.slice none 0 0, .int .i64 4]) (by simp [results, Tryz.results8, go_sem]) rfl ⟨_, rfl, OwnI.nil _ _, HB3.out⟩
  · have hA : tparM p m t = ([], codeLP m t p) := by unfold tparM; rw [if_neg h0]
    rw [hA]
    obtain ⟨n1, n2⟩ := ne_facts h0
    obtain ⟨C, hC⟩ : ∃ C, codeLP m t p = C := ⟨_, rfl⟩
    rw [hC] at HC n1 n2 ⊢
    obtain ⟨x1, x2, x3⟩ := B1.out
    clear b1 hwb hW hr hz h0 hA hC
    go_enter Tryz.func8, Tryz.ntmps8
    go_wp2_with fail
    rw [HW.out]
    go_wp2_with fail
    refine HC.out.mono ?_
    rintro e w1 ⟨rfl, hb1⟩
    go_wp2
    exact bodyPost_ret (v := .tuple #[.slice none 0 0, .int .i64 C]) (by simp [results, Tryz.results8, go_sem]) rfl ⟨_, rfl, OwnI.nil _ _, below_step HB.out hb1⟩
set_option maxHeartbeats 8000000 in
set_option maxRecDepth 100000 in
theorem sIsTypicalLaw_any (p : Int) (m : Int) (A : Option Addr) (c : Nat) (t : List (List Int)) (w : World) (hz : szT t ≤ 1048576) (hr : RP w A t) :
    Calls Tryz.prog 16 #[.int .i64 p, .agg #[.int .i64 m, .slice A t.length c]] w fun e w' => e = .returned (.tuple #[.bool (itlM p m t).1, .int .i64 (itlM p m t).2]) ∧ Below w.heap.size w w' := by
  obtain ⟨W, hW, b1, hwb⟩ := start1 29 w m A t.length c
  have B1 := Lib.hid b1
  have HB := Lib.hid hwb
  have HW := Lib.hid hW
  have HC := Lib.hid (l09Of_any m A c t p W hz (hr.below hwb))
  by_cases h0 : codeLP m t p = 0
  · obtain ⟨hl, hp⟩ := codeLP_ok h0
    obtain ⟨-, d, e1, ok, hf⟩ := isL_of hl
    have hp4 := (isP4_iff p).1 hp
    rw [h0] at HC
    obtain ⟨P, rfl⟩ := Int.eq_ofNat_of_zero_le (show 0 ≤ p by omega)
    have HT := Lib.hid (fun W0 (h : Below W.heap.size W W0) => l09Parameters_any P m d A c t W0 ok ((hr.below hwb).below h) (by omega))
    have hO : tpO (P : Int) m t = mpR m P d t := by unfold tpO; rw [e1, Int.toNat_natCast, mp_eq (by omega) ok hf]; rfl
    have hA : itlM (P : Int) m t = ((tpO (P : Int) m t).isSome, 0) := by unfold itlM; rw [if_pos h0]
    rw [hA]
    rw [← hO] at HT
    obtain ⟨O, hOO⟩ : ∃ O, tpO (P : Int) m t = O := ⟨_, rfl⟩
    rw [hOO] at HT ⊢
    obtain ⟨b, hb⟩ : ∃ b, O.isSome = b := ⟨_, rfl⟩
    rw [hb] at HT ⊢
    obtain ⟨L, hL⟩ : ∃ L, t.length = L := ⟨_, rfl⟩
    rw [hL] at HC HT HW B1 ⊢
    obtain ⟨x1, x2, x3⟩ := B1.out
    clear b1 hwb hW hr hz h0 hl hp e1 ok hf hp4 hO hA hOO hL hb
    go_enter Tryz.func16, Tryz.ntmps16
    go_wp2_with fail
    rw [HW.out]
    go_wp2_with fail
    refine HC.out.mono ?_
    rintro e w1 ⟨rfl, hb1⟩
    obtain ⟨y1, y2, y3⟩ := B1.out.keep hb1
    go_wp2_with fail
    refine (HT.out _ hb1).mono ?_
    rintro e w3 ⟨v, rfl, -, hb3⟩
    have HB3 := Lib.hid (below_step HB.out (below_step hb1 hb3))
    clear hb1 hb3
    go_wp2
    exact bodyPost_ret (v := .tuple #[.bool b, .int .i64 0]) (by simp [results, Tryz.results16, go_sem]) rfl ⟨rfl, HB3.out⟩
  · have hA : itlM p m t = (false, codeLP m t p) := by unfold itlM; rw [if_neg h0]
    rw [hA]
    obtain ⟨n1, n2⟩ := ne_facts h0
    obtain ⟨C, hC⟩ : ∃ C, codeLP m t p = C := ⟨_, rfl⟩
    rw [hC] at HC n1 n2 ⊢
    obtain ⟨x1, x2, x3⟩ := B1.out
    clear b1 hwb hW hr hz h0 hA hC
    go_enter Tryz.func16, Tryz.ntmps16
    go_wp2_with fail
    rw [HW.out]
    go_wp2_with fail
    refine HC.out.mono ?_
    rintro e w1 ⟨rfl, hb1⟩
    go_wp2
    exact bodyPost_ret (v := .tuple #[.bool false, .int .i64 C]) (by simp [results, Tryz.results16, go_sem]) rfl ⟨rfl, below_step HB.out hb1⟩
end Go.Proofs.YtfhdgcndiljjcabGreat

/- Helpers of the exact laws whose result is a list of integers. -/
namespace Go.Proofs.YtfhdgcndiljjcabGreat
open Go.RowKit Go.WideShapes Go.ChangeShapes Go.ChangeAt
theorem heldInt64S_b (A : Option Addr) (c n : Nat) (k : Int) (w : World) (hl : n ≤ 10485760) (hk : 0 ≤ k) (hk2 : k ≤ 1000000000000) (hr : RI w A (marks k n)) :
    Calls Tryz.prog 15 #[.slice A n c, .int .i64 k] w fun e w' => e = .returned (.int .i64 (k + n)) ∧ Below w.heap.size w w' :=
  (heldInt64S_any A c n k w hl hk hk2 hr).mono fun e w' ⟨h1, h2⟩ => ⟨h1, by subst h2; exact Below.refl _ _⟩
end Go.Proofs.YtfhdgcndiljjcabGreat

/- A plane among a law's arguments: what its reading tells. -/
namespace Go.Proofs.YtfhdgcndiljjcabGreat
open Go.RowKit Go.WideShapes Go.ChangeShapes Go.ChangeAt
theorem cells_pla : Tryz.prog.cellsOf 24 = 2 := by kernel_rfl
theorem cells_i64ss : Tryz.prog.cellsOf 22 = 1 := by kernel_rfl
set_option maxRecDepth 100000 in
theorem open_pla {H : Type} {enc : TypeId × Value → H} {W : World} {base : Nat} {v : Value} {d : DataW H} {p : List MemPlace}
    (hv : Value.okWide Tryz.prog W .any base 24 v) (h : DataW.Trod enc Tryz.prog W 0 (fun _ => true) true 24 v d p) :
    ∃ (m : Int) (A : Option Addr) (c : Nat) (t : List (List Int)), v = .agg #[.int .i64 m, .slice A t.length c] ∧ (t.length ≤ 9223372036854775807 ∧ ∀ k, (Pl.rw' t k).length ≤ 9223372036854775807) ∧ RQ W A t := by
  obtain ⟨cs, rfl, hsz⟩ := okWide_struct Tryz.underlying24 hv
  rw [cells_pla] at hsz
  obtain ⟨l⟩ := cs
  match l, hsz with
  | [c0, c1], _ =>
    obtain ⟨fuel, hf⟩ := h
    obtain ⟨y0, y1, m, hx, _, hy0, hy1⟩ := trod_struct2 Tryz.underlying24 hf
    obtain ⟨a, e0, -, -⟩ := DataW.trod_int Tryz.underlying2 hy0
    simp [Value.cells, cells_i64] at e0
    subst e0
    rcases Go.Deep.open_int_rows Tryz.underlying22 Tryz.underlying26 Tryz.underlying2 (by kernel_rfl) (by kernel_rfl) hy1 with ⟨hcs, -⟩ | ⟨ad, n, cap, A, L, C, Z, hcs, -, hl, hm, -, hr⟩
    · simp [Value.cells, cells_i64ss] at hcs
      subst hcs
      exact ⟨a, none, 0, [], rfl, ⟨Nat.zero_le _, fun k => Nat.zero_le _⟩, fun h => absurd rfl h⟩
    · simp [Value.cells, cells_i64ss] at hcs
      subst hcs
      have key : ∀ r, r < n → Pl.rw' ((List.range n).map fun r => (Z r).take (L r)) r = (Z r).take (L r) := by
        intro r h
        unfold Pl.rw'
        rw [List.getElem?_map, List.getElem?_range h]; rfl
      have klen : ∀ r, r < n → ((Z r).take (L r)).length = L r := by
        intro r h
        obtain ⟨_, h2, _, h4, _⟩ := hr r (by omega)
        rw [List.length_take]; omega
      have hlen : ((List.range n).map fun r => (Z r).take (L r)).length = n := by simp
      refine ⟨a, some ad, cap, (List.range n).map fun r => (Z r).take (L r), by rw [hlen], ⟨by rw [hlen]; unfold maxLen at hm; omega, fun k => ?_⟩, fun hne => ?_⟩
      · by_cases hk : k < n
        · rw [key k hk, klen k hk]
          obtain ⟨_, h2, h3, _⟩ := hr k (by omega)
          unfold maxLen at h3; omega
        · rw [Pl.rw_over (by rw [hlen]; omega)]; exact Nat.zero_le _
      · have hn : 0 < n := by
          rcases Nat.eq_zero_or_pos n with e | e
          · subst e; exact absurd rfl hne
          · exact e
        refine ⟨ad, rfl, ?_, fun k hk => ?_⟩
        · have := World.block_lt_of_cell? W _ (hr 0 (by omega)).1
          rwa [add_block] at this
        · rw [hlen] at hk
          obtain ⟨h1, h2, h3, h4, _, _, h7⟩ := hr k (by omega)
          refine ⟨A k, C k, by rw [key k hk, klen k hk]; exact h1, ?_⟩
          rw [key k hk]
          intro hne2
          have hL : 0 < L k := by
            rcases Nat.eq_zero_or_pos (L k) with e | e
            · rw [e] at hne2; exact absurd rfl hne2
            · exact e
          rcases hA : A k with _ | a'
          · obtain ⟨_, _, _, _, _, h6, _⟩ := hr k (by omega)
            have := h6 hA
            omega
          · obtain ⟨_, h8⟩ := h7 a' hA
            refine ⟨a', rfl, ?_, fun j hj => ?_⟩
            · have := World.block_lt_of_cell? W _ (h8 0 (by omega))
              rwa [add_block] at this
            · rw [klen k hk] at hj
              rw [h8 j (by omega), List.getElem?_take, if_pos hj]
              simp [List.getD_eq_getElem?_getD]
end Go.Proofs.YtfhdgcndiljjcabGreat

