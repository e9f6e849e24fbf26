/- Texts of contracts, joined. -/
import Derived.Test.YteicllnbphljnaaMgag
import Derived.Test.YteicllnbphljnaaMgad
import Derived.Test.YteicllnbphljnaaMgac
import Derived.Deep.QuietTactic
import Derived.BigQuiet
import Derived.Maps.AppendAt
import Derived.Test.YteicllnbphljnaaMgaf
/- Contracts of PowerOfSeries, of the program and of the model. -/
namespace Go.Proofs.Yteicllnbphljnaa
open Go.RowKit Go.WideShapes Go.ChangeShapes Go.ChangeAt

def powM (m : Int) (l : List Int) (k : Int) : Int × List Int × Int :=
  if isS m l = true then (if inB k 0 1000 = true then (m, Ser.powL m (l.length - 1) l k.toNat, 0) else (0, [], 2)) else (0, [], 1)
theorem powM_len (m : Int) (l : List Int) (k : Int) : (powM m l k).2.1.length ≤ 1048576 := by
  unfold powM
  split
  · rename_i h
    obtain ⟨d, e, s⟩ := serOk_of h
    have := s.d2
    split
    · dsimp only; rw [Ser.powL_length]; omega
    · simp
  · simp
theorem SerOk.mul {m : Int} {d : Nat} {l l' : List Int} (h : SerOk m d l) : SerOk m d (Ser.mulL m d l l') := h.cut _

set_option maxHeartbeats 8000000 in
set_option maxRecDepth 100000 in
theorem PowerOfSeries_any (m : Int) (A : Option Addr) (c : Nat) (l : List Int) (k : Int) (w : World) (hl : l.length ≤ 1048576) (hr : RI w A l) :
    Calls Try.prog 32 #[.agg #[.int .i64 m, .slice A l.length c], .int .i64 k] w fun e w' => ∃ s, e = .returned (.tuple #[.agg #[.int .i64 (powM m l k).1, s], .int .i64 (powM m l k).2.2]) ∧ OwnI w' w.heap.size s (powM m l k).2.1 ∧ Below w.heap.size w w' := by
  obtain ⟨W, hW, b1, v3, b4, hwb⟩ := pro1 w m A l.length c
  have B1 := Lib.hid b1
  have V3 := Lib.hid v3
  have HB := Lib.hid hwb
  have HW := Lib.hid hW
  have R1 := Lib.hid (hr.below hwb)
  have HC := Lib.hid (codeOfSeries1_any (w.heap.size + 1 + 1) m A c l W (by omega) R1.out b4)
  clear b1 v3 b4 hwb hW hr
  by_cases h0 : isS m l = true
  · obtain ⟨d, e1, s1⟩ := serOk_of h0
    have hc := HC.out
    rw [code1_isS h0] at hc
    have HC0 := Lib.hid hc
    clear hc HC
    by_cases hk : inB k 0 1000 = true
    · obtain ⟨k1, k2⟩ := (inB_iff _ _ _).1 hk
      obtain ⟨K, rfl⟩ := Int.eq_ofNat_of_zero_le k1
      have HA : Hid (powM m l (K : Int) = (m, Ser.powL m d l K, 0)) := Lib.hid (by unfold powM; rw [if_pos h0, if_pos hk, e1]; rfl)
      rw [HA.out]
      have m1 := s1.m1
      have m2 := s1.m2
      have hd := s1.d2
      have HDG := Lib.hid (fun W0 => degree_nat m A l.length c d W0 e1 (by omega))
      have HMO := Lib.hid (fun W0 => monomial_any m d 0 1 W0 (by omega) m2 (by omega) (by omega) (by omega))
      have HSO := Lib.hid s1
      have hrp := fun (A0 : Option Addr) (c0 lo : Nat) (W0 : World) (h : Below W.heap.size W W0) (hlo : lo ≤ W0.heap.size) (ho : OwnI W0 lo (.slice A0 (Ser.cut m d (Ser.mon 0 1)).length c0) (Ser.cut m d (Ser.mon 0 1))) =>
        repeated_any m d 82 #[] (Ser.mulL m d) (SerOk m d) K A0 c0 (Ser.cut m d (Ser.mon 0 1)) A c l lo W0 (by omega) hlo (fun _ h => h) (fun _ _ h _ => h.mul) (s1.cut _) s1 ho (R1.out.below h)
          (fun a b W1 => enters_fn Try.func82 (of_decide_eq_true (by kernel_rfl)) rfl _ W1)
          (fun P S Ap cp As cs W1 q1 q2 hb r1 r2 => by rw [Array.empty_append]; exact times_any m d Ap cp P m As cs S W1 q1 q2 r1 r2)
      have HRP := Lib.hid hrp
      obtain ⟨R, hR⟩ : ∃ R, Ser.powL m d l K = R := ⟨_, rfl⟩
      rw [show Ser.repS (Ser.mulL m d) K (Ser.cut m d (Ser.mon 0 1)) l = R by rw [Ser.repS_pow]; exact hR] at HRP
      obtain ⟨L0, hL0⟩ : ∃ L0, Ser.cut m d (Ser.mon 0 1) = L0 := ⟨_, rfl⟩
      rw [hL0] at HMO HRP
      rw [hR]
      obtain ⟨n, hn⟩ : ∃ n, l.length = n := ⟨_, rfl⟩
      rw [hn] at HDG HRP HW B1 ⊢
      clear hL0 hR hrp e1 s1 h0 hn HSO
      go_enter Try.func32, Try.ntmps32
      go_wp2_with fail
      rw [HW.out]
      refine HC0.out.mono ?_
      rintro e w1 ⟨rfl, hb1⟩
      obtain ⟨x1, x2, x3⟩ := B1.out.keep hb1
      have X0 := Lib.hid (box_call (below_drew0 w1) ⟨x1, x2, x3⟩)
      have HSZ := Lib.hid V3.out.lt
      go_upto_region 6 with (go_at_call 80; refine (isWithin_any _ _ _ _).mono ?_; rintro e w' ⟨rfl, rfl⟩)
      go_region_held3 (fun w' => w'.cell? ⟨w.heap.size, 0, none⟩ = some (.int .i64 m) ∧ w'.cell? ⟨w.heap.size, 1, none⟩ = some (.slice A n c) ∧ w.heap.size < w'.heap.size) (first | exact X0.out | exact box_call hb5 (by assumption) | exact box_call hb4 (by assumption) | exact box_call hb3 (by assumption) | exact box_store (by omega) (by assumption)) (first
        | (go_at_call 84; with_reducible refine Calls.mono (HDG.out _) ?_; rintro e w3 ⟨rfl, hb3⟩)
        | (go_at_call 83; with_reducible refine Calls.mono (HMO.out _) ?_; rintro e w4 ⟨s4, rfl, ho4, hb4⟩; obtain ⟨A4, c4, rfl, -⟩ := ho4.form)
        | (go_at_call 81; with_reducible refine Calls.mono (HRP.out _ _ _ _ (below_step (below_step (below_step hb1 (below_drew0 _)) hb3) hb4) hb4.size ho4) ?_; rintro e w5 ⟨s5, rfl, ho5, hb5⟩; obtain ⟨A5, c5, rfl, -⟩ := ho5.form; have hv := V3.out.keep (below_step (below_step (below_step (below_step hb1 (below_drew0 _)) hb3) hb4) hb5); have q0 := hv.c0; have q1 := hv.c1; have q2 := hv.fz 0; have q3 := hv.fz 1))
      all_goals
        have hw3 := below_step (below_step (below_step (below_step hb1 (below_drew0 _)) hb3) hb4) hb5
        have hz1 := (below_step (below_step hb1 (below_drew0 _)) hb3).size
        have hz2 := HSZ.out
        obtain ⟨f0, f1, f2, f3⟩ := fin_var (w := w) hv ho5 (by omega) (by omega) (below_step HB.out hw3) (.int .i64 m) (.slice A5 R.length c5)
        have F2 := Lib.hid f2
        have F3 := Lib.hid f3
        clear f2 f3 ho5 ho4 hb1 hb3 hb4 hb5 hv hw3
        go_wp2
        exact bodyPost_ret (v := .tuple #[.agg #[.int .i64 m, .slice A5 R.length c5], .int .i64 0]) (by simp [results, Try.results32, go_sem, f0, f1]) rfl ⟨_, rfl, F2.out, F3.out⟩
    · have HA : Hid (powM m l k = (0, [], 2)) := Lib.hid (by unfold powM; rw [if_pos h0, if_neg hk])
      rw [HA.out]
      have hk' : inB k 0 1000 = false := by simpa using hk
      clear hk h0 e1 s1
      go_enter Try.func32, Try.ntmps32
      go_wp2_with fail
      rw [HW.out]
      refine HC0.out.mono ?_
      rintro e w1 ⟨rfl, hb1⟩
      obtain ⟨x1, x2⟩ := box_in B1.out hb1
      have hv := V3.out.keep hb1
      have q0 := hv.c0
      have q1 := hv.c1
      have q2 := hv.fz 0
      have q3 := hv.fz 1
      obtain ⟨f0, f1, f2, f3⟩ := fin_var (w := w) hv (OwnI.nil _ (w.heap.size + 1 + 1 + 1)) (by omega) (by omega) (below_step HB.out hb1) (.int .i64 0) (.slice none 0 0)
      have F2 := Lib.hid f2
      have F3 := Lib.hid f3
      clear f2 f3 hv
      go_wp2_with (go_at_call 80; refine (isWithin_any _ _ _ _).mono ?_; rintro e w' ⟨rfl, rfl⟩)
      exact bodyPost_ret (v := .tuple #[.agg #[.int .i64 0, .slice none 0 0], .int .i64 2]) (by simp [results, Try.results32, go_sem, f0, f1]) rfl ⟨_, rfl, F2.out, F3.out⟩
  · have h0' : isS m l = false := by simpa using h0
    have HA : Hid (powM m l k = (0, [], 1)) := Lib.hid (by unfold powM; rw [if_neg h0])
    rw [HA.out]
    have hc := HC.out
    rw [code1_no h0'] at hc
    have HC0 := Lib.hid hc
    clear hc HC h0
    go_enter Try.func32, Try.ntmps32
    go_wp2_with fail
    rw [HW.out]
    refine HC0.out.mono ?_
    rintro e w1 ⟨rfl, hb1⟩
    have hv := V3.out.keep hb1
    have q0 := hv.c0
    have q1 := hv.c1
    have q2 := hv.fz 0
    have q3 := hv.fz 1
    obtain ⟨f0, f1, f2, f3⟩ := fin_var (w := w) hv (OwnI.nil _ (w.heap.size + 1 + 1 + 1)) (by omega) (by omega) (below_step HB.out hb1) (.int .i64 0) (.slice none 0 0)
    have F2 := Lib.hid f2
    have F3 := Lib.hid f3
    clear f2 f3 hv
    go_wp2
    exact bodyPost_ret (v := .tuple #[.agg #[.int .i64 0, .slice none 0 0], .int .i64 1]) (by simp [results, Try.results32, go_sem, f0, f1]) rfl ⟨_, rfl, F2.out, F3.out⟩

/-! the model -/
theorem one_list (m : Int) (d : Nat) (m1 : 2 ≤ m) : (List.replicate (d + 1) (0 : Int)).set 0 1 = Ser.one m d := by
  refine Ser.list_ext (by simp [Ser.one, Ser.cut_length]) (fun i hi => ?_)
  rw [List.length_set, List.length_replicate] at hi
  unfold Ser.one
  rw [Ser.co_cut (by omega), Ser.co_set (by simp)]
  unfold Ser.mon
  by_cases h : i = 0
  · rw [if_pos h, if_pos h, Int.emod_eq_of_lt (by omega) (by omega)]
  · rw [if_neg h, if_neg h, Ser.co_zeros, Int.zero_emod]

set_option maxHeartbeats 4000000 in
theorem l02Power_any (m : Int) (d K : Nat) (A : Option Addr) (c : Nat) (l : List Int) (w : World) (hs : SerOk m d l) (hr : RI w A l) (hK : K ≤ 1000) :
    Calls Try.prog 77 #[.int .i64 m, .slice A l.length c, .int .i64 K, .int .i64 d] w fun e w' => ∃ v, e = .returned v ∧ OwnI w' w.heap.size v (Ser.powL m d l K) ∧ Below w.heap.size w w' := by
  have hd := hs.d2
  have hmk : ∀ W : World, (Instr.makeSlice 25 (.int .i64 ((d : Int) + 1)) (.int .i64 ((d : Int) + 1))).run Try.prog W = .ok (.slice (some ⟨W.heap.size, 0, none⟩) (d + 1) (d + 1)) (W.alloc (.cells (madeCells #[.int .i64 0] (d + 1)) 2)) := by
    intro W
    have := run_make_row' (P := Try.prog) 25 2 (.int .i64 0) 8 Try.underlying25 info64 rfl .i64 .i64 (d + 1) (by omega) (by omega) W
    rwa [show ((d + 1 : Nat) : Int) = (d : Int) + 1 by omega] at this
  have ho := OwnI.made w (d + 1) (by unfold maxLen; omega)
  obtain ⟨-, -, o3, o4⟩ := ho.cells
  have q1 := o3 0 (by simp)
  have q2 := o4 0
  have q3 : (List.replicate (d + 1) (0 : Int))[0]?.getD 0 = 0 := by simp
  rw [q3] at q1
  have hset := ho.set 0 1
  rw [one_list m d hs.m1, World.setCell_alloc_at _ _ _ _ _ rfl] at hset
  have hol : (Ser.one m d).length = d + 1 := Ser.cut_length _ _ _
  have HSET := Lib.hid hset
  have HOK := Lib.hid (show SerOk m d (Ser.one m d) from hs.cut _)
  have HS := Lib.hid hs
  have HR := Lib.hid hr
  have HOL := Lib.hid hol
  obtain ⟨R, hR⟩ : ∃ R, Ser.powL m d l K = R := ⟨_, rfl⟩
  have HRR := Lib.hid (show Ser.powS m d K (Ser.one m d) l = R from hR)
  rw [hR]
  have j1 : (0 : Int) < (d : Int) + 1 := by omega
  clear ho o3 o4 q3 hset hs hr hol hR
  go_enter Try.func77, Try.ntmps77
  go_wp2
  go_loopw [1, 2, 9] (fun s1 s2 s9 wr => ∃ (kk : Nat) (P S : List Int) (As : Option Addr) (cs : Nat), s1 = .slice As S.length cs ∧ s2 = .int .i64 kk ∧ kk ≤ 1000 ∧ Ser.powS m d kk P S = R ∧ SerOk m d P ∧ SerOk m d S ∧ OwnI wr w.heap.size s9 P ∧ RI wr As S ∧ Below w.heap.size w wr) (fun _ s2 _ _ => (intOf s2).toNat)
  case atStart =>
    refine ⟨K, _, l, A, c, rfl, rfl, hK, HRR.out, HOK.out, HS.out, HSET.out, HR.out.below (below_one _ _), below_one _ _⟩
  case round =>
    obtain ⟨kk, P, S, As, cs, rfl, rfl, hk9, hpw, sp, ss, op, rs, hbl⟩ := hrel
    have HPW := Lib.hid hpw
    have SP := Lib.hid sp
    have SS := Lib.hid ss
    have OP := Lib.hid op
    have RS := Lib.hid rs
    have HB := Lib.hid hbl
    obtain ⟨Ap, cp, rfl, -⟩ := op.form
    clear hpw sp ss op rs hbl hmk
    by_cases hz : kk = 0
    · subst hz
      have hr := HPW.out
      rw [Ser.powS_zero] at hr
      subst hr
      go_wp2
      go_ret
      exact ⟨_, rfl, OP.out, HB.out⟩
    · have hz2 : 0 < kk := by omega
      clear hz
      by_cases hodd : kk % 2 = 1
      · have HN := Lib.hid (Ser.powS_odd m d P S hodd)
        have i1 : ((kk : Int)).tmod 2 = 1 := by rw [Int.tmod_eq_emod_of_nonneg (by omega)]; omega
        go_wp2_with fail
        refine (l02Times_ok m d Ap cp P As cs S _ SP.out SS.out OP.out.ri RS.out).mono ?_
        rintro e w3 ⟨s3, rfl, ho3, hb3⟩
        go_wp2_with fail
        refine (l02Times_ok m d As cs S As cs S _ SS.out SS.out (RS.out.below hb3) (RS.out.below hb3)).mono ?_
        rintro e w4 ⟨s4, rfl, ho4, hb4⟩
        obtain ⟨A4, c4, rfl, r4⟩ := ho4.form
        have H3 := Lib.hid ((ho3.keep hb4).more HB.out.size)
        have H4 := Lib.hid r4
        have H5 := Lib.hid (below_step (below_step HB.out hb3) hb4)
        clear ho3 hb3 ho4 hb4 r4
        go_wp2
        go_roundw
        case rel => exact ⟨kk / 2, _, _, A4, c4, rfl, by first | rfl | go_num, by omega, by rw [← HN.out]; exact HPW.out, SP.out.mul, SS.out.mul, H3.out, H4.out, H5.out⟩
        case measure => simp only [intOf]; omega
      · have HN := Lib.hid (Ser.powS_even m d P S (by omega) hodd)
        have i3 : ¬ ((kk : Int)) % 2 = 1 := by omega
        obtain ⟨n1, n2⟩ : (((kk : Int)) % 2 == 1) = false ∧ (((kk : Int)) % 2 != 1) = true := ⟨by simpa using i3, by simpa using i3⟩
        clear hodd
        go_wp2_with fail
        refine (l02Times_ok m d As cs S As cs S _ SS.out SS.out RS.out RS.out).mono ?_
        rintro e w4 ⟨s4, rfl, ho4, hb4⟩
        obtain ⟨A4, c4, rfl, r4⟩ := ho4.form
        have H3 := Lib.hid (OP.out.keep hb4)
        have H4 := Lib.hid r4
        have H5 := Lib.hid (below_step HB.out hb4)
        clear ho4 hb4 r4
        go_wp2
        go_roundw
        case rel => exact ⟨kk / 2, _, _, A4, c4, rfl, by first | rfl | go_num, by omega, by rw [← HN.out]; exact HPW.out, SP.out, SS.out.mul, H3.out, H4.out, H5.out⟩
        case measure => simp only [intOf]; omega

set_option maxHeartbeats 4000000 in
set_option maxRecDepth 100000 in
theorem sPowerOfSeries_any (m : Int) (A : Option Addr) (c : Nat) (l : List Int) (k : Int) (w : World) (hl : l.length ≤ 1048576) (hr : RI w A l) :
    Calls Try.prog 31 #[.agg #[.int .i64 m, .slice A l.length c], .int .i64 k] w fun e w' => ∃ s, e = .returned (.tuple #[.agg #[.int .i64 (powM m l k).1, s], .int .i64 (powM m l k).2.2]) ∧ OwnI w' w.heap.size s (powM m l k).2.1 ∧ Below w.heap.size w w' := by
  obtain ⟨W, hW, b1, v3, hwb⟩ := spro1 w m A l.length c
  have B1 := Lib.hid b1
  have V3 := Lib.hid v3
  have HB := Lib.hid hwb
  have HW := Lib.hid hW
  have R1 := Lib.hid (hr.below hwb)
  have HC := Lib.hid (l02Is_any m A c l W (by omega) R1.out)
  clear b1 v3 hwb hW hr
  by_cases h0 : isS m l = true
  · obtain ⟨d, e1, s1⟩ := serOk_of h0
    have hc := HC.out
    rw [h0] at hc
    have HC0 := Lib.hid hc
    clear hc HC
    by_cases hk : inB k 0 1000 = true
    · obtain ⟨k1, k2⟩ := (inB_iff _ _ _).1 hk
      obtain ⟨K, rfl⟩ := Int.eq_ofNat_of_zero_le k1
      have HA : Hid (powM m l (K : Int) = (m, Ser.powL m d l K, 0)) := Lib.hid (by unfold powM; rw [if_pos h0, if_pos hk, e1]; rfl)
      rw [HA.out]
      have HDG := Lib.hid (fun W0 => l02Degree_any m A l.length c d W0 e1 (by have := s1.d2; omega))
      have HS := Lib.hid (fun W0 (h0 : Below W.heap.size W W0) => l02Power_any m d K A c l W0 s1 (R1.out.below h0) (by omega))
      obtain ⟨L, hL⟩ : ∃ L, Ser.powL m d l K = L := ⟨_, rfl⟩
      rw [hL] at HS ⊢
      clear e1 s1 hL h0
      go_enter Try.func31, Try.ntmps31
      go_wp2_with fail
      rw [HW.out]
      refine HC0.out.mono ?_
      rintro e w0 ⟨rfl, hb0⟩
      obtain ⟨x1, x2, x3⟩ := B1.out.keep hb0
      go_wp2_with (go_at_call 76; refine (l01In_any _ _ _ _).mono ?_; rintro e w' ⟨rfl, rfl⟩)
      go_wp2
      go_region_held3 (fun w' => w'.cell? ⟨w.heap.size, 0, none⟩ = some (.int .i64 m) ∧ w'.cell? ⟨w.heap.size, 1, none⟩ = some (.slice A l.length c) ∧ w.heap.size < w'.heap.size) (first | exact ⟨x1, x2, x3⟩ | exact box_store (by omega) (by assumption) | exact box_call (by assumption) (by assumption)) (first
        | (go_at_call 78; refine (HDG.out _).mono ?_; rintro e1 w1 ⟨rfl, hb1⟩)
        | (go_at_call 77; refine (HS.out _ (below_step (below_step hb0 (below_drew0 _)) hb1)).mono ?_; rintro e2 w2 ⟨s, rfl, ho, hb2⟩; obtain ⟨A2, c2, rfl, _⟩ := ho.form)
        | (go_at_call 61; refine (l02Make_any _ _ _ _ _).mono ?_; rintro e3 w3 ⟨rfl, hb3⟩; have hv := V3.out.keep (below_step (below_step (below_step (below_step hb0 (below_drew0 _)) hb1) hb2) hb3); have q0 := hv.c0; have q1 := hv.c1; have q2 := hv.fz 0; have q3 := hv.fz 1))
      all_goals
        have hw3 := below_step (below_step (below_step (below_step hb0 (below_drew0 _)) hb1) hb2) hb3
        have hz1 := (below_step (below_step hb0 (below_drew0 _)) hb1).size
        have hz2 := V3.out.lt
        obtain ⟨f0, f1, f2, f3⟩ := fin_var (w := w) hv (ho.keep hb3) (by omega) (by omega) (below_step HB.out hw3) (.int .i64 m) (.slice A2 L.length c2)
        have F2 := Lib.hid f2
        have F3 := Lib.hid f3
        clear f2 f3 ho hb0 hb1 hb2 hb3 hv hw3
        go_wp2
        exact bodyPost_ret (v := .tuple #[.agg #[.int .i64 m, .slice A2 L.length c2], .int .i64 0]) (by simp [results, Try.results31, go_sem, f0, f1]) rfl ⟨_, rfl, F2.out, F3.out⟩
    · have HA : Hid (powM m l k = (0, [], 2)) := Lib.hid (by unfold powM; rw [if_pos h0, if_neg hk])
      rw [HA.out]
      have hk' : inB k 0 1000 = false := by simpa using hk
      clear h0 hk e1 s1
      go_enter Try.func31, Try.ntmps31
      go_wp2_with fail
      rw [HW.out]
      refine HC0.out.mono ?_
      rintro e w1 ⟨rfl, hb1⟩
      obtain ⟨x1, x2⟩ := box_in B1.out hb1
      have hv := V3.out.keep hb1
      have q0 := hv.c0
      have q1 := hv.c1
      have q2 := hv.fz 0
      have q3 := hv.fz 1
      obtain ⟨f0, f1, f2, f3⟩ := fin_var (w := w) hv (OwnI.nil _ (w.heap.size + 1 + 1 + 1)) (by omega) (by omega) (below_step HB.out hb1) (.int .i64 0) (.slice none 0 0)
      have F2 := Lib.hid f2
      have F3 := Lib.hid f3
      clear f2 f3 hv
      go_wp2_with (go_at_call 76; refine (l01In_any _ _ _ _).mono ?_; rintro e w' ⟨rfl, rfl⟩)
      exact bodyPost_ret (v := .tuple #[.agg #[.int .i64 0, .slice none 0 0], .int .i64 2]) (by simp [results, Try.results31, go_sem, f0, f1]) rfl ⟨_, rfl, F2.out, F3.out⟩
  · have h0' : isS m l = false := by simpa using h0
    have HA : Hid (powM m l k = (0, [], 1)) := Lib.hid (by unfold powM; rw [if_neg h0])
    rw [HA.out]
    have hc := HC.out
    rw [h0'] at hc
    have HC0 := Lib.hid hc
    clear hc HC h0
    go_enter Try.func31, Try.ntmps31
    go_wp2_with fail
    rw [HW.out]
    refine HC0.out.mono ?_
    rintro e w1 ⟨rfl, hb1⟩
    have hv := V3.out.keep hb1
    have q0 := hv.c0
    have q1 := hv.c1
    have q2 := hv.fz 0
    have q3 := hv.fz 1
    obtain ⟨f0, f1, f2, f3⟩ := fin_var (w := w) hv (OwnI.nil _ (w.heap.size + 1 + 1 + 1)) (by omega) (by omega) (below_step HB.out hb1) (.int .i64 0) (.slice none 0 0)
    have F2 := Lib.hid f2
    have F3 := Lib.hid f3
    clear f2 f3 hv
    go_wp2
    exact bodyPost_ret (v := .tuple #[.agg #[.int .i64 0, .slice none 0 0], .int .i64 1]) (by simp [results, Try.results31, go_sem, f0, f1]) rfl ⟨_, rfl, F2.out, F3.out⟩
end Go.Proofs.Yteicllnbphljnaa

/- Plain theory of laws: powers of a table, Horner's rule for tables, faults, inverses: no program in sight. -/
namespace Go.Proofs.Yteicllnbphljnaa
namespace Pl
open Ser (psum cv pw)

theorem mul2_congr {m : Int} {a a' b b' : Nat → Nat → Int} {d : Nat} (h : Eq m d a a') (k : Eq m d b b') : Eq m d (mul2 a b) (mul2 a' b') := by
  intro p q hpq
  refine Ser.psum_congr _ (fun i hi => Ser.psum_congr _ (fun j hj => Ser.mul_cong (h i j (by omega)) (k _ _ (by omega))))
theorem mul2_add (a a' b : Nat → Nat → Int) (p q : Nat) : mul2 (fun i j => a i j + a' i j) b p q = mul2 a b p q + mul2 a' b p q := by
  unfold mul2
  rw [← Ser.psum_add]
  refine Ser.psum_ext _ (fun i _ => ?_)
  rw [← Ser.psum_add]
  exact Ser.psum_ext _ (fun j _ => Int.add_mul _ _ _)
theorem mul2_smul (c : Int) (a b : Nat → Nat → Int) (p q : Nat) : mul2 (fun i j => c * a i j) b p q = c * mul2 a b p q := by
  unfold mul2
  rw [← Ser.psum_mul]
  refine Ser.psum_ext _ (fun i _ => ?_)
  rw [← Ser.psum_mul]
  exact Ser.psum_ext _ (fun j _ => Int.mul_assoc _ _ _)
theorem mul2_turn (a b : Nat → Nat → Int) (p q : Nat) : mul2 a b q p = mul2 (fun i j => a j i) (fun i j => b j i) p q := by
  unfold mul2
  exact Ser.psum_swap _ _ _
/-- a number alone -/
def one2 (c : Int) : Nat → Nat → Int := fun p q => if p = 0 ∧ q = 0 then c else 0
/-- the powers of a table, and their list of tables -/
def pw2 (F : Nat → Nat → Int) : Nat → Nat → Nat → Int
  | 0 => one2 1
  | k + 1 => mul2 (pw2 F k) F
def pwT (m : Int) (d : Nat) (F : Nat → Nat → Int) : Nat → List (List Int)
  | 0 => tab m d (one2 1)
  | k + 1 => tab m d (mul2 (pc (pwT m d F k)) F)
theorem pwT_tab (m : Int) (d : Nat) (F : Nat → Nat → Int) : ∀ k, pwT m d F k = tab m d (pw2 F k) := by
  intro k
  induction k with
  | zero => rfl
  | succ k ih =>
    show tab m d (mul2 (pc (pwT m d F k)) F) = tab m d (mul2 (pw2 F k) F)
    rw [ih]
    exact tab_congr (mul2_congr (pc_tab_eq _ _ _) (Eq.refl _ _ _))
theorem pwT_length (m : Int) (d : Nat) (F : Nat → Nat → Int) (k : Nat) : (pwT m d F k).length = d + 1 := by cases k <;> exact tab_length _ _ _
/-- symmetric up to the degree -/
def Sym (d : Nat) (F : Nat → Nat → Int) : Prop := ∀ i j, i + j ≤ d → F i j = F j i
theorem pw2_sym {d : Nat} {F : Nat → Nat → Int} (h : Sym d F) : ∀ k, Sym d (pw2 F k) := by
  intro k
  induction k with
  | zero =>
    intro i j _
    show one2 1 i j = one2 1 j i
    unfold one2
    by_cases c : i = 0 ∧ j = 0
    · rw [if_pos c, if_pos ⟨c.2, c.1⟩]
    · rw [if_neg c, if_neg (fun e => c ⟨e.2, e.1⟩)]
  | succ k ih =>
    intro i j hij
    show mul2 (pw2 F k) F i j = mul2 (pw2 F k) F j i
    rw [mul2_turn (pw2 F k) F i j]
    refine Ser.psum_ext _ (fun a ha => Ser.psum_ext _ (fun b hb => ?_))
    rw [ih a b (by omega), h (i - a) (j - b) (by omega)]
/-- Horner's table when the last k of a list's coefficients have been taken in -/
def horq (m : Int) (d : Nat) (l : List Int) (F : Nat → Nat → Int) : Nat → List (List Int)
  | 0 => tab m d fun _ _ => 0
  | k + 1 => tab m d fun p q => mul2 (pc (horq m d l F k)) F p q + (if p = 0 ∧ q = 0 then Ser.co l (l.length - 1 - k) else 0)
theorem horq_length (m : Int) (d : Nat) (l : List Int) (F : Nat → Nat → Int) (k : Nat) : (horq m d l F k).length = d + 1 := by
  cases k <;> exact tab_length _ _ _
theorem horq_ok {m : Int} {d : Nat} (m1 : 2 ≤ m) (m2 : m ≤ 10000) (d1 : 1 ≤ d) (d2 : d ≤ 10) (l : List Int) (F : Nat → Nat → Int) (k : Nat) : Ok m d (horq m d l F k) := by
  cases k <;> (unfold horq; exact Ok.of_tab m1 m2 d1 d2 _)
theorem horq_step {m : Int} {d : Nat} (l : List Int) (F : Nat → Nat → Int) (k : Nat) :
    (tab m d (mul2 (pc (horq m d l F k)) F)).set 0 ((rw' (tab m d (mul2 (pc (horq m d l F k)) F)) 0).set 0 ((pc (tab m d (mul2 (pc (horq m d l F k)) F)) 0 0 + Ser.co l (l.length - 1 - k)) % m)) = horq m d l F (k + 1) := by
  rw [pc_tab (Nat.zero_le _)]
  refine tab_put (Nat.zero_le _) ?_ (fun p q _ hne => ?_)
  · rw [if_pos ⟨rfl, rfl⟩, Int.emod_add_emod]
  · rw [if_neg hne, Int.add_zero]
theorem mul2_psum (g : Nat → Nat → Nat → Int) (F : Nat → Nat → Int) (p q : Nat) : ∀ n, mul2 (fun i j => psum (fun k => g k i j) n) F p q = psum (fun k => mul2 (g k) F p q) n := by
  intro n
  induction n with
  | zero =>
    have : (fun i j : Nat => psum (fun k => g k i j) 0) = fun i j => 0 * F i j := by funext i j; rw [Int.zero_mul]; rfl
    rw [this, mul2_smul, Int.zero_mul]; rfl
  | succ n ih =>
    have : (fun i j => psum (fun k => g k i j) (n + 1)) = fun i j => psum (fun k => g k i j) n + g n i j := rfl
    rw [this, mul2_add, ih, psum]
theorem horq_pw {m : Int} {d : Nat} (l : List Int) (F : Nat → Nat → Int) : ∀ k, k ≤ l.length → Eq m d (pc (horq m d l F k)) (fun p q => psum (fun i => Ser.co l (l.length - k + i) * pw2 F i p q) k) := by
  intro k
  induction k with
  | zero => intro _ p q h; rw [show horq m d l F 0 = tab m d fun _ _ => 0 from rfl, pc_tab h, Int.emod_emod]; rfl
  | succ k ih =>
    intro hk p q h
    rw [show horq m d l F (k + 1) = tab m d fun p q => mul2 (pc (horq m d l F k)) F p q + (if p = 0 ∧ q = 0 then Ser.co l (l.length - 1 - k) else 0) from rfl, pc_tab h, Int.emod_emod]
    dsimp only
    rw [Ser.psum_left, Int.add_comm (Ser.co l _ * _)]
    refine Ser.add_cong ?_ ?_
    · rw [mul2_congr (ih (by omega)) (Eq.refl _ _ _) p q h, mul2_psum]
      congr 1
      refine Ser.psum_ext _ (fun i hi => ?_)
      rw [mul2_smul, show l.length - k + i = l.length - (k + 1) + (i + 1) by omega]; rfl
    · rw [show l.length - 1 - k = l.length - (k + 1) + 0 by omega]
      show _ = (_ * one2 1 p q) % m
      unfold one2
      split <;> simp
/-- the coefficient at x^a y^b z^c of F(F(x, y), z) -/
def brS (m : Int) (d : Nat) (F : Nat → Nat → Int) (a b c : Nat) : Int := psum (fun i => F i c * pc (pwT m d F i) a b) (d + 1 - c)
def br (m : Int) (d : Nat) (F : Nat → Nat → Int) (a b c : Nat) : Int := brS m d F a b c % m
theorem horq_br {m : Int} {d : Nat} (l : List Int) (F : Nat → Nat → Int) (c : Nat) (hl : l.length = d + 1 - c) (h : ∀ i, i < l.length → Ser.co l i = F i c) (a b : Nat) (hab : a + b ≤ d) : pc (horq m d l F l.length) a b = br m d F a b c := by
  have hr : pc (horq m d l F l.length) a b = pc (horq m d l F l.length) a b % m := by
    have e : ∀ k, ∃ g, horq m d l F k = tab m d g := fun k => by cases k <;> exact ⟨_, rfl⟩
    obtain ⟨g, hg⟩ := e l.length
    rw [hg, pc_tab hab, Int.emod_emod]
  rw [hr, horq_pw l F l.length (Nat.le_refl _) a b hab]
  unfold br brS
  rw [hl]
  refine Ser.psum_congr _ (fun i hi => ?_)
  rw [Nat.sub_self, Nat.zero_add, h i (by omega), pwT_tab]
  exact Ser.mul_cong rfl (by rw [pc_tab hab, Int.emod_emod])
theorem horq_br' {m : Int} {d : Nat} (l : List Int) {F : Nat → Nat → Int} (hs : Sym d F) (c : Nat) (hl : l.length = d + 1 - c) (h : ∀ i, i < l.length → Ser.co l i = F c i) (a b : Nat) (hab : a + b ≤ d) : pc (horq m d l F l.length) b a = br m d F a b c := by
  rw [horq_br l F c hl (fun i hi => by rw [h i hi, hs c i (by omega)]) b a (by omega)]
  unfold br brS
  refine Ser.psum_congr _ (fun i hi => ?_)
  rw [pwT_tab, pc_tab (by omega), pc_tab hab, pw2_sym hs i b a (by omega)]

/-! the first of something -/
def srch (p : Nat → Option (List Int)) : Nat → Nat → Option (List Int)
  | 0, _ => none
  | n + 1, k => match p k with
    | some x => some x
    | none => srch p n (k + 1)
def orE (a b : Option (List Int)) : Option (List Int) := match a with
  | some x => some x
  | none => b
theorem srch_hit {p : Nat → Option (List Int)} {k : Nat} {x : List Int} (n : Nat) (h : p k = some x) : srch p (n + 1) k = some x := by rw [srch, h]
theorem srch_miss {p : Nat → Option (List Int)} {k : Nat} (n : Nat) (h : p k = none) : srch p (n + 1) k = srch p n (k + 1) := by rw [srch, h]
theorem srch_step (p : Nat → Option (List Int)) (n k : Nat) : srch p (n + 1) k = orE (p k) (srch p n (k + 1)) := by rw [srch]; unfold orE; split <;> simp_all
theorem orE_none (b : Option (List Int)) : orE none b = b := rfl
theorem orE_some (x : List Int) (b : Option (List Int)) : orE (some x) b = some x := rfl
theorem srch_none {p : Nat → Option (List Int)} : ∀ n k, srch p n k = none → ∀ i, k ≤ i → i < k + n → p i = none := by
  intro n
  induction n with
  | zero => intro k _ i h1 h2; omega
  | succ n ih =>
    intro k h i h1 h2
    rw [srch_step] at h
    cases hp : p k with
    | some x => rw [hp] at h; exact absurd h (by simp [orE])
    | none =>
      rw [hp] at h
      by_cases hi : i = k
      · rw [hi]; exact hp
      · exact ih (k + 1) h i (by omega) (by omega)
def want (i : Nat) : Int := if i = 1 then 1 else 0
def fau0 (F : Nat → Nat → Int) (i : Nat) : Option (List Int) := if F i 0 = want i then none else some [0, (i : Int)]
def fau1j (F : Nat → Nat → Int) (i j : Nat) : Option (List Int) := if F i j = F j i then none else some [1, (i : Int), (j : Int)]
def fau1 (d : Nat) (F : Nat → Nat → Int) (i : Nat) : Option (List Int) := srch (fau1j F i) (d - i - i) (i + 1)
def fau2c (m : Int) (d : Nat) (F : Nat → Nat → Int) (a b c : Nat) : Option (List Int) := if br m d F a b c = br m d F c b a then none else some [2, (a : Int), (b : Int), (c : Int)]
def fau2b (m : Int) (d : Nat) (F : Nat → Nat → Int) (a b : Nat) : Option (List Int) := srch (fau2c m d F a b) (d + 1 - (a + b)) 0
def fau2 (m : Int) (d : Nat) (F : Nat → Nat → Int) (a : Nat) : Option (List Int) := srch (fau2b m d F a) (d + 1 - a) 0
def fauP (d : Nat) (F : Nat → Nat → Int) : Option (List Int) := srch (fau0 F) (d + 1) 0
def fauS (d : Nat) (F : Nat → Nat → Int) : Option (List Int) := srch (fau1 d F) (d + 1) 0
def fauT (m : Int) (d : Nat) (F : Nat → Nat → Int) : Option (List Int) := srch (fau2 m d F) (d + 1) 0
def fau (m : Int) (d : Nat) (F : Nat → Nat → Int) : Option (List Int) := orE (fauP d F) (orE (fauS d F) (fauT m d F))
theorem fauP_none {d : Nat} {F : Nat → Nat → Int} (h : fauP d F = none) (i : Nat) (hi : i ≤ d) : F i 0 = want i := by
  have := srch_none _ _ h i (Nat.zero_le _) (by omega)
  unfold fau0 at this
  by_cases c : F i 0 = want i
  · exact c
  · rw [if_neg c] at this; exact absurd this (by simp)
theorem fauS_none {d : Nat} {F : Nat → Nat → Int} (h : fauS d F = none) : Sym d F := by
  have key : ∀ i j, i < j → i + j ≤ d → F i j = F j i := by
    intro i j h1 h2
    have := srch_none _ _ (srch_none _ _ h i (Nat.zero_le _) (by omega)) j (by omega) (by omega)
    unfold fau1j at this
    by_cases c : F i j = F j i
    · exact c
    · rw [if_neg c] at this; exact absurd this (by simp)
  intro i j hij
  by_cases h1 : i < j
  · exact key i j h1 hij
  · by_cases h2 : j < i
    · exact (key j i h2 (by omega)).symm
    · rw [show i = j by omega]

/-! the inverse of a law -/
/-- the first variable's terms are t alone, the second's too -/
structure Norm (d : Nat) (F : Nat → Nat → Int) : Prop where
  x : ∀ i, i ≤ d → F i 0 = want i
  y : ∀ j, j ≤ d → F 0 j = want j
  over : ∀ i j, d < i + j → F i j = 0
theorem norm_of {d : Nat} {F : Nat → Nat → Int} (h : fauP d F = none) (h' : fauS d F = none) (ho : ∀ i j, d < i + j → F i j = 0) : Norm d F :=
  ⟨fauP_none h, fun j hj => by rw [fauS_none h' 0 j (by omega)]; exact fauP_none h j hj, ho⟩
/-- products and powers up to n ask for coefficients up to n -/
theorem pw_less {m : Int} {n : Nat} {g g' : Nat → Int} (h : ∀ i, i < n → g i % m = g' i % m) (k i : Nat) (hi : i < n) : pw g k i % m = pw g' k i % m :=
  Ser.pw_congr (m := m) (n := n - 1) (fun j hj => h j (by omega)) k i (by omega)
/-- what one coefficient more does to a sum of curves under a law -/
theorem put_last {m : Int} {d : Nat} {F : Nat → Nat → Int} (hF : Norm d F) {a g g' : Nat → Int} (ha : a 0 = 0) (hg : g 0 = 0) (hg' : g' 0 = 0) {n : Nat} (hn : 1 ≤ n) (hnd : n ≤ d) (h : ∀ i, i < n → g i % m = g' i % m) :
    (putF F a g (d + 1) n - putF F a g' (d + 1) n) % m = (g n - g' n) % m := by
  have e : ∀ u : Nat → Int, u 0 = 0 → putF F a u (d + 1) n = psum (fun j => F 0 j * pw u j n) (d + 1) + psum (fun i => psum (fun j => F (i + 1) j * cv n (pw a (i + 1)) (pw u j)) (d + 1)) d := by
    intro u _
    unfold putF
    rw [Ser.psum_left]
    congr 1
    refine Ser.psum_ext _ (fun j _ => ?_)
    rw [show pw a 0 = Ser.mon 0 1 from rfl, Ser.cv_const, Int.one_mul]
  have e0 : ∀ u : Nat → Int, psum (fun j => F 0 j * pw u j n) (d + 1) = u n := by
    intro u
    rw [Ser.psum_ext (g := fun j => u n * Ser.mon j 1 1) (d + 1) (fun j hj => by
      rw [hF.y j (by omega)]
      unfold want Ser.mon
      by_cases c : j = 1
      · rw [if_pos c, if_pos c.symm, c, Int.one_mul, Int.mul_one]
        show Ser.cv n (Ser.mon 0 1) u = u n
        rw [Ser.cv_const, Int.one_mul]
      · rw [if_neg c, if_neg (fun h => c h.symm), Int.zero_mul, Int.mul_zero])]
    rw [Ser.psum_mon (fun _ => u n) 1 (d + 1), if_pos (by omega)]
  rw [e g hg, e g' hg', e0, e0]
  have hz : ∀ (i : Nat), pw a (i + 1) 0 = 0 := fun i => Ser.pw_low ha (i + 1) 0 (by omega)
  have hc : psum (fun i => psum (fun j => F (i + 1) j * cv n (pw a (i + 1)) (pw g j)) (d + 1)) d % m = psum (fun i => psum (fun j => F (i + 1) j * cv n (pw a (i + 1)) (pw g' j)) (d + 1)) d % m :=
    Ser.psum_congr _ (fun i _ => Ser.psum_congr _ (fun j _ => Ser.mul_cong rfl (Ser.cv_congr_curve (by rw [hz, Int.zero_emod]) (by rw [hz, Int.zero_emod]) (Ser.Eq.refl _ _ _) (fun k hk => pw_less h j k hk))))
  have := Ser.sub_cong (m := m) (x := g n + _) (y := g n + _) (Ser.add_cong rfl hc) (rfl : (g' n + psum (fun i => psum (fun j => F (i + 1) j * cv n (pw a (i + 1)) (pw g' j)) (d + 1)) d) % m = _)
  rw [this]
  congr 1
  omega
theorem put_congr {m : Int} {F : Nat → Nat → Int} {a a' g g' : Nat → Int} {N n : Nat} (h : Ser.Eq m n a a') (h' : Ser.Eq m n g g') : putF F a g N n % m = putF F a' g' N n % m :=
  Ser.psum_congr _ (fun i _ => Ser.psum_congr _ (fun j _ => Ser.mul_cong rfl (Ser.cv_congr n (Ser.pw_congr h i) (Ser.pw_congr h' j))))
theorem put_zero {d : Nat} {F : Nat → Nat → Int} (hF : Norm d F) {a g : Nat → Int} (ha : a 0 = 0) (hg : g 0 = 0) : putF F a g (d + 1) 0 = 0 := by
  unfold putF
  refine Ser.psum_low _ _ (fun i hi => Ser.psum_low _ _ (fun j hj => ?_))
  rw [Ser.cv_zero]
  by_cases c : i = 0 ∧ j = 0
  · rw [c.1, c.2, hF.x 0 (Nat.zero_le _)]; simp [want]
  · by_cases c1 : i = 0
    · rw [Ser.pw_low hg j 0 (by omega)]; simp
    · rw [Ser.pw_low ha i 0 (by omega)]; simp
/-- the line t -/
def lin (m : Int) (d : Nat) (c : Int) : List Int := Ser.cut m d (Ser.mon 1 c)
/-- the model's inverse after n numbers -/
def invS (m : Int) (d : Nat) (F : Nat → Nat → Int) : Nat → List Int
  | 0 => List.replicate (d + 1) 0
  | n + 1 => (invS m d F n).set (n + 1) ((m - Ser.co (putL m d F (lin m d 1) (invS m d F n)) (n + 1)) % m)
/-- the program's -/
def invP (m : Int) (d : Nat) (F : Nat → Nat → Int) : Nat → List Int
  | 0 => lin m d 0
  | n + 1 => Ser.cut m d fun i => Ser.co (invP m d F n) i + Ser.co (Ser.cut m d fun j => Ser.co (putL m d F (lin m d 1) (invP m d F n)) j * -1) i
theorem invS_length (m : Int) (d : Nat) (F : Nat → Nat → Int) (n : Nat) : (invS m d F n).length = d + 1 := by
  induction n with
  | zero => simp [invS]
  | succ n ih => rw [invS, List.length_set, ih]
theorem invP_length (m : Int) (d : Nat) (F : Nat → Nat → Int) (n : Nat) : (invP m d F n).length = d + 1 := by cases n <;> exact Ser.cut_length _ _ _
theorem invS_red {m : Int} (hm : 0 < m) (d : Nat) (F : Nat → Nat → Int) (n : Nat) : Ser.Red m (invS m d F n) := by
  induction n with
  | zero => intro i; rw [invS, Ser.co_zeros]; omega
  | succ n ih =>
    intro i
    rw [invS]
    by_cases c : n + 1 < d + 1
    · rw [Ser.co_set (by rw [invS_length]; exact c)]
      split
      · exact ⟨Int.emod_nonneg _ (by omega), Int.emod_lt_of_pos _ hm⟩
      · exact ih i
    · rw [List.set_eq_of_length_le (by rw [invS_length]; omega)]; exact ih i
theorem invP_red {m : Int} (hm : 0 < m) (d : Nat) (F : Nat → Nat → Int) (n : Nat) : Ser.Red m (invP m d F n) := by cases n <;> exact Ser.cut_red hm _ _
theorem invS_co (m : Int) (d : Nat) (F : Nat → Nat → Int) (n i : Nat) (hn : n < d) : Ser.co (invS m d F (n + 1)) i = if i = n + 1 then (m - Ser.co (putL m d F (lin m d 1) (invS m d F n)) (n + 1)) % m else Ser.co (invS m d F n) i := by
  rw [invS, Ser.co_set (by rw [invS_length]; omega)]
theorem invS_curve (m : Int) (d : Nat) (F : Nat → Nat → Int) : ∀ n, n ≤ d → Ser.co (invS m d F n) 0 = 0 := by
  intro n
  induction n with
  | zero => intro _; rw [invS, Ser.co_zeros]
  | succ n ih => intro hn; rw [invS_co _ _ _ _ _ (by omega), if_neg (by omega), ih (by omega)]
theorem invS_over (m : Int) (d : Nat) (F : Nat → Nat → Int) : ∀ n i, n ≤ d → n < i → Ser.co (invS m d F n) i = 0 := by
  intro n
  induction n with
  | zero => intro i _ _; rw [invS, Ser.co_zeros]
  | succ n ih => intro i hn hi; rw [invS_co _ _ _ _ _ (by omega), if_neg (by omega), ih i (by omega) (by omega)]
theorem invS_pre (m : Int) (d : Nat) (F : Nat → Nat → Int) (n k i : Nat) (h : i ≤ n) (hk : n + k ≤ d) : Ser.co (invS m d F (n + k)) i = Ser.co (invS m d F n) i := by
  induction k with
  | zero => rfl
  | succ k ih => rw [← Nat.add_assoc, invS_co _ _ _ _ _ (by omega), if_neg (by omega), ih (by omega)]
theorem lin_curve (m : Int) (d : Nat) (c : Int) : Ser.co (lin m d c) 0 = 0 := by
  unfold lin; rw [Ser.co_cut (Nat.zero_le _)]; simp [Ser.mon]
theorem put_cut {m : Int} {d : Nat} {F : Nat → Nat → Int} {a b : List Int} {n : Nat} (h : n ≤ d) : Ser.co (putL m d F a b) n = putF F (Ser.co a) (Ser.co b) (d + 1) n % m := Ser.co_cut h
/-- the model's inverse is one -/
theorem invS_inv {m : Int} {d : Nat} {F : Nat → Nat → Int} (hF : Norm d F) : ∀ n, n ≤ d → ∀ i, i ≤ n → putF F (Ser.co (lin m d 1)) (Ser.co (invS m d F n)) (d + 1) i % m = 0 := by
  intro n
  induction n with
  | zero =>
    intro _ i hi
    obtain rfl : i = 0 := by omega
    rw [put_zero hF (lin_curve m d 1) (invS_curve m d F 0 (Nat.zero_le _)), Int.zero_emod]
  | succ n ih =>
    intro hn i hi
    by_cases c : i ≤ n
    · rw [put_congr (Ser.Eq.refl m i _) (Ser.Eq.of m i (fun j hj => invS_pre m d F n 1 j (by omega) (by omega)))]
      exact ih (by omega) i c
    · obtain rfl : i = n + 1 := by omega
      have := put_last (m := m) hF (a := Ser.co (lin m d 1)) (lin_curve m d 1) (invS_curve m d F (n + 1) hn) (invS_curve m d F n (by omega)) (n := n + 1) (by omega) hn (fun j hj => by rw [invS_pre m d F n 1 j (by omega) (by omega)])
      rw [invS_co m d F n (n + 1) (by omega), if_pos rfl, invS_over m d F n (n + 1) (by omega) (by omega), put_cut hn] at this
      revert this
      generalize putF F (Ser.co (lin m d 1)) (Ser.co (invS m d F (n + 1))) (d + 1) (n + 1) = X
      generalize putF F (Ser.co (lin m d 1)) (Ser.co (invS m d F n)) (d + 1) (n + 1) = Y
      intro h
      rw [Int.sub_zero, Int.emod_emod] at h
      have h2 := Ser.add_cong (m := m) h (rfl : Y % m = Y % m)
      rw [Int.sub_add_cancel] at h2
      rw [h2]
      have h3 : (m - Y % m + Y) % m = (m - Y + Y) % m := Ser.add_cong (Ser.sub_cong rfl (Int.emod_emod _ _)) rfl
      rw [h3, Int.sub_add_cancel, Int.emod_self]
theorem invP_co {m : Int} {d : Nat} {F : Nat → Nat → Int} (n i : Nat) (hi : i ≤ d) : Ser.co (invP m d F (n + 1)) i % m = (Ser.co (invP m d F n) i - putF F (Ser.co (lin m d 1)) (Ser.co (invP m d F n)) (d + 1) i) % m := by
  rw [invP, Ser.co_cut hi, Ser.co_cut hi, Int.emod_emod, Int.sub_eq_add_neg]
  refine Ser.add_cong rfl ?_
  rw [Int.emod_emod, put_cut hi, Int.mul_neg, Int.mul_one, show -(putF F (Ser.co (lin m d 1)) (Ser.co (invP m d F n)) (d + 1) i % m) = 0 - putF F (Ser.co (lin m d 1)) (Ser.co (invP m d F n)) (d + 1) i % m by omega, show -putF F (Ser.co (lin m d 1)) (Ser.co (invP m d F n)) (d + 1) i = 0 - putF F (Ser.co (lin m d 1)) (Ser.co (invP m d F n)) (d + 1) i by omega]
  exact Ser.sub_cong rfl (Int.emod_emod _ _)
theorem invP_curve {m : Int} (hm : 0 < m) {d : Nat} {F : Nat → Nat → Int} (hF : Norm d F) : ∀ n, Ser.co (invP m d F n) 0 = 0 := by
  intro n
  induction n with
  | zero => exact lin_curve m d 0
  | succ n ih =>
    have h := invP_co (m := m) (F := F) n 0 (Nat.zero_le d)
    rw [put_zero hF (lin_curve m d 1) ih, ih] at h
    have hr := invP_red hm d F (n + 1) 0
    rw [Int.emod_eq_of_lt hr.1 hr.2] at h
    simpa using h
theorem invP_agrees {m : Int} (hm : 0 < m) {d : Nat} {F : Nat → Nat → Int} (hF : Norm d F) : ∀ n, n ≤ d → ∀ i, i ≤ n → Ser.co (invP m d F n) i % m = Ser.co (invS m d F d) i % m := by
  intro n
  induction n with
  | zero =>
    intro _ i hi
    obtain rfl : i = 0 := by omega
    rw [invP_curve hm hF, invS_curve m d F d (Nat.le_refl _)]
  | succ n ih =>
    intro hn i hi
    rw [invP_co n i (by omega)]
    have hz := invS_inv (m := m) hF d (Nat.le_refl _) i (by omega)
    by_cases c : i ≤ n
    · have := put_congr (F := F) (N := d + 1) (Ser.Eq.refl m i (Ser.co (lin m d 1))) (fun j hj => ih (by omega) j (by omega) : Ser.Eq m i (Ser.co (invP m d F n)) (Ser.co (invS m d F d)))
      rw [hz] at this
      rw [Ser.sub_cong (ih (by omega) i c) (this.trans (Int.zero_emod m).symm), Int.sub_zero]
    · obtain rfl : i = n + 1 := by omega
      have := put_last (m := m) hF (a := Ser.co (lin m d 1)) (lin_curve m d 1) (invP_curve hm hF n) (invS_curve m d F d (Nat.le_refl _)) (n := n + 1) (by omega) hn (fun j hj => ih (by omega) j (by omega))
      revert this hz
      generalize putF F (Ser.co (lin m d 1)) (Ser.co (invP m d F n)) (d + 1) (n + 1) = X
      generalize putF F (Ser.co (lin m d 1)) (Ser.co (invS m d F d)) (d + 1) (n + 1) = Y
      intro hz h
      have h1 : X % m = (Ser.co (invP m d F n) (n + 1) - Ser.co (invS m d F d) (n + 1)) % m := by
        rw [← h]
        have := Ser.sub_cong (m := m) (rfl : X % m = X % m) (hz.trans (Int.zero_emod m).symm)
        rw [this, Int.sub_zero]
      rw [Ser.sub_cong rfl h1]
      congr 1
      omega
theorem inv_same {m : Int} (hm : 0 < m) {d : Nat} {F : Nat → Nat → Int} (hF : Norm d F) : invP m d F d = invS m d F d :=
  Ser.red_unique (invP_length m d F d) (invS_length m d F d) (invP_red hm d F d) (invS_red hm d F d) (fun i hi => invP_agrees hm hF d (Nat.le_refl _) i hi)
end Pl
end Go.Proofs.Yteicllnbphljnaa

/- Contracts of the program's look for faults of one variable and of symmetry. -/
namespace Go.Proofs.Yteicllnbphljnaa
open Go.RowKit Go.WideShapes Go.ChangeShapes Go.ChangeAt

theorem OwnI.lit2 (w : World) (x y : Int) : OwnI (w.alloc (.cells #[.int .i64 x, .int .i64 y] 2)) w.heap.size (.slice (some ⟨w.heap.size, 0, none⟩) 2 2) [x, y] :=
  ⟨rfl, .inr ⟨w.heap.size, 2, #[.int .i64 x, .int .i64 y], rfl, Nat.le_refl _, heap_alloc_new w _, Nat.le_refl _, by unfold maxLen; omega, rfl, rfl⟩⟩
theorem OwnI.lit3 (w : World) (x y z : Int) : OwnI (w.alloc (.cells #[.int .i64 x, .int .i64 y, .int .i64 z] 2)) w.heap.size (.slice (some ⟨w.heap.size, 0, none⟩) 3 3) [x, y, z] :=
  ⟨rfl, .inr ⟨w.heap.size, 3, #[.int .i64 x, .int .i64 y, .int .i64 z], rfl, Nat.le_refl _, heap_alloc_new w _, Nat.le_refl _, by unfold maxLen; omega, rfl, rfl⟩⟩
theorem OwnI.lit4 (w : World) (x y z u : Int) : OwnI (w.alloc (.cells #[.int .i64 x, .int .i64 y, .int .i64 z, .int .i64 u] 2)) w.heap.size (.slice (some ⟨w.heap.size, 0, none⟩) 4 4) [x, y, z, u] :=
  ⟨rfl, .inr ⟨w.heap.size, 4, #[.int .i64 x, .int .i64 y, .int .i64 z, .int .i64 u], rfl, Nat.le_refl _, heap_alloc_new w _, Nat.le_refl _, by unfold maxLen; omega, rfl, rfl⟩⟩
/-- a fault's list, or no list -/
def FauV (w : World) (base : Nat) (v : Value) : Option (List Int) → Prop
  | none => v = .slice none 0 0
  | some x => ∃ b c, v = .slice (some b) x.length c ∧ OwnI w base (.slice (some b) x.length c) x
namespace Pl
theorem fau0_go {F : Nat → Nat → Int} {d k : Nat} {o : Option (List Int)} (hk : k < d + 1) (h : srch (fau0 F) (d + 1 - k) k = o) (hx : F k 0 = want k) : srch (fau0 F) (d + 1 - (k + 1)) (k + 1) = o := by
  rw [show d + 1 - k = (d + 1 - (k + 1)) + 1 by omega, srch_step] at h
  unfold fau0 at h
  rw [if_pos hx, orE_none] at h
  exact h
theorem fau0_no {F : Nat → Nat → Int} {d k : Nat} {o : Option (List Int)} (hk : k < d + 1) (h : srch (fau0 F) (d + 1 - k) k = o) (hx : ¬ F k 0 = want k) : o = some [0, (k : Int)] := by
  rw [show d + 1 - k = (d + 1 - (k + 1)) + 1 by omega, srch_step] at h
  unfold fau0 at h
  rw [if_neg hx, orE_some] at h
  exact h.symm
end Pl
set_option maxHeartbeats 4000000 in
set_option maxRecDepth 100000 in
theorem wrongPower_any (m : Int) (d : Nat) (A : Option Addr) (c : Nat) (t : List (List Int)) (w : World) (hs : Pl.Ok m d t) (hr : RP w A t) :
    Calls Try.prog 137 #[.agg #[.int .i64 m, .int .i64 d, .slice A t.length c]] w fun e w' => ∃ v, e = .returned v ∧ FauV w' w.heap.size v (Pl.fauP d (Pl.pc t)) ∧ Below w.heap.size w w' := by
  have HG1 := Lib.hid (GBox.new 74 w m d A t.length c)
  have HWB := Lib.hid (below_one w (.cells #[.int .i64 m, .int .i64 d, .slice A t.length c] 74))
  obtain ⟨W, hW⟩ : ∃ W, w.alloc (.cells #[.int .i64 m, .int .i64 d, .slice A t.length c] 74) = W := ⟨_, rfl⟩
  rw [hW] at HG1 HWB
  have HW := Lib.hid hW
  have HB := HWB
  obtain ⟨b, off, rfl, hbb, hrow⟩ := hr (by intro e; have := hs.len; rw [e] at this; simp at this)
  have HROW := Lib.hid hrow
  have HS := Lib.hid hs
  have hd2 := hs.d2
  have hl := hs.len
  obtain ⟨o, ho⟩ : ∃ o, Pl.fauP d (Pl.pc t) = o := ⟨_, rfl⟩
  have HO := Lib.hid (show Pl.srch (Pl.fau0 (Pl.pc t)) (d + 1 - 0) 0 = o from ho)
  rw [ho]
  obtain ⟨L, hL⟩ : ∃ L, t.length = L := ⟨_, rfl⟩
  rw [hL] at HW HG1 hl HROW ⊢
  have HLd := Lib.hid hl
  have hLb : L ≤ 11 := by omega
  obtain ⟨x1, x2, x3, x4⟩ := HG1.out
  clear hW hr hs hL hrow hl ho HG1
  go_enter Try.func137, Try.ntmps137
  go_wp2
  rw [HW.out]
  go_wp2
  clear x1 x2 x3 x4
  go_loopw [3, 4, 5, 9] (fun _ _ _ q wr => ∃ k : Nat, k ≤ L ∧ q = .int .i64 k ∧ Pl.srch (Pl.fau0 (Pl.pc t)) (d + 1 - k) k = o ∧ Below W.heap.size W wr) (fun _ _ _ q _ => L - (intOf q).toNat)
  case atStart => exact ⟨0, Nat.zero_le _, rfl, HO.out, Below.refl _ _⟩
  case round =>
    clear HO
    obtain ⟨k, hk, rfl, hso, hbel⟩ := hrel
    have HBE := Lib.hid hbel
    have hLd := HLd.out
    by_cases hlt : k < L
    · obtain ⟨Ak, ck, h1, h2, h3⟩ := HROW.out k hlt
      have h1 := ((below_step HB.out HBE.out).cell (p := ⟨b, off + k, none⟩) hbb).trans h1
      have hrl := HS.out.row k (by omega)
      obtain ⟨b', off', rfl, hb', hc'⟩ := h3.at 0 (by rw [hrl]; omega)
      have hc' := ((below_step HB.out HBE.out).cell (p := ⟨b', off' + 0, none⟩) hb').trans hc'
      rw [Nat.add_zero] at hc'
      have hgo := fun h => Pl.fau0_go (F := Pl.pc t) (d := d) (k := k) (by omega) hso h
      have hno := fun h => Pl.fau0_no (F := Pl.pc t) (d := d) (k := k) (by omega) hso h
      rw [show Ser.co (Pl.rw' t k) 0 = Pl.pc t k 0 from rfl] at hc'
      obtain ⟨X, hX⟩ : ∃ X, Pl.pc t k 0 = X := ⟨_, rfl⟩
      rw [hX] at hc' hgo hno
      obtain ⟨N, hN⟩ : ∃ N, (Pl.rw' t k).length = N := ⟨_, rfl⟩
      rw [hN] at h1 h2 hrl
      have j0 : (0 : Int) ≤ (k : Int) := by omega
      have j1 : (k : Int) < (L : Int) := by omega
      have j2 : (0 : Int) < (N : Int) := by omega
      have j3 : (0 : Nat) < N := by omega
      clear hbel hso hX hN hrl h2 h3 hb' hLd
      by_cases hk1 : k = 1
      · have e1 : ((k : Int) == 1) = true := by simp [hk1]
        rw [show Pl.want k = 1 by rw [hk1]; rfl] at hgo hno
        clear hk1
        by_cases hx1 : X = 1
        · have HNX := Lib.hid (hgo hx1)
          clear hgo hno
          subst hx1
          go_wp2
          go_roundw
          case rel => exact ⟨k + 1, by omega, by go_num, HNX.out, HBE.out⟩
          case measure => simp only [intOf]; omega
        · have HNX := Lib.hid (hno hx1)
          obtain ⟨n3, n4⟩ : (X == 1) = false ∧ (X != 1) = true := ⟨by simpa using hx1, by simpa using hx1⟩
          clear hgo hno
          go_wp2
          go_ret
          exact ⟨_, rfl, by rw [HNX.out]; exact ⟨_, _, rfl, (OwnI.lit2 wr 0 (k : Int)).more (below_step HB.out HBE.out).size⟩, below_step HB.out (below_alloc _ HBE.out)⟩
      · have hk9 : ¬ (k : Int) = 1 := by omega
        obtain ⟨e1, e2⟩ : ((k : Int) == 1) = false ∧ ((k : Int) != 1) = true := ⟨by simpa using hk9, by simpa using hk9⟩
        rw [show Pl.want k = 0 by unfold Pl.want; rw [if_neg hk1]] at hgo hno
        by_cases hx1 : X = 0
        · have HNX := Lib.hid (hgo hx1)
          clear hgo hno
          subst hx1
          go_wp2
          go_roundw
          case rel => exact ⟨k + 1, by omega, by go_num, HNX.out, HBE.out⟩
          case measure => simp only [intOf]; omega
        · have HNX := Lib.hid (hno hx1)
          obtain ⟨n3, n4⟩ : (X == 0) = false ∧ (X != 0) = true := ⟨by simpa using hx1, by simpa using hx1⟩
          clear hgo hno
          go_wp2
          go_ret
          exact ⟨_, rfl, by rw [HNX.out]; exact ⟨_, _, rfl, (OwnI.lit2 wr 0 (k : Int)).more (below_step HB.out HBE.out).size⟩, below_step HB.out (below_alloc _ HBE.out)⟩
    · obtain rfl : k = L := by omega
      rw [hLd, Nat.sub_self] at hso
      have HNO := Lib.hid (show o = none from hso.symm)
      clear hbel hso hLd
      go_wp2
      go_ret
      exact ⟨_, rfl, by rw [HNO.out]; exact rfl, below_step HB.out HBE.out⟩
end Go.Proofs.Yteicllnbphljnaa

/- Lists of tables of a call's own: slices of slices of slices, and slices of grids; appending to them and reading them. -/
namespace Go.Proofs.Yteicllnbphljnaa
open Go.RowKit Go.WideShapes Go.ChangeShapes Go.ChangeAt

theorem flat_len (pre : List Value) : ∀ us : List Value, (us.flatMap fun u => pre ++ [u]).length = us.length * (pre.length + 1) := by
  intro us
  induction us with
  | nil => simp
  | cons x xs ih => rw [List.flatMap_cons, List.length_append, ih, List.length_cons, Nat.succ_mul]; simp; omega
theorem flat_get (pre : List Value) : ∀ (us : List Value) (i j : Nat) (u : Value), us[i]? = some u → j ≤ pre.length → (us.flatMap fun u => pre ++ [u])[i * (pre.length + 1) + j]? = (pre ++ [u])[j]? := by
  intro us
  induction us with
  | nil => intro i j u h; simp at h
  | cons x xs ih =>
    intro i j u h hj
    rw [List.flatMap_cons]
    rcases i with _ | i
    · simp at h
      subst h
      rw [Nat.zero_mul, Nat.zero_add, List.getElem?_append_left (by simp; omega)]
    · have h' : xs[i]? = some u := by simpa using h
      rw [Nat.succ_mul, List.getElem?_append_right (by simp; omega)]
      have e : i * (pre.length + 1) + (pre.length + 1) + j - (pre ++ [x]).length = i * (pre.length + 1) + j := by simp; omega
      rw [e]
      exact ih i j u h' hj
/-- v is a slice of the call's own, from block lo on, of elements of type e: the cells pre, then a table of the call's own -/
def OwnT (pre : List Value) (e : TypeId) (w : World) (lo : Nat) (v : Value) (ts : List (List (List Int))) : Prop :=
  ∃ us : List Value, us.length = ts.length ∧ w.ownsRow lo e (pre.length + 1) v ts.length (us.flatMap fun u => pre ++ [u]) ∧
    ∀ (i : Nat) (t : List (List Int)), ts[i]? = some t → ∃ u : Value, us[i]? = some u ∧ ∃ hi, hi ≤ w.heap.size ∧ OwnR w lo hi u t
theorem OwnT.keep {pre : List Value} {e : TypeId} {w w' : World} {lo : Nat} {v : Value} {ts : List (List (List Int))} (h : OwnT pre e w lo v ts) (hb : Below w.heap.size w w') : OwnT pre e w' lo v ts := by
  obtain ⟨us, h0, h1, h2⟩ := h
  refine ⟨us, h0, ⟨h1.1, ?_⟩, fun i t ht => ?_⟩
  · rcases h1.2 with hn | ⟨g, cap, cur, rfl, hg, hh, rest⟩
    · exact .inl hn
    · exact .inr ⟨g, cap, cur, rfl, hg, (hb.block g (Array.getElem?_eq_some_iff.1 hh).1).trans hh, rest⟩
  · obtain ⟨u, a1, hi, a2, a3⟩ := h2 i t ht
    exact ⟨u, a1, hi, Nat.le_trans a2 hb.size, a3.keep (hb.mono a2)⟩
theorem OwnT.at {pre : List Value} {e : TypeId} {w : World} {lo : Nat} {v : Value} {ts : List (List (List Int))} (h : OwnT pre e w lo v ts) (i : Nat) (hi : i < ts.length) :
    ∃ g c A' c', v = .slice (some ⟨g, 0, none⟩) ts.length c ∧ g < w.heap.size ∧ lo ≤ g ∧ w.cell? ⟨g, i * (pre.length + 1) + pre.length, none⟩ = some (.slice A' (ts[i]?.getD []).length c') ∧ RP w A' (ts[i]?.getD []) ∧
      ∀ (j : Nat) (x : Value), pre[j]? = some x → w.cell? ⟨g, i * (pre.length + 1) + j, none⟩ = some x := by
  obtain ⟨us, h0, h1, h2⟩ := h
  have ht : ts[i]? = some (ts[i]?.getD []) := by rw [List.getElem?_eq_getElem hi]; rfl
  obtain ⟨u, a1, hi', a2, a3⟩ := h2 i _ ht
  obtain ⟨A', c', rfl, hr⟩ := a3.len
  rcases h1.2 with ⟨rfl, hz⟩ | ⟨g, cap, cur, rfl, hg, hh, rest⟩
  · omega
  · refine ⟨g, cap, A', c', rfl, (Array.getElem?_eq_some_iff.1 hh).1, hg, ?_, hr, fun j x hj => ?_⟩
    · have hc := World.ownsRow.cells h1 (g := g) rfl (i * (pre.length + 1) + pre.length) (.slice A' (ts[i]?.getD []).length c') (by rw [flat_get pre us i pre.length _ a1 (Nat.le_refl _)]; simp)
      rwa [add_plain, Nat.zero_add] at hc
    · have hjl : j < pre.length := (List.getElem?_eq_some_iff.1 hj).1
      have hc := World.ownsRow.cells h1 (g := g) rfl (i * (pre.length + 1) + j) x (by rw [flat_get pre us i j _ a1 (by omega), List.getElem?_append_left hjl]; exact hj)
      rwa [add_plain, Nat.zero_add] at hc
theorem OwnT.form {pre : List Value} {e : TypeId} {w : World} {lo : Nat} {v : Value} {ts : List (List (List Int))} (h : OwnT pre e w lo v ts) : ∃ A c, v = .slice A ts.length c := by
  obtain ⟨us, h0, h1, h2⟩ := h
  rcases h1.2 with ⟨rfl, hz⟩ | ⟨g, cap, cur, rfl, hg, hh, rest⟩
  · exact ⟨none, 0, by rw [hz]⟩
  · exact ⟨_, _, rfl⟩
/-- rows lie in other blocks than slices of other types -/
theorem neT {w : World} {e : TypeId} {size lo lo' n : Nat} {v u : Value} {vs : List Value} {l : List Int} (he : e ≠ 2) (hv : w.ownsRow lo e size v n vs) (hu : OwnI w lo' u l) : u.ownBlock = none ∨ u.ownBlock ≠ v.ownBlock := by
  unfold OwnI at hu
  rcases hu.2 with ⟨rfl, _⟩ | ⟨g, cap, cur, rfl, _, hg, _⟩
  · exact .inl rfl
  · rcases hv.2 with ⟨rfl, _⟩ | ⟨g', cap', cur', rfl, _, hg', _⟩
    · exact .inr (by simp [Value.ownBlock])
    · refine .inr fun e0 => ?_
      obtain rfl : g = g' := by simpa [Value.ownBlock] using e0
      rw [hg] at hg'
      injection hg' with e1
      injection e1 with _ e2
      exact he e2.symm
theorem OwnR.otherT {w w' : World} {e : TypeId} {size lo0 n lo hi : Nat} {v u : Value} {vs : List Value} {t : List (List Int)} (he : e ≠ 2) (he2 : e ≠ 25) (hv : w.ownsRow lo0 e size v n vs) (hu : OwnR w lo hi u t) (hg : w.grownBy w' v.ownBlock) : OwnR w' lo hi u t := by
  obtain ⟨us, h1, h2, h3, h4⟩ := hu
  refine ⟨us, ⟨h1.1, ?_⟩, h2, fun i r hr => ?_, h4⟩
  · rcases h1.2 with hn | ⟨g, cap, cur, rfl, hgg, hh, rest⟩
    · exact .inl hn
    · refine .inr ⟨g, cap, cur, rfl, hgg, (hg.block g (Array.getElem?_eq_some_iff.1 hh).1 ?_).trans hh, rest⟩
      rcases hv.2 with ⟨rfl, _⟩ | ⟨g', cap', cur', rfl, _, hg', _⟩
      · simp [Value.ownBlock]
      · intro e0
        obtain rfl : g = g' := by simpa [Value.ownBlock] using e0
        rw [hh] at hg'
        injection hg' with e1
        injection e1 with _ e2
        exact he2 e2.symm
  · obtain ⟨x, a, b, c⟩ := h3 i r hr
    exact ⟨x, a, b.other hg (neT he hv b), c⟩
/-- an append leaves a longer list -/
theorem OwnT.pushed {pre : List Value} {e : TypeId} {w w' : World} {lo hi : Nat} {v v' u : Value} {ts : List (List (List Int))} {t : List (List Int)} {us : List Value} (he : e ≠ 2) (he2 : e ≠ 25)
    (h0 : us.length = ts.length) (h1 : w.ownsRow lo e (pre.length + 1) v ts.length (us.flatMap fun u => pre ++ [u]))
    (h2 : ∀ (i : Nat) (t : List (List Int)), ts[i]? = some t → ∃ u : Value, us[i]? = some u ∧ ∃ hi, hi ≤ w.heap.size ∧ OwnR w lo hi u t)
    (hu : OwnR w lo hi u t) (hhi : hi ≤ w.heap.size)
    (g1 : w'.ownsRow lo e (pre.length + 1) v' (ts.length + 1) ((us.flatMap fun u => pre ++ [u]) ++ (pre ++ [u]))) (g2 : w.grownBy w' v.ownBlock) : OwnT pre e w' lo v' (ts ++ [t]) := by
  refine ⟨us ++ [u], by simp [h0], ?_, fun i t' ht => ?_⟩
  · rw [List.flatMap_append, List.length_append]
    simpa using g1
  · by_cases hi' : i < ts.length
    · rw [List.getElem?_append_left hi'] at ht
      obtain ⟨u', a1, hi2, a2, a3⟩ := h2 i t' ht
      exact ⟨u', by rw [List.getElem?_append_left (by omega)]; exact a1, hi2, Nat.le_trans a2 g2.size, a3.otherT he he2 h1 g2⟩
    · rw [List.getElem?_append_right (by omega)] at ht
      have hi3 : i = ts.length := by
        rcases Nat.eq_or_lt_of_le (Nat.le_of_not_lt hi') with e0 | e0
        · exact e0.symm
        · rw [show i - ts.length = (i - ts.length - 1) + 1 by omega] at ht; simp at ht
      subst hi3
      rw [Nat.sub_self] at ht
      simp at ht
      subst ht
      exact ⟨u, by rw [← h0, List.getElem?_append_right (Nat.le_refl _), Nat.sub_self]; rfl, hi, Nat.le_trans hhi g2.size, hu.otherT he he2 h1 g2⟩
/-- appending a table's element at a step of a region that draws its order: its cells lie in block g -/
theorem step_pushT {pre : List Value} {e : TypeId} {ops : Array Oper} {o : Oper} {a : Act} {K : Act → World → Prop} {Q : Exit → Act → World → Prop} {E : Prop} {w : World} (s x : Operand) (t : TypeId)
    (hgd : o.guard = none) (ho : o.op = .call { callee := .builtin .append, args := #[s, x], argTypes := #[t, t] })
    (ht : Try.prog.underlying t = some (.slice e)) (he : e ≠ 2) (he2 : e ≠ 25) (z : Value) (bytes : Nat)
    (hinfo : (Try.prog.info? e).map (fun i => (i.zero, i.size, i.bytes)) = some (some z, pre.length + 1, bytes)) (hzc : z.cells.size = pre.length + 1) (hby : bytes ≤ 100) (hone : ∀ y, y ∈ pre → y.oneCell' = true)
    (lo hi : Nat) (v : Value) (ts : List (List (List Int))) (hs : a.eval s = v) (hown : OwnT pre e w lo v ts)
    (u : Value) (r : List (List Int)) (hu : OwnR w lo hi u r) (hhi : hi ≤ w.heap.size) (g : Nat) (hx : a.eval x = .slice (some ⟨g, 0, none⟩) 1 1) (hy : ∀ j y, (pre ++ [u])[j]? = some y → w.cell? ⟨g, j, none⟩ = some y) (hlen : ts.length ≤ 1000000) (hlo : lo ≤ w.heap.size)
    (h : ∀ v' w', OwnT pre e w' lo v' (ts ++ [r]) → Below lo w w' → K (a.put o.dst v') w') :
    if Region.wanted o (yielded ops a.tmps) = true then Oper.wp Try.prog o a w K Q else E := by
  have hw : Region.wanted o (yielded ops a.tmps) = true := by simp [Region.wanted, hgd]
  rw [if_pos hw]
  obtain ⟨i0, hi0, hz0, hz1, hz2⟩ := info_parts hinfo
  obtain ⟨us, h0, h1, h2⟩ := hown
  obtain ⟨Au, cu, hue, -⟩ := hu.len
  refine wp_append_own _ s x t ho lo e i0 z (pre.length + 1) bytes ht hi0 hz0 hz1 hz2 hzc (by omega) v ts.length (us.flatMap fun u => pre ++ [u]) hs h1
    ⟨g, 0, none⟩ 1 1 (pre ++ [u]) hx (by simp) ?_ ?_ ?_ ?_ hlo ?_
  · intro j y hj
    rw [add_plain, Nat.zero_add]
    exact hy j y hj
  · intro y hy'
    rcases List.mem_append.1 hy' with hm | hm
    · exact hone y hm
    · simp at hm; subst hm; rw [hue]; rfl
  · unfold maxLen; omega
  · have : (ts.length + 1) * bytes ≤ 1000001 * 100 := Nat.mul_le_mul (by omega) hby
    omega
  · intro v' w' g1 g2 _
    exact h v' w' (OwnT.pushed he he2 h0 h1 h2 hu hhi g1 g2) ((Below.refl lo w).grown g2 hlo (fun k hk => (World.ownsRow.lt h1 k hk).1))
/-- a list of one table, whose cells have just been laid -/
theorem OwnT.one {w : World} (pre : List Value) (e : TypeId) {lo hi : Nat} {u : Value} {t : List (List Int)} (hlo : lo ≤ w.heap.size) (hu : OwnR w lo hi u t) (hhi : hi ≤ w.heap.size) :
    OwnT pre e (w.alloc (.cells (pre ++ [u]).toArray e)) lo (.slice (some ⟨w.heap.size, 0, none⟩) 1 1) [t] := by
  refine ⟨[u], rfl, ⟨by simp, .inr ⟨w.heap.size, 1, (pre ++ [u]).toArray, rfl, hlo, heap_alloc_new w _, Nat.le_refl _, by unfold maxLen; omega, by simp, by simp; exact List.take_of_length_le (by simp)⟩⟩, fun i t' ht => ?_⟩
  match i, ht with
  | 0, ht =>
    simp at ht
    subst ht
    exact ⟨u, rfl, hi, by simp; omega, hu.keep ((below_one w _).mono hhi)⟩
theorem OwnT.nil {w : World} (pre : List Value) (e : TypeId) (lo : Nat) : OwnT pre e w lo (.slice none 0 0) [] := ⟨[], rfl, World.ownsRow_nil _ _ _ _, fun i t ht => by simp at ht⟩
theorem OwnT.more {pre : List Value} {e : TypeId} {w : World} {lo lo' : Nat} {v : Value} {ts : List (List (List Int))} (h : OwnT pre e w lo v ts) (hl : lo' ≤ lo) : OwnT pre e w lo' v ts := by
  obtain ⟨us, h0, h1, h2⟩ := h
  refine ⟨us, h0, ⟨h1.1, ?_⟩, fun i t ht => ?_⟩
  · rcases h1.2 with hn | ⟨g, cap, cur, hv, hg, hh, rest⟩
    · exact .inl hn
    · exact .inr ⟨g, cap, cur, hv, Nat.le_trans hl hg, hh, rest⟩
  · obtain ⟨u, a1, hi, a2, a3⟩ := h2 i t ht
    exact ⟨u, a1, hi, a2, a3.low hl⟩
/-- the same in a walk -/
theorem wp_pushT {pre : List Value} {e : TypeId} {ops : Array Oper} {rest : List Oper} {o : Oper} {a : Act} {Q : Exit → Act → World → Prop} {w : World} (s x : Operand) (t : TypeId)
    (hgd : o.guard = none) (ho : o.op = .call { callee := .builtin .append, args := #[s, x], argTypes := #[t, t] })
    (ht : Try.prog.underlying t = some (.slice e)) (he : e ≠ 2) (he2 : e ≠ 25) (z : Value) (bytes : Nat)
    (hinfo : (Try.prog.info? e).map (fun i => (i.zero, i.size, i.bytes)) = some (some z, pre.length + 1, bytes)) (hzc : z.cells.size = pre.length + 1) (hby : bytes ≤ 100) (hone : ∀ y, y ∈ pre → y.oneCell' = true)
    (lo hi : Nat) (v : Value) (ts : List (List (List Int))) (hs : a.eval s = v) (hown : OwnT pre e w lo v ts)
    (u : Value) (r : List (List Int)) (hu : OwnR w lo hi u r) (hhi : hi ≤ w.heap.size) (g : Nat) (hx : a.eval x = .slice (some ⟨g, 0, none⟩) 1 1) (hy : ∀ j y, (pre ++ [u])[j]? = some y → w.cell? ⟨g, j, none⟩ = some y) (hlen : ts.length ≤ 1000000) (hlo : lo ≤ w.heap.size)
    (h : ∀ v' w', OwnT pre e w' lo v' (ts ++ [r]) → Below lo w w' → wpList Try.prog ops Q rest (a.put o.dst v') w') :
    wpList Try.prog ops Q (o :: rest) a w := by
  obtain ⟨i0, hi0, hz0, hz1, hz2⟩ := info_parts hinfo
  obtain ⟨us, h0, h1, h2⟩ := hown
  obtain ⟨Au, cu, hue, -⟩ := hu.len
  refine wpList_append_own _ hgd s x t ho lo e i0 z (pre.length + 1) bytes ht hi0 hz0 hz1 hz2 hzc (by omega) v ts.length (us.flatMap fun u => pre ++ [u]) hs h1
    ⟨g, 0, none⟩ 1 1 (pre ++ [u]) hx (by simp) ?_ ?_ ?_ ?_ hlo ?_
  · intro j y hj
    rw [add_plain, Nat.zero_add]
    exact hy j y hj
  · intro y hy'
    rcases List.mem_append.1 hy' with hm | hm
    · exact hone y hm
    · simp at hm; subst hm; rw [hue]; rfl
  · unfold maxLen; omega
  · have : (ts.length + 1) * bytes ≤ 1000001 * 100 := Nat.mul_le_mul (by omega) hby
    omega
  · intro v' w' g1 g2 _
    exact h v' w' (OwnT.pushed he he2 h0 h1 h2 hu hhi g1 g2) ((Below.refl lo w).grown g2 hlo (fun k hk => (World.ownsRow.lt h1 k hk).1))
/-- cells just laid -/
theorem laid (w : World) (vs : List Value) (T : TypeId) : ∀ j y, vs[j]? = some y → (w.alloc (.cells vs.toArray T)).cell? ⟨w.heap.size, j, none⟩ = some y := by
  intro j y hj
  rw [World.cell?_alloc_at _ _ _ _ rfl]
  simpa using hj
/-- an append to an own slice leaves the cells that the slice had as they were, wherever the new slice lies -/
theorem append_keeps {P : Program} {w w' : World} {base : Nat} {t ty e : TypeId} {i : TypeInfo} {z : Value} {size bytes : Nat} (ht : P.underlying t = some (.slice e)) (hi : P.info? e = some i) (hz : i.zero = some z)
    (hsize : i.size = size) (hby : i.bytes = bytes) {g n cap : Nat} {xs : List Value} (hown : w.ownsRow base e size (.slice (some ⟨g, 0, none⟩) n cap) n xs)
    {a : Addr} {c : Nat} {news : List Value} (hl : news.length = 1 * size) (hnews : ∀ j u, news[j]? = some u → w.cell? (a.add j) = some u) (h1 : ∀ u ∈ news, u.oneCell' = true)
    (h63 : n + 1 ≤ maxLen) (hbytes : (n + 1) * bytes ≤ 140737488355328) {v' : Value} (hr : (Builtin.append_ #[t, t] ty #[.slice (some ⟨g, 0, none⟩) n cap, .slice (some a) 1 c]).run P w = .ok v' w') :
    ∀ j, j < n * size → w'.cell? ⟨g, j, none⟩ = w.cell? ⟨g, j, none⟩ := by
  intro j hj
  subst hsize
  subst hby
  rcases hown.2 with ⟨e0, _⟩ | ⟨g', cap', cur, e0, -, hg, hnc, hcm, hcs, htake⟩
  · cases e0
  · injection e0 with e1 e2 e3
    injection e1 with e1
    injection e1 with e1
    subst e1 e3
    have hsmall : n + 1 ≤ 9223372036854775807 := by simp only [maxLen] at h63; omega
    by_cases hroom : n + 1 ≤ cap
    · have hfit : n * i.size + news.length ≤ cur.size := by rw [hl, hcs, ← Nat.add_mul]; exact Nat.mul_le_mul_right _ hroom
      have hr2 := run_append_room (P := P) w t ty e i ht hi g n cap cur hg a 1 c news hl hnews h1 hroom hfit
      rw [hr2] at hr
      injection hr with _ hw
      rw [← hw, cell_setRow_same w g j cur _ e _ hg]
      have hjc : j < cur.size := by omega
      simp only [World.cell?, hg, List.getElem?_toArray]
      rw [List.append_assoc, List.getElem?_append_left (by simp; omega), List.getElem?_take, if_pos hj]
      simp
    · have holds : ∀ j u, xs[j]? = some u → w.cell? ((⟨g, 0, none⟩ : Addr).add j) = some u := hown.cells (g := g) rfl
      have hr2 := run_append_grow (P := P) w t ty e i z ht hi hz ⟨g, 0, none⟩ n cap xs hown.1 holds a 1 c news hl hnews (by omega) (by omega) (growslice_fits (by omega) hbytes)
      rw [hr2] at hr
      injection hr with _ hw
      have hlt : g < w.heap.size := (Array.getElem?_eq_some_iff.1 hg).1
      rw [← hw]
      exact World.cell?_of_block (a := ⟨g, j, none⟩) (heap_alloc_old w.drew _ hlt)
/-- step_pushT, told also that the old elements lie where they lay -/
theorem step_pushK {pre : List Value} {e : TypeId} {ops : Array Oper} {o : Oper} {a : Act} {K : Act → World → Prop} {Q : Exit → Act → World → Prop} {E : Prop} {w : World} (s x : Operand) (t : TypeId)
    (hgd : o.guard = none) (ho : o.op = .call { callee := .builtin .append, args := #[s, x], argTypes := #[t, t] })
    (ht : Try.prog.underlying t = some (.slice e)) (he : e ≠ 2) (he2 : e ≠ 25) (z : Value) (bytes : Nat)
    (hinfo : (Try.prog.info? e).map (fun i => (i.zero, i.size, i.bytes)) = some (some z, pre.length + 1, bytes)) (hzc : z.cells.size = pre.length + 1) (hby : bytes ≤ 100) (hone : ∀ y, y ∈ pre → y.oneCell' = true)
    (lo hi : Nat) (G N C : Nat) (ts : List (List (List Int))) (hs : a.eval s = .slice (some ⟨G, 0, none⟩) N C) (hN : ts.length = N) (hown : OwnT pre e w lo (.slice (some ⟨G, 0, none⟩) N C) ts)
    (u : Value) (r : List (List Int)) (hu : OwnR w lo hi u r) (hhi : hi ≤ w.heap.size) (g : Nat) (hx : a.eval x = .slice (some ⟨g, 0, none⟩) 1 1) (hy : ∀ j y, (pre ++ [u])[j]? = some y → w.cell? ⟨g, j, none⟩ = some y) (hlen : ts.length ≤ 1000000) (hlo : lo ≤ w.heap.size)
    (h : ∀ v' w', OwnT pre e w' lo v' (ts ++ [r]) → Below lo w w' → (∀ j, j < N * (pre.length + 1) → w'.cell? ⟨G, j, none⟩ = w.cell? ⟨G, j, none⟩) → K (a.put o.dst v') w') :
    if Region.wanted o (yielded ops a.tmps) = true then Oper.wp Try.prog o a w K Q else E := by
  have hw : Region.wanted o (yielded ops a.tmps) = true := by simp [Region.wanted, hgd]
  rw [if_pos hw]
  subst hN
  obtain ⟨i0, hi0, hz0, hz1, hz2⟩ := info_parts hinfo
  obtain ⟨us, h0, h1, h2⟩ := hown
  obtain ⟨Au, cu, hue, -⟩ := hu.len
  have c1 : ∀ j y, (pre ++ [u])[j]? = some y → w.cell? ((⟨g, 0, none⟩ : Addr).add j) = some y := by
    intro j y hj
    rw [add_plain, Nat.zero_add]
    exact hy j y hj
  have c2 : ∀ y ∈ pre ++ [u], y.oneCell' = true := by
    intro y hy'
    rcases List.mem_append.1 hy' with hm | hm
    · exact hone y hm
    · simp at hm; subst hm; rw [hue]; rfl
  have c3 : (ts.length + 1) * bytes ≤ 140737488355328 := by
    have : (ts.length + 1) * bytes ≤ 1000001 * 100 := Nat.mul_le_mul (by omega) hby
    omega
  have c4 : ts.length + 1 ≤ maxLen := by unfold maxLen; omega
  obtain ⟨v', w', hr, g1, g2, -⟩ := run_append_own (P := Try.prog) w lo t o.type e i0 z (pre.length + 1) bytes ht hi0 hz0 hz1 hz2 hzc (by omega) (.slice (some ⟨G, 0, none⟩) ts.length C) ts.length (us.flatMap fun u => pre ++ [u]) h1 ⟨g, 0, none⟩ 1 1 (pre ++ [u]) (by simp) c1 c2 c4 c3 hlo
  have hk := append_keeps ht hi0 hz0 hz1 hz2 h1 (by simp) c1 c2 c4 c3 hr
  unfold Oper.wp execOp
  simp only [ho, resolve, invoke, builtin, Sem.run_bind, Sem.run_pure, Result.andThen_ok, List.map_toArray, List.map_cons, List.map_nil, hs, hx, hr]
  exact h v' w' (OwnT.pushed he he2 h0 h1 h2 hu hhi g1 g2) ((Below.refl lo w).grown g2 hlo (fun k hk => (World.ownsRow.lt h1 k hk).1)) hk
/-- another list of tables is left alone by an append -/
theorem OwnT.other {pre : List Value} {e : TypeId} {w w' : World} {lo lo0 size n : Nat} {v u : Value} {vs : List Value} {ts : List (List (List Int))} (he : e ≠ 2) (he2 : e ≠ 25) (hv : w.ownsRow lo0 e size v n vs) (hu : OwnT pre e w lo u ts) (hg : w.grownBy w' v.ownBlock) (hne : u.ownBlock = none ∨ u.ownBlock ≠ v.ownBlock) : OwnT pre e w' lo u ts := by
  obtain ⟨us, h0, h1, h2⟩ := hu
  refine ⟨us, h0, ⟨h1.1, ?_⟩, fun i t ht => ?_⟩
  · rcases h1.2 with hn | ⟨g, cap, cur, rfl, hgg, hh, rest⟩
    · exact .inl hn
    · refine .inr ⟨g, cap, cur, rfl, hgg, (hg.block g (Array.getElem?_eq_some_iff.1 hh).1 ?_).trans hh, rest⟩
      rcases hne with h | h
      · simp [Value.ownBlock] at h
      · exact h
  · obtain ⟨x, a1, hi, a2, a3⟩ := h2 i t ht
    exact ⟨x, a1, hi, Nat.le_trans a2 hg.size, a3.otherT he he2 hv hg⟩
theorem OwnT.lt {pre : List Value} {e : TypeId} {w : World} {lo : Nat} {v : Value} {ts : List (List (List Int))} (h : OwnT pre e w lo v ts) : ∀ g, v.ownBlock = some g → lo ≤ g ∧ g < w.heap.size := by
  obtain ⟨us, h0, h1, h2⟩ := h
  exact fun g hg => World.ownsRow.lt h1 g hg
/-- step_pushT, told also that other lists are left alone, and that the new slice lies in the old one's block or in a new one -/
theorem step_pushD {pre : List Value} {e : TypeId} {ops : Array Oper} {o : Oper} {a : Act} {K : Act → World → Prop} {Q : Exit → Act → World → Prop} {E : Prop} {w : World} (s x : Operand) (t : TypeId)
    (hgd : o.guard = none) (ho : o.op = .call { callee := .builtin .append, args := #[s, x], argTypes := #[t, t] })
    (ht : Try.prog.underlying t = some (.slice e)) (he : e ≠ 2) (he2 : e ≠ 25) (z : Value) (bytes : Nat)
    (hinfo : (Try.prog.info? e).map (fun i => (i.zero, i.size, i.bytes)) = some (some z, pre.length + 1, bytes)) (hzc : z.cells.size = pre.length + 1) (hby : bytes ≤ 100) (hone : ∀ y, y ∈ pre → y.oneCell' = true)
    (lo hi : Nat) (v : Value) (ts : List (List (List Int))) (hs : a.eval s = v) (hown : OwnT pre e w lo v ts)
    (u : Value) (r : List (List Int)) (hu : OwnR w lo hi u r) (hhi : hi ≤ w.heap.size) (g : Nat) (hx : a.eval x = .slice (some ⟨g, 0, none⟩) 1 1) (hy : ∀ j y, (pre ++ [u])[j]? = some y → w.cell? ⟨g, j, none⟩ = some y) (hlen : ts.length ≤ 1000000) (hlo : lo ≤ w.heap.size)
    (h : ∀ v' w', OwnT pre e w' lo v' (ts ++ [r]) → Below lo w w' → (∀ u' ts', OwnT pre e w lo u' ts' → (u'.ownBlock = none ∨ u'.ownBlock ≠ v.ownBlock) → OwnT pre e w' lo u' ts' ∧ (u'.ownBlock = none ∨ u'.ownBlock ≠ v'.ownBlock)) → K (a.put o.dst v') w') :
    if Region.wanted o (yielded ops a.tmps) = true then Oper.wp Try.prog o a w K Q else E := by
  have hw : Region.wanted o (yielded ops a.tmps) = true := by simp [Region.wanted, hgd]
  rw [if_pos hw]
  obtain ⟨i0, hi0, hz0, hz1, hz2⟩ := info_parts hinfo
  obtain ⟨us, h0, h1, h2⟩ := hown
  obtain ⟨Au, cu, hue, -⟩ := hu.len
  have c1 : ∀ j y, (pre ++ [u])[j]? = some y → w.cell? ((⟨g, 0, none⟩ : Addr).add j) = some y := by
    intro j y hj
    rw [add_plain, Nat.zero_add]
    exact hy j y hj
  have c2 : ∀ y ∈ pre ++ [u], y.oneCell' = true := by
    intro y hy'
    rcases List.mem_append.1 hy' with hm | hm
    · exact hone y hm
    · simp at hm; subst hm; rw [hue]; rfl
  have c3 : (ts.length + 1) * bytes ≤ 140737488355328 := by
    have : (ts.length + 1) * bytes ≤ 1000001 * 100 := Nat.mul_le_mul (by omega) hby
    omega
  have c4 : ts.length + 1 ≤ maxLen := by unfold maxLen; omega
  obtain ⟨v', w', hr, g1, g2, -, g3⟩ := run_append_own_at (P := Try.prog) w lo t o.type e i0 z (pre.length + 1) bytes ht hi0 hz0 hz1 hz2 hzc (by omega) v ts.length (us.flatMap fun u => pre ++ [u]) h1 ⟨g, 0, none⟩ 1 1 (pre ++ [u]) (by simp) c1 c2 c4 c3 hlo
  unfold Oper.wp execOp
  simp only [ho, resolve, invoke, builtin, Sem.run_bind, Sem.run_pure, Result.andThen_ok, List.map_toArray, List.map_cons, List.map_nil, hs, hx, hr]
  refine h v' w' (OwnT.pushed he he2 h0 h1 h2 hu hhi g1 g2) ((Below.refl lo w).grown g2 hlo (fun k hk => (World.ownsRow.lt h1 k hk).1)) (fun u' ts' hu' hne => ⟨hu'.other he he2 h1 g2 hne, ?_⟩)
  rcases hc : u'.ownBlock with _ | b
  · exact .inl rfl
  · refine .inr (fun e0 => ?_)
    rcases g3 with g3 | g3
    · rw [g3] at e0
      rcases hne with hne | hne
      · rw [hc] at hne; cases hne
      · exact hne (hc.trans e0)
    · rw [g3] at e0
      injection e0 with e0
      have := (hu'.lt b hc).2
      omega
end Go.Proofs.Yteicllnbphljnaa

/- Contracts of the program's look for faults of symmetry and of brackets. -/
namespace Go.Proofs.Yteicllnbphljnaa
open Go.RowKit Go.WideShapes Go.ChangeShapes Go.ChangeAt

namespace Pl
theorem fau1_in {F : Nat → Nat → Int} {d i : Nat} {o : Option (List Int)} (hi : i < d + 1) (h : srch (fau1 d F) (d + 1 - i) i = o) : orE (srch (fau1j F i) (d + 1 - i - (i + 1)) (i + 1)) (srch (fau1 d F) (d + 1 - (i + 1)) (i + 1)) = o := by
  rw [show d + 1 - i = (d + 1 - (i + 1)) + 1 by omega, srch_step] at h
  unfold fau1 at h
  rw [show d + 1 - i - (i + 1) = d - i - i by omega]
  exact h
theorem fau1_go {F : Nat → Nat → Int} {d i j : Nat} {r o : Option (List Int)} (hj : i + j < d + 1) (h : orE (srch (fau1j F i) (d + 1 - i - j) j) r = o) (hx : F i j = F j i) : orE (srch (fau1j F i) (d + 1 - i - (j + 1)) (j + 1)) r = o := by
  rw [show d + 1 - i - j = (d + 1 - i - (j + 1)) + 1 by omega, srch_step] at h
  unfold fau1j at h
  rw [if_pos hx, orE_none] at h
  exact h
theorem fau1_no {F : Nat → Nat → Int} {d i j : Nat} {r o : Option (List Int)} (hj : i + j < d + 1) (h : orE (srch (fau1j F i) (d + 1 - i - j) j) r = o) (hx : ¬ F i j = F j i) : o = some [1, (i : Int), (j : Int)] := by
  rw [show d + 1 - i - j = (d + 1 - i - (j + 1)) + 1 by omega, srch_step] at h
  unfold fau1j at h
  rw [if_neg hx, orE_some, orE_some] at h
  exact h.symm
theorem fau1_out {F : Nat → Nat → Int} {d i j : Nat} {r o : Option (List Int)} (hj : ¬ i + j < d + 1) (h : orE (srch (fau1j F i) (d + 1 - i - j) j) r = o) : r = o := by
  rw [show d + 1 - i - j = 0 by omega] at h
  exact h
end Pl
set_option maxHeartbeats 8000000 in
set_option maxRecDepth 100000 in
theorem wrongPair_any (m : Int) (d : Nat) (A : Option Addr) (c : Nat) (t : List (List Int)) (w : World) (hs : Pl.Ok m d t) (hr : RP w A t) :
    Calls Try.prog 138 #[.agg #[.int .i64 m, .int .i64 d, .slice A t.length c]] w fun e w' => ∃ v, e = .returned v ∧ FauV w' w.heap.size v (Pl.fauS d (Pl.pc t)) ∧ Below w.heap.size w w' := by
  obtain ⟨b, off, rfl⟩ := hr.some (by rw [hs.len]; omega)
  have HG1 := Lib.hid (GBox.new 74 w m d (some ⟨b, off, none⟩) t.length c)
  have HWB := Lib.hid (below_one w (.cells #[.int .i64 m, .int .i64 d, .slice (some ⟨b, off, none⟩) t.length c] 74))
  have HS := Lib.hid hs
  have hd2 := hs.d2
  have HLR := Lib.hid (fun (k : Nat) W (hk : k ≤ d) => lenRow_any m d k W (by have := hs.d2; omega) hk)
  obtain ⟨o, ho⟩ : ∃ o, Pl.fauS d (Pl.pc t) = o := ⟨_, rfl⟩
  have HO := Lib.hid (show Pl.srch (Pl.fau1 d (Pl.pc t)) (d + 1 - 0) 0 = o from ho)
  rw [ho]
  obtain ⟨L, hL⟩ : ∃ L, t.length = L := ⟨_, rfl⟩
  have HL := Lib.hid hL
  have HLd := Lib.hid (hL.symm.trans hs.len)
  rw [hL] at HG1 HWB ⊢
  obtain ⟨W, hW⟩ : ∃ W, w.alloc (.cells #[.int .i64 m, .int .i64 d, .slice (some ⟨b, off, none⟩) L c] 74) = W := ⟨_, rfl⟩
  rw [hW] at HG1 HWB
  have HR := Lib.hid (hr.below HWB.out)
  have HW := Lib.hid hW
  have HB := HWB
  clear hs hr hL hW ho
  obtain ⟨x0, x1, x2, x3⟩ := HG1.out
  go_enter Try.func138, Try.ntmps138
  go_wp2
  rw [HW.out]
  go_wp2
  clear x0 x1 x2 x3
  go_loopw [3, 4, 9] (fun _ _ q wr => ∃ i : Nat, i ≤ d + 1 ∧ q = .int .i64 i ∧ Pl.srch (Pl.fau1 d (Pl.pc t)) (d + 1 - i) i = o ∧ Below W.heap.size W wr) (fun _ _ q _ => d + 1 - (intOf q).toNat)
  case atStart => exact ⟨0, Nat.zero_le _, rfl, HO.out, Below.refl _ _⟩
  case round =>
    clear HO
    obtain ⟨i, hi, rfl, hso, hbel⟩ := hrel
    have HBE := Lib.hid hbel
    clear hbel
    by_cases hlt : i < d + 1
    · have HIN := Lib.hid (Pl.fau1_in hlt hso)
      have HLK := Lib.hid (fun W => HLR.out i W (by omega))
      obtain ⟨N, hN⟩ : ∃ N, d - i + 1 = N := ⟨_, rfl⟩
      rw [hN] at HLK
      have HNN := Lib.hid hN
      have hN1 : N ≤ 11 := by omega
      have j1 : (i : Int) < (d : Int) + 1 := by omega
      obtain ⟨r, hr⟩ : ∃ r, Pl.srch (Pl.fau1 d (Pl.pc t)) (d + 1 - (i + 1)) (i + 1) = r := ⟨_, rfl⟩
      rw [hr] at HIN
      have HRR := Lib.hid hr
      clear hN hso hr
      go_wp2
      go_loopw [4] (fun q wr => ∃ j : Nat, j ≤ d + 2 ∧ q = .int .i64 j ∧ Pl.orE (Pl.srch (Pl.fau1j (Pl.pc t) i) (d + 1 - i - j) j) r = o ∧ Below W.heap.size W wr) (fun q _ => d + 3 - (intOf q).toNat)
      case atStart => exact ⟨i + 1, by omega, by first | rfl | go_num, HIN.out, HBE.out⟩
      case round =>
        clear HIN HBE
        obtain ⟨j, hj, rfl, hso, hbel⟩ := hrel
        have HBE := Lib.hid hbel
        obtain ⟨x0, x1, x2, x3⟩ := HG1.out.keep hbel
        go_wp2_with fail
        refine (HLK.out _).mono ?_
        rintro e w2 ⟨rfl, hb2⟩
        have HB2 := Lib.hid (below_step HBE.out hb2)
        clear hb2 x0 x1 x2 x3 hbel
        have hNN := HNN.out
        by_cases hjN : j < N
        · obtain ⟨p1, p2, p3, M, hM, x1, x2, x3⟩ := (HG1.out.keep HB2.out).num' HL.out HS.out (HR.out.below HB2.out) i j (by omega)
          obtain ⟨q1, q2, q3, M', hM', y1, y2, y3⟩ := (HG1.out.keep HB2.out).num' HL.out HS.out (HR.out.below HB2.out) j i (by omega)
          clear y1
          have hgo := Pl.fau1_go (F := Pl.pc t) (d := d) (i := i) (j := j) (by omega) hso
          have hno := Pl.fau1_no (F := Pl.pc t) (d := d) (i := i) (j := j) (by omega) hso
          obtain ⟨X, hX⟩ : ∃ X, Pl.pc t i j = X := ⟨_, rfl⟩
          obtain ⟨Y, hY⟩ : ∃ Y, Pl.pc t j i = Y := ⟨_, rfl⟩
          rw [hX, hY] at hgo hno
          rw [hX] at x3
          rw [hY] at y3
          have hLd := HLd.out
          have j2 : (0 : Int) ≤ (i : Int) := by omega
          have j3 : (i : Int) < (L : Int) := by omega
          have j4 : (0 : Int) ≤ (j : Int) := by omega
          have j5 : (j : Int) < (M : Int) := by omega
          have j8 : (j : Int) < (L : Int) := by omega
          have j9 : (i : Int) < (M' : Int) := by omega
          clear hso hX hY hM hM' hNN hLd
          by_cases hxy : X = Y
          · have HNX := Lib.hid (hgo hxy)
            subst hxy
            clear hgo hno
            go_wp2
            go_quiet (fail)
            go_wp2
            go_roundw
            case rel => exact ⟨j + 1, by have := HNN.out; omega, by go_num, HNX.out, below_drewN HB2.out _⟩
            case measure => simp only [intOf]; omega
          · have HNX := Lib.hid (hno hxy)
            obtain ⟨n1, n2⟩ : (X == Y) = false ∧ (X != Y) = true := ⟨by simpa using hxy, by simpa using hxy⟩
            clear hgo hno
            go_wp2
            go_quiet (fail)
            go_wp2
            go_ret
            exact ⟨_, rfl, by rw [HNX.out]; exact ⟨_, _, rfl, (OwnI.lit3 _ 1 (i : Int) (j : Int)).more (by first | exact (below_step HB.out HB2.out).size | exact (below_drewN (below_step HB.out HB2.out) _).size)⟩, below_step HB.out (below_alloc _ (by first | exact HB2.out | exact below_drewN HB2.out _))⟩
        · have HNX := Lib.hid (HRR.out.trans (Pl.fau1_out (by omega) hso))
          have j1 : ¬ (j : Int) < (N : Int) := by omega
          clear hso hNN
          go_wp2
          go_roundw
          case rel => exact ⟨i + 1, by omega, by go_num, HNX.out, HB2.out⟩
          case measure => simp only [intOf]; omega
    · obtain rfl : i = d + 1 := by omega
      rw [Nat.sub_self] at hso
      have HNO := Lib.hid (show o = none from hso.symm)
      clear hso
      go_wp2
      go_ret
      exact ⟨_, rfl, by rw [HNO.out]; exact rfl, below_step HB.out HBE.out⟩

/-! the powers of a grid -/
def pwTs (m : Int) (d : Nat) (F : Nat → Nat → Int) (n : Nat) : List (List (List Int)) := (List.range n).map (Pl.pwT m d F)
theorem pwTs_length (m : Int) (d : Nat) (F : Nat → Nat → Int) (n : Nat) : (pwTs m d F n).length = n := by simp [pwTs]
theorem pwTs_succ (m : Int) (d : Nat) (F : Nat → Nat → Int) (n : Nat) : pwTs m d F (n + 1) = pwTs m d F n ++ [Pl.pwT m d F n] := by simp [pwTs, List.range_succ]
theorem pwTs_get (m : Int) (d : Nat) (F : Nat → Nat → Int) (n i : Nat) (h : i < n) : (pwTs m d F n)[i]?.getD [] = Pl.pwT m d F i := by
  unfold pwTs
  rw [List.getElem?_map, List.getElem?_range h]; rfl
theorem pwT_ok {m : Int} {d : Nat} (m1 : 2 ≤ m) (m2 : m ≤ 10000) (d1 : 1 ≤ d) (d2 : d ≤ 10) (F : Nat → Nat → Int) (k : Nat) : Pl.Ok m d (Pl.pwT m d F k) := by
  cases k <;> exact Pl.Ok.of_tab m1 m2 d1 d2 _
theorem infoGrid : (Try.prog.info? 74).map (fun i => (i.zero, i.size, i.bytes)) = some (some (.agg #[.int .i64 0, .int .i64 0, .slice none 0 0]), 3, 40) := by kernel_rfl
theorem g_ne1 : (74 : TypeId) ≠ 2 := by decide
theorem g_ne2 : (74 : TypeId) ≠ 25 := by decide
/-- element i of a list of grids, in the walk's form -/
theorem OwnT.grid {m d : Value} {w : World} {lo : Nat} {v : Value} {ts : List (List (List Int))} (h : OwnT [m, d] 74 w lo v ts) (i : Nat) (hi : i < ts.length) :
    ∃ g c A' c', v = .slice (some ⟨g, 0, none⟩) ts.length c ∧ g < w.heap.size ∧ lo ≤ g ∧ w.cell? ⟨g, i * 3, none⟩ = some m ∧ w.cell? ⟨g, i * 3 + 1, none⟩ = some d ∧ w.cell? ⟨g, i * 3 + 2, none⟩ = some (.slice A' (ts[i]?.getD []).length c') ∧ RP w A' (ts[i]?.getD []) := by
  obtain ⟨g, c, A', c', h1, h2, h3, h4, h5, h6⟩ := h.at i hi
  exact ⟨g, c, A', c', h1, h2, h3, h6 0 m rfl, h6 1 d rfl, h4, h5⟩
theorem one_grid {m : Int} {d : Nat} (F : Nat → Nat → Int) (m1 : 2 ≤ m) : Pl.tab m d (gosF (Ser.cut m d (Ser.mon 0 1)) 0) = Pl.pwT m d F 0 := by
  show _ = Pl.tab m d (Pl.one2 1)
  refine Pl.tab_congr (Pl.Eq.of m d (fun p q hpq => ?_))
  unfold gosF Pl.one2
  rw [if_pos rfl]
  by_cases hq : q = 0
  · rw [if_pos hq, Ser.co_cut (by omega)]
    unfold Ser.mon
    by_cases hp : p = 0
    · rw [if_pos hp, if_pos ⟨hp, hq⟩, Int.emod_eq_of_lt (by omega) (by omega)]
    · rw [if_neg hp, if_neg (fun h => hp h.1), Int.zero_emod]
  · rw [if_neg hq, if_neg (fun h => hq h.2)]
/-- in the walk's form: a list's element and a grid's box are kept by a call, and by an append to the list -/
theorem el_keep {w w' : World} {g k g1 : Nat} {x y z x1 y1 z1 : Value} (hb : Below w.heap.size w w')
    (h : (w.cell? ⟨g, k * 3, none⟩ = some x ∧ w.cell? ⟨g, k * 3 + 1, none⟩ = some y ∧ w.cell? ⟨g, k * 3 + 2, none⟩ = some z ∧ g < w.heap.size) ∧ (w.cell? ⟨g1, 0, none⟩ = some x1 ∧ w.cell? ⟨g1, 1, none⟩ = some y1 ∧ w.cell? ⟨g1, 2, none⟩ = some z1 ∧ g1 < w.heap.size)) :
    (w'.cell? ⟨g, k * 3, none⟩ = some x ∧ w'.cell? ⟨g, k * 3 + 1, none⟩ = some y ∧ w'.cell? ⟨g, k * 3 + 2, none⟩ = some z ∧ g < w'.heap.size) ∧ (w'.cell? ⟨g1, 0, none⟩ = some x1 ∧ w'.cell? ⟨g1, 1, none⟩ = some y1 ∧ w'.cell? ⟨g1, 2, none⟩ = some z1 ∧ g1 < w'.heap.size) :=
  ⟨⟨(hb.cell (p := ⟨g, k * 3, none⟩) h.1.2.2.2).trans h.1.1, (hb.cell (p := ⟨g, k * 3 + 1, none⟩) h.1.2.2.2).trans h.1.2.1, (hb.cell (p := ⟨g, k * 3 + 2, none⟩) h.1.2.2.2).trans h.1.2.2.1, Nat.lt_of_lt_of_le h.1.2.2.2 hb.size⟩,
   ⟨(hb.cell (p := ⟨g1, 0, none⟩) h.2.2.2.2).trans h.2.1, (hb.cell (p := ⟨g1, 1, none⟩) h.2.2.2.2).trans h.2.2.1, (hb.cell (p := ⟨g1, 2, none⟩) h.2.2.2.2).trans h.2.2.2.1, Nat.lt_of_lt_of_le h.2.2.2.2 hb.size⟩⟩
theorem el_push {w w' : World} {lo g k n g1 : Nat} {x y z x1 y1 z1 : Value} (hk : ∀ j, j < n * 3 → w'.cell? ⟨g, j, none⟩ = w.cell? ⟨g, j, none⟩) (hkn : k < n) (hg1 : g1 < lo) (hb : Below lo w w')
    (h : (w.cell? ⟨g, k * 3, none⟩ = some x ∧ w.cell? ⟨g, k * 3 + 1, none⟩ = some y ∧ w.cell? ⟨g, k * 3 + 2, none⟩ = some z ∧ g < w.heap.size) ∧ (w.cell? ⟨g1, 0, none⟩ = some x1 ∧ w.cell? ⟨g1, 1, none⟩ = some y1 ∧ w.cell? ⟨g1, 2, none⟩ = some z1 ∧ g1 < w.heap.size)) :
    (w'.cell? ⟨g, k * 3, none⟩ = some x ∧ w'.cell? ⟨g, k * 3 + 1, none⟩ = some y ∧ w'.cell? ⟨g, k * 3 + 2, none⟩ = some z ∧ g < w'.heap.size) ∧ (w'.cell? ⟨g1, 0, none⟩ = some x1 ∧ w'.cell? ⟨g1, 1, none⟩ = some y1 ∧ w'.cell? ⟨g1, 2, none⟩ = some z1 ∧ g1 < w'.heap.size) :=
  ⟨⟨(hk (k * 3) (by omega)).trans h.1.1, (hk (k * 3 + 1) (by omega)).trans h.1.2.1, (hk (k * 3 + 2) (by omega)).trans h.1.2.2.1, Nat.lt_of_lt_of_le h.1.2.2.2 hb.size⟩,
   ⟨(hb.cell (p := ⟨g1, 0, none⟩) hg1).trans h.2.1, (hb.cell (p := ⟨g1, 1, none⟩) hg1).trans h.2.2.1, (hb.cell (p := ⟨g1, 2, none⟩) hg1).trans h.2.2.2.1, Nat.lt_of_lt_of_le h.2.2.2.2 hb.size⟩⟩
theorem pre_one (m d : Int) : ∀ y, y ∈ [Value.int .i64 m, Value.int .i64 d] → y.oneCell' = true := by
  intro y hy
  simp at hy
  rcases hy with rfl | rfl <;> rfl
set_option maxHeartbeats 8000000 in
set_option maxRecDepth 100000 in
theorem powers_any (m : Int) (d : Nat) (A : Option Addr) (c : Nat) (t : List (List Int)) (w : World) (hs : Pl.Ok m d t) (hr : RP w A t) :
    Calls Try.prog 154 #[.agg #[.int .i64 m, .int .i64 d, .slice A t.length c]] w fun e w' => ∃ v, e = .returned v ∧ OwnT [.int .i64 m, .int .i64 d] 74 w' w.heap.size v (pwTs m d (Pl.pc t) (d + 1)) ∧ Below w.heap.size w w' := by
  have HG1 := Lib.hid (GBox.new 74 w m d A t.length c)
  have HWB := Lib.hid (below_one w (.cells #[.int .i64 m, .int .i64 d, .slice A t.length c] 74))
  obtain ⟨W, hW⟩ : ∃ W, w.alloc (.cells #[.int .i64 m, .int .i64 d, .slice A t.length c] 74) = W := ⟨_, rfl⟩
  rw [hW] at HG1 HWB
  have HW := Lib.hid hW
  have HB := HWB
  have m1 := hs.m1
  have m2 := hs.m2
  have hd1 := hs.d1
  have hd2 := hs.d2
  have HR := Lib.hid (hr.below HWB.out)
  have HMO := Lib.hid (fun W0 => monomial_any m d 0 1 W0 (by omega) m2 (by omega) (by omega) (by omega))
  have HGS := Lib.hid (fun (W0 : World) (A0 : Option Addr) (c0 : Nat) (h : RI W0 A0 (Ser.cut m d (Ser.mon 0 1))) => gridOfSeries_any m d A0 c0 _ 0 W0 ⟨m1, m2, by omega, by omega, Ser.cut_length _ _ _, Ser.cut_red (by omega) _ _⟩ h)
  have HTM := Lib.hid (fun (k : Nat) (A1 : Option Addr) (c1 : Nat) (W0 : World) (h : RP W0 A1 (Pl.pwT m d (Pl.pc t) k)) (h' : RP W0 A t) => by
    have := gtimes_any m d A1 c1 (Pl.pwT m d (Pl.pc t) k) A c t W0 (pwT_ok m1 m2 hd1 hd2 _ k) hs h h'
    rw [Pl.pwT_length] at this
    exact this)
  obtain ⟨L0, hL0⟩ : ∃ L0, Ser.cut m d (Ser.mon 0 1) = L0 := ⟨_, rfl⟩
  have hone : Pl.tab m d (gosF L0 0) = Pl.pwT m d (Pl.pc t) 0 := by rw [← hL0]; exact one_grid _ m1
  rw [hL0] at HMO HGS
  rw [hone] at HGS
  obtain ⟨L, hL⟩ : ∃ L, t.length = L := ⟨_, rfl⟩
  rw [hL] at HG1 HW HTM ⊢
  obtain ⟨x1, x2, x3, x4⟩ := HG1.out
  clear hW hr hs hL hL0 hone
  go_enter Try.func154, Try.ntmps154
  go_wp2_with fail
  rw [HW.out]
  refine (HMO.out _).mono ?_
  rintro e wa ⟨sa, rfl, oa, ba⟩
  obtain ⟨Aa, ca, rfl, ra⟩ := oa.form
  go_wp2_with fail
  refine (HGS.out _ _ _ ra).mono ?_
  rintro e wb ⟨sb, rfl, ob, bb⟩
  obtain ⟨Ab, cb, rfl, -⟩ := ob.len
  rw [Pl.pwT_length] at ob ⊢
  have hsz := ba.size
  have hsz2 := (below_step ba bb).size
  have HO := Lib.hid (OwnT.one [.int .i64 m, .int .i64 d] 74 (lo := W.heap.size) hsz2 (ob.low hsz) (Nat.le_refl _))
  have HBB := Lib.hid (below_alloc (.cells #[.int .i64 m, .int .i64 d, .slice Ab (d + 1) cb] 74) (below_step ba bb))
  obtain ⟨X, hX⟩ : ∃ X, wb.alloc (.cells #[.int .i64 m, .int .i64 d, .slice Ab (d + 1) cb] 74) = X := ⟨_, rfl⟩
  rw [hX] at HBB
  have HX := Lib.hid hX
  have HO' : Hid (OwnT [.int .i64 m, .int .i64 d] 74 X W.heap.size (.slice (some ⟨wb.heap.size, 0, none⟩) 1 1) (pwTs m d (Pl.pc t) (0 + 1))) := Lib.hid (by rw [← hX]; exact HO.out)
  clear oa ba ob bb ra hsz hsz2 hX HO x1 x2 x3 x4
  obtain ⟨x1, x2, x3, x4⟩ := HG1.out.keep HBB.out
  rw [← HX.out] at x1 x2 x3
  go_wp2
  clear x1 x2 x3 x4
  rw [HX.out]
  clear HX
  go_loopw [3, 4, 17] (fun s3 _ q wr => ∃ k : Nat, k ≤ d ∧ q = .int .i64 k ∧ OwnT [.int .i64 m, .int .i64 d] 74 wr W.heap.size s3 (pwTs m d (Pl.pc t) (k + 1)) ∧ Below W.heap.size W wr) (fun _ _ q _ => d - (intOf q).toNat)
  case atStart => exact ⟨0, Nat.zero_le _, rfl, HO'.out, HBB.out⟩
  case round =>
    clear HO' HBB
    obtain ⟨k, hk, rfl, hown, hbel⟩ := hrel
    have HBE := Lib.hid hbel
    have HO := Lib.hid hown
    by_cases hkd : k < d
    · obtain ⟨g, cg, Ak, ck, rfl, k0, klo, k1, k2, k3, k4⟩ := hown.grid k (by rw [pwTs_length]; omega)
      rw [pwTs_get _ _ _ _ _ (by omega), Pl.pwT_length] at k3
      rw [pwTs_get _ _ _ _ _ (by omega)] at k4
      rw [pwTs_length] at HO ⊢
      obtain ⟨y1, y2, y3, y4⟩ := HG1.out.keep hbel
      have HTK := Lib.hid (HTM.out k Ak ck wr.drew (k4.below (below_drew0 wr)) (HR.out.below (below_step hbel (below_drew0 wr))))
      have hmul : Pl.tab m d (Pl.mul2 (Pl.pc (Pl.pwT m d (Pl.pc t) k)) (Pl.pc t)) = Pl.pwT m d (Pl.pc t) (k + 1) := rfl
      rw [hmul] at HTK
      have hst := pwTs_succ m d (Pl.pc t) (k + 1)
      obtain ⟨R, hR⟩ : ∃ R, Pl.pwT m d (Pl.pc t) (k + 1) = R := ⟨_, rfl⟩
      have hRl : R.length = d + 1 := by rw [← hR]; exact Pl.pwT_length _ _ _ _
      rw [hR] at HTK hst
      have HST := Lib.hid hst
      have j0 : (0 : Int) ≤ (k : Int) := by omega
      have j1 : (k : Int) < (d : Int) := by omega
      obtain ⟨n, hn⟩ : ∃ n, k + 1 = n := ⟨_, rfl⟩
      have j2 : (k : Int) < (n : Int) := by omega
      have j5 : k < n := by omega
      have HLEN := Lib.hid (show (pwTs m d (Pl.pc t) (k + 1)).length ≤ 1000000 by rw [pwTs_length]; omega)
      obtain ⟨P, hP⟩ : ∃ P, pwTs m d (Pl.pc t) (k + 1) = P := ⟨_, rfl⟩
      have hPn : P.length = k + 1 := by rw [← hP, pwTs_length]
      rw [hP] at HO HST HLEN
      rw [hn] at HO hPn ⊢
      have HPN := Lib.hid hPn
      have HSZ := Lib.hid HBE.out.size
      clear hst hmul hR hown hbel k4 hP hn hPn
      have X0 := Lib.hid (el_keep (below_drew0 wr) ⟨⟨k1, k2, k3, k0⟩, ⟨y1, y2, y3, y4⟩⟩)
      have HWL := Lib.hid (show w.heap.size < W.heap.size from HG1.out.2.2.2)
      clear y1 y2 y3 y4 k1 k2 k3
      go_wp2
      go_region_held3 (fun w' => (w'.cell? ⟨g, k * 3, none⟩ = some (.int .i64 m) ∧ w'.cell? ⟨g, k * 3 + 1, none⟩ = some (.int .i64 d) ∧ w'.cell? ⟨g, k * 3 + 2, none⟩ = some (.slice Ak (d + 1) ck) ∧ g < w'.heap.size) ∧ (w'.cell? ⟨w.heap.size, 0, none⟩ = some (.int .i64 m) ∧ w'.cell? ⟨w.heap.size, 1, none⟩ = some (.int .i64 d) ∧ w'.cell? ⟨w.heap.size, 2, none⟩ = some (.slice A L c) ∧ w.heap.size < w'.heap.size)) (first | exact X0.out | exact el_push hkp j5 HWL.out hpb (by assumption) | exact el_keep hb3 (by assumption) | exact el_keep (below_one _ _) (by assumption)) (first
        | (go_at_call 160; with_reducible refine Calls.mono HTK.out ?_; rintro e w3 ⟨v3, rfl, ho3, hb3⟩; obtain ⟨A3, c3, rfl, -⟩ := ho3.len; rw [hRl] at ho3 ⊢)
        | (refine step_pushK (pre := [.int .i64 m, .int .i64 d]) (e := 74) _ _ _ (by rfl) (by rfl) Try.underlying132 g_ne1 g_ne2 (.agg #[.int .i64 0, .int .i64 0, .slice none 0 0]) 40 infoGrid rfl (by decide) (pre_one m d) W.heap.size w3.heap.size g n cg P (by rfl) HPN.out ((HO.out.keep (below_step (below_drew0 wr) hb3)).keep (below_one _ _)) (.slice A3 (d + 1) c3) R ((ho3.low (Nat.le_trans HSZ.out (below_drew0 wr).size)).keep (below_one _ _)) (by simp) w3.heap.size (by rfl) (laid w3 [.int .i64 m, .int .i64 d, .slice A3 (d + 1) c3] _) HLEN.out (Nat.le_trans HSZ.out (below_step (below_step (below_drew0 wr) hb3) (below_one _ _)).size) ?_; intro v' w4 ho4 hpb hkp))
      all_goals
        have HO4 := Lib.hid ho4
        have HB4 := Lib.hid (show Below W.heap.size W w4 from (below_step HBE.out (below_step (below_step (below_drew0 wr) hb3) (below_one w3 (.cells #[.int .i64 m, .int .i64 d, .slice A3 (d + 1) c3] 74)))).trans hpb)
        clear ho4 hpb ho3 hb3
        go_wp2
        go_roundw
        case rel => exact ⟨k + 1, by omega, by go_num, by rw [HST.out]; exact HO4.out, HB4.out⟩
        case measure => simp only [intOf]; omega
    · obtain rfl : k = d := by omega
      clear hown hbel
      go_wp2
      go_ret
      exact ⟨_, rfl, HO.out.more HB.out.size, below_step HB.out HBE.out⟩
end Go.Proofs.Yteicllnbphljnaa

/- Contracts of the program's look for faults of brackets, and of all faults. -/
namespace Go.Proofs.Yteicllnbphljnaa
open Go.RowKit Go.WideShapes Go.ChangeShapes Go.ChangeAt

theorem br_bd {m : Int} {d : Nat} {t : List (List Int)} (hs : Pl.Ok m d t) (c a b : Nat) : ∀ k, 0 ≤ Ser.psum (fun i => Pl.pc t i c * Pl.pc (Pl.pwT m d (Pl.pc t) i) a b) k ∧ Ser.psum (fun i => Pl.pc t i c * Pl.pc (Pl.pwT m d (Pl.pc t) i) a b) k ≤ k * 100000000 := by
  intro k
  induction k with
  | zero => exact ⟨Int.le_refl _, Int.le_refl _⟩
  | succ k ih =>
    rw [Ser.psum]
    have h1 := hs.pc k c
    have h2 := (pwT_ok hs.m1 hs.m2 hs.d1 hs.d2 (Pl.pc t) k).pc a b
    have hm := hs.m2
    have h3 := mul_bd (x := Pl.pc t k c) (y := Pl.pc (Pl.pwT m d (Pl.pc t) k) a b) h1.1 (by omega) (by omega) (by omega)
    have h4 : 0 ≤ Pl.pc t k c * Pl.pc (Pl.pwT m d (Pl.pc t) k) a b := Int.mul_nonneg h1.1 h2.1
    omega
set_option maxHeartbeats 8000000 in
set_option maxRecDepth 100000 in
theorem bracketedAt_any (m : Int) (d : Nat) (A : Option Addr) (c : Nat) (t : List (List Int)) (v : Value) (lo : Nat) (a b z : Nat) (w : World) (hs : Pl.Ok m d t) (hr : RP w A t) (hp : OwnT [.int .i64 m, .int .i64 d] 74 w lo v (pwTs m d (Pl.pc t) (d + 1))) (hab : a + b ≤ d) (hz : z ≤ d) :
    Calls Try.prog 155 #[.agg #[.int .i64 m, .int .i64 d, .slice A t.length c], v, .int .i64 a, .int .i64 b, .int .i64 z] w fun e w' => e = .returned (.int .i64 (Pl.br m d (Pl.pc t) a b z)) ∧ Below w.heap.size w w' := by
  obtain ⟨b0, off, rfl⟩ := hr.some (by rw [hs.len]; omega)
  have HG1 := Lib.hid (GBox.new 74 w m d (some ⟨b0, off, none⟩) t.length c)
  have HWB := Lib.hid (below_one w (.cells #[.int .i64 m, .int .i64 d, .slice (some ⟨b0, off, none⟩) t.length c] 74))
  have HS := Lib.hid hs
  have hd2 := hs.d2
  have m1 := hs.m1
  have m2 := hs.m2
  have HLR := Lib.hid (fun W => lenRow_any m d z W (by have := hs.d2; omega) hz)
  have HBD := Lib.hid (br_bd hs z a b)
  obtain ⟨f, hf⟩ : ∃ f, (fun i => Pl.pc t i z * Pl.pc (Pl.pwT m d (Pl.pc t) i) a b) = f := ⟨_, rfl⟩
  rw [hf] at HBD
  have HF := Lib.hid (fun i => (congrFun hf i).symm)
  obtain ⟨N, hN⟩ : ∃ N, d - z + 1 = N := ⟨_, rfl⟩
  rw [hN] at HLR
  have HE : Hid (Ser.psum f N % m = Pl.br m d (Pl.pc t) a b z) := Lib.hid (by unfold Pl.br Pl.brS; rw [hf, show d + 1 - z = N by omega])
  have HNN := Lib.hid hN
  have hN1 : N ≤ 11 := by omega
  obtain ⟨L, hL⟩ : ∃ L, t.length = L := ⟨_, rfl⟩
  have HL := Lib.hid hL
  have HLd := Lib.hid (hL.symm.trans hs.len)
  rw [hL] at HG1 HWB ⊢
  obtain ⟨W, hW⟩ : ∃ W, w.alloc (.cells #[.int .i64 m, .int .i64 d, .slice (some ⟨b0, off, none⟩) L c] 74) = W := ⟨_, rfl⟩
  rw [hW] at HG1 HWB
  have HR := Lib.hid (hr.below HWB.out)
  have HP := Lib.hid (hp.keep HWB.out)
  have HW := Lib.hid hW
  have HB := HWB
  have j6 : (0 : Int) ≤ (z : Int) := by omega
  have j7 : (0 : Int) ≤ (a : Int) := by omega
  have j8 : (0 : Int) ≤ (b : Int) := by omega
  obtain ⟨B, hBe⟩ : ∃ B, Pl.br m d (Pl.pc t) a b z = B := ⟨_, rfl⟩
  rw [hBe] at HE ⊢
  clear hs hr hp hL hW hf hN hBe
  obtain ⟨x0, x1, x2, x3⟩ := HG1.out
  go_enter Try.func155, Try.ntmps155
  go_wp2_with fail
  rw [HW.out]
  refine (HLR.out _).mono ?_
  rintro e w1 ⟨rfl, hb1⟩
  have HB1 := Lib.hid hb1
  clear hb1 x0 x1 x2 x3
  go_wp2
  go_loopw [11, 12, 17] (fun s11 _ q wr => ∃ k : Nat, k ≤ N ∧ q = .int .i64 k ∧ s11 = .int .i64 (Ser.psum f k) ∧ Below W.heap.size W wr) (fun _ _ q _ => N - (intOf q).toNat)
  case atStart => exact ⟨0, Nat.zero_le _, rfl, rfl, HB1.out⟩
  case round =>
    clear HB1
    obtain ⟨k, hk, rfl, rfl, hbel⟩ := hrel
    have HBE := Lib.hid hbel
    by_cases hlt : k < N
    · have hNN := HNN.out
      obtain ⟨p1, p2, p3, M, hM, x1, x2, x3⟩ := (HG1.out.keep hbel).num' HL.out HS.out (HR.out.below hbel) k z (by omega)
      obtain ⟨g, cg, Ak, ck, hv, k0, klo, -, -, k3, k4⟩ := (HP.out.keep hbel).grid k (by rw [pwTs_length]; omega)
      rw [pwTs_get _ _ _ _ _ (by omega), Pl.pwT_length] at k3
      rw [pwTs_get _ _ _ _ _ (by omega)] at k4
      rw [pwTs_length] at hv
      have hpk := pwT_ok m1 m2 HS.out.d1 hd2 (Pl.pc t) k
      obtain ⟨b4, off4, b5, off5, c5, e4, -, k5, -, k6⟩ := k4.num a b (by rw [Pl.pwT_length]; omega) (by rw [hpk.row a (by omega)]; omega)
      subst e4
      rw [hpk.row a (by omega)] at k5
      have h0 := HBD.out k
      have h1 := HBD.out (k + 1)
      rw [Ser.psum] at h1
      have hfk := HF.out k
      have r1 := HS.out.pc k z
      have r2 := hpk.pc a b
      obtain ⟨X, hX⟩ : ∃ X, Pl.pc t k z = X := ⟨_, rfl⟩
      obtain ⟨Y, hY⟩ : ∃ Y, Pl.pc (Pl.pwT m d (Pl.pc t) k) a b = Y := ⟨_, rfl⟩
      rw [hX] at x3 hfk r1
      rw [hY] at k6 hfk r2
      have hst : Ser.psum f (k + 1) = Ser.psum f k + X * Y := by rw [Ser.psum, hfk]
      rw [hfk] at h1
      obtain ⟨P, hP⟩ : ∃ P, Ser.psum f k = P := ⟨_, rfl⟩
      rw [hP] at h0 h1 hst
      obtain ⟨q1, q2⟩ := mul_bd (x := X) (y := Y) r1.1 (by omega) (by omega) (by omega)
      have q3 : 0 ≤ X * Y := Int.mul_nonneg r1.1 r2.1
      obtain ⟨M5, hM5⟩ : ∃ M, d - a + 1 = M := ⟨_, rfl⟩
      rw [hM5] at k5
      obtain ⟨D, hD⟩ : ∃ D, d + 1 = D := ⟨_, rfl⟩
      rw [hD] at k3 hv
      have hLd := HLd.out
      have j0 : (0 : Int) ≤ (k : Int) := by omega
      have j1 : (k : Int) < (L : Int) := by omega
      have j2 : (z : Int) < (M : Int) := by omega
      have j3 : (k : Int) < (D : Int) := by omega
      have j4 : (a : Int) < (D : Int) := by omega
      have j5 : (b : Int) < (M5 : Int) := by omega
      have w1' : IntKind.i64.wrap (X * Y) = X * Y := by rw [IntKind.wrap_i64]; omega
      have w2' : IntKind.i64.wrap (P + X * Y) = P + X * Y := by rw [IntKind.wrap_i64]; omega
      have HST := Lib.hid hst
      have HPP := Lib.hid hP
      subst hv
      clear hst hX hY hfk hpk k4 hbel hM hM5 hD hNN hLd r1 r2 h0 h1 q1 q2 q3 hP
      rw [HPP.out]
      go_wp2
      go_quiet (fail)
      go_wp2
      go_roundw
      case rel => exact ⟨k + 1, by omega, by go_num, by rw [HST.out], below_drewN HBE.out _⟩
      case measure => simp only [intOf]; omega
    · obtain rfl : k = N := by omega
      obtain ⟨x0, x1, x2, x3⟩ := HG1.out.keep hbel
      have h0 := HBD.out k
      have he := HE.out
      obtain ⟨P, hP⟩ : ∃ P, Ser.psum f k = P := ⟨_, rfl⟩
      rw [hP] at h0 he ⊢
      have HEE := Lib.hid he
      clear hbel hP he HE
      go_wp2_with (first | (go_at_call 152; refine (remainder_any _ _ _ (by omega) m2 (by omega) (by omega)).mono ?_; rintro e w' ⟨rfl, rfl⟩))
      go_ret
      exact ⟨ret_int HEE.out, below_step HB.out HBE.out⟩

/-! the triples -/
namespace Pl
theorem fau2_in {m : Int} {d : Nat} {F : Nat → Nat → Int} {a : Nat} {o : Option (List Int)} (ha : a < d + 1) (h : srch (fau2 m d F) (d + 1 - a) a = o) :
    orE (srch (fau2b m d F a) (d + 1 - a) 0) (srch (fau2 m d F) (d + 1 - (a + 1)) (a + 1)) = o := by
  rw [show d + 1 - a = (d + 1 - (a + 1)) + 1 by omega, srch_step] at h
  unfold fau2 at h
  exact h
theorem fau2b_in {m : Int} {d : Nat} {F : Nat → Nat → Int} {a b : Nat} {r o : Option (List Int)} (hb : a + b < d + 1) (h : orE (srch (fau2b m d F a) (d + 1 - a - b) b) r = o) :
    orE (srch (fau2c m d F a b) (d + 1 - (a + b)) 0) (orE (srch (fau2b m d F a) (d + 1 - a - (b + 1)) (b + 1)) r) = o := by
  rw [show d + 1 - a - b = (d + 1 - a - (b + 1)) + 1 by omega, srch_step] at h
  unfold fau2b at h ⊢
  rw [← h]
  generalize srch (fau2c m d F a b) (d + 1 - (a + b)) 0 = p
  cases p <;> rfl
theorem fau2b_out {m : Int} {d : Nat} {F : Nat → Nat → Int} {a b : Nat} {r o : Option (List Int)} (hb : ¬ a + b < d + 1) (h : orE (srch (fau2b m d F a) (d + 1 - a - b) b) r = o) : r = o := by
  rw [show d + 1 - a - b = 0 by omega] at h
  exact h
theorem fau2c_go {m : Int} {d : Nat} {F : Nat → Nat → Int} {a b c : Nat} {r o : Option (List Int)} (hc : a + b + c < d + 1) (h : orE (srch (fau2c m d F a b) (d + 1 - (a + b) - c) c) r = o) (hx : br m d F a b c = br m d F c b a) : orE (srch (fau2c m d F a b) (d + 1 - (a + b) - (c + 1)) (c + 1)) r = o := by
  rw [show d + 1 - (a + b) - c = (d + 1 - (a + b) - (c + 1)) + 1 by omega, srch_step] at h
  unfold fau2c at h
  rw [if_pos hx, orE_none] at h
  exact h
theorem fau2c_no {m : Int} {d : Nat} {F : Nat → Nat → Int} {a b c : Nat} {r o : Option (List Int)} (hc : a + b + c < d + 1) (h : orE (srch (fau2c m d F a b) (d + 1 - (a + b) - c) c) r = o) (hx : ¬ br m d F a b c = br m d F c b a) : o = some [2, (a : Int), (b : Int), (c : Int)] := by
  rw [show d + 1 - (a + b) - c = (d + 1 - (a + b) - (c + 1)) + 1 by omega, srch_step] at h
  unfold fau2c at h
  rw [if_neg hx, orE_some, orE_some] at h
  exact h.symm
theorem fau2c_out {m : Int} {d : Nat} {F : Nat → Nat → Int} {a b c : Nat} {r o : Option (List Int)} (hc : ¬ a + b + c < d + 1) (h : orE (srch (fau2c m d F a b) (d + 1 - (a + b) - c) c) r = o) : r = o := by
  rw [show d + 1 - (a + b) - c = 0 by omega] at h
  exact h
end Pl
/-- a grid's box in the walk's form is kept -/
theorem gb_keep {w w' : World} {g : Nat} {x y z : Value} (hb : Below w.heap.size w w') (h : w.cell? ⟨g, 0, none⟩ = some x ∧ w.cell? ⟨g, 1, none⟩ = some y ∧ w.cell? ⟨g, 2, none⟩ = some z ∧ g < w.heap.size) :
    w'.cell? ⟨g, 0, none⟩ = some x ∧ w'.cell? ⟨g, 1, none⟩ = some y ∧ w'.cell? ⟨g, 2, none⟩ = some z ∧ g < w'.heap.size :=
  ⟨(hb.cell (p := ⟨g, 0, none⟩) h.2.2.2).trans h.1, (hb.cell (p := ⟨g, 1, none⟩) h.2.2.2).trans h.2.1, (hb.cell (p := ⟨g, 2, none⟩) h.2.2.2).trans h.2.2.1, Nat.lt_of_lt_of_le h.2.2.2 hb.size⟩
theorem gbb_keep {w0 w w' : World} {g : Nat} {x y z : Value} (hb : Below w.heap.size w w') (h : (w.cell? ⟨g, 0, none⟩ = some x ∧ w.cell? ⟨g, 1, none⟩ = some y ∧ w.cell? ⟨g, 2, none⟩ = some z ∧ g < w.heap.size) ∧ Below w0.heap.size w0 w) :
    (w'.cell? ⟨g, 0, none⟩ = some x ∧ w'.cell? ⟨g, 1, none⟩ = some y ∧ w'.cell? ⟨g, 2, none⟩ = some z ∧ g < w'.heap.size) ∧ Below w0.heap.size w0 w' := ⟨gb_keep hb h.1, below_step h.2 hb⟩
theorem snd2 {p q : Prop} (h : p ∧ q) : q := h.2
set_option maxHeartbeats 8000000 in
set_option maxRecDepth 100000 in
theorem wrongTriple_any (m : Int) (d : Nat) (A : Option Addr) (c : Nat) (t : List (List Int)) (w : World) (hs : Pl.Ok m d t) (hr : RP w A t) :
    Calls Try.prog 139 #[.agg #[.int .i64 m, .int .i64 d, .slice A t.length c]] w fun e w' => ∃ v, e = .returned v ∧ FauV w' w.heap.size v (Pl.fauT m d (Pl.pc t)) ∧ Below w.heap.size w w' := by
  have HG1 := Lib.hid (GBox.new 74 w m d A t.length c)
  have HWB := Lib.hid (below_one w (.cells #[.int .i64 m, .int .i64 d, .slice A t.length c] 74))
  have hd2 := hs.d2
  have HLR := Lib.hid (fun (k : Nat) W (hk : k ≤ d) => lenRow_any m d k W (by have := hs.d2; omega) hk)
  have HBR := Lib.hid (fun (v : Value) (lo a b z : Nat) (W0 : World) (h : RP W0 A t) (h' : OwnT [.int .i64 m, .int .i64 d] 74 W0 lo v (pwTs m d (Pl.pc t) (d + 1))) (hab : a + b ≤ d) (hz : z ≤ d) => bracketedAt_any m d A c t v lo a b z W0 hs h h' hab hz)
  obtain ⟨o, ho⟩ : ∃ o, Pl.fauT m d (Pl.pc t) = o := ⟨_, rfl⟩
  have HO := Lib.hid (show Pl.srch (Pl.fau2 m d (Pl.pc t)) (d + 1 - 0) 0 = o from ho)
  rw [ho]
  have HPW := Lib.hid (fun W0 (h : RP W0 A t) => powers_any m d A c t W0 hs h)
  obtain ⟨L, hL⟩ : ∃ L, t.length = L := ⟨_, rfl⟩
  rw [hL] at HG1 HWB HBR HPW ⊢
  obtain ⟨W, hW⟩ : ∃ W, w.alloc (.cells #[.int .i64 m, .int .i64 d, .slice A L c] 74) = W := ⟨_, rfl⟩
  rw [hW] at HG1 HWB
  have HR := Lib.hid (hr.below HWB.out)
  have HW := Lib.hid hW
  have HB := HWB
  clear hs hr hL hW ho
  obtain ⟨x0, x1, x2, x3⟩ := HG1.out
  go_enter Try.func139, Try.ntmps139
  go_wp2_with fail
  rw [HW.out]
  refine (HPW.out _ HR.out).mono ?_
  rintro e w1 ⟨v, rfl, hp, hb1⟩
  obtain ⟨Av, cv, rfl⟩ := hp.form
  have HP := Lib.hid hp
  obtain ⟨V, hV⟩ : ∃ V, Value.slice Av (pwTs m d (Pl.pc t) (d + 1)).length cv = V := ⟨_, rfl⟩
  rw [hV] at HP
  have HV := Lib.hid hV
  have HB1 := Lib.hid hb1
  clear x0 x1 x2 x3 hp hV
  obtain ⟨x0, x1, x2, x3⟩ := HG1.out.keep hb1
  rw [HV.out]
  go_wp2
  clear x0 x1 x2 x3 hb1
  go_loopw [4, 5, 6, 13] (fun _ _ _ q wr => ∃ a : Nat, a ≤ d + 1 ∧ q = .int .i64 a ∧ Pl.srch (Pl.fau2 m d (Pl.pc t)) (d + 1 - a) a = o ∧ Below w1.heap.size w1 wr) (fun _ _ _ q _ => d + 1 - (intOf q).toNat)
  case atStart => exact ⟨0, Nat.zero_le _, rfl, HO.out, Below.refl _ _⟩
  case round =>
    clear HO
    obtain ⟨a, ha, rfl, hso, hbel⟩ := hrel
    have HBE := Lib.hid hbel
    by_cases hlt : a < d + 1
    · have HIN := Lib.hid (Pl.fau2_in hlt hso)
      have HLK := Lib.hid (fun W => HLR.out a W (by omega))
      obtain ⟨N, hN⟩ : ∃ N, d - a + 1 = N := ⟨_, rfl⟩
      rw [hN] at HLK
      have HNN := Lib.hid hN
      have hN1 : N ≤ 11 := by omega
      have j1 : (a : Int) < (d : Int) + 1 := by omega
      obtain ⟨r, hr⟩ : ∃ r, Pl.srch (Pl.fau2 m d (Pl.pc t)) (d + 1 - (a + 1)) (a + 1) = r := ⟨_, rfl⟩
      rw [hr] at HIN
      have HRR := Lib.hid hr
      obtain ⟨x0, x1, x2, x3⟩ := HG1.out.keep (below_step HB1.out HBE.out)
      clear hN hso hr hbel
      go_wp2_with fail
      refine (HLK.out _).mono ?_
      rintro e w2 ⟨rfl, hb2⟩
      have HB2 := Lib.hid (below_step HBE.out hb2)
      clear hb2 x0 x1 x2 x3
      go_wp2
      go_loopw [5, 6, 20] (fun _ _ q wr => ∃ b : Nat, b ≤ N ∧ q = .int .i64 b ∧ Pl.orE (Pl.srch (Pl.fau2b m d (Pl.pc t) a) (d + 1 - a - b) b) r = o ∧ Below w1.heap.size w1 wr) (fun _ _ q _ => N - (intOf q).toNat)
      case atStart => exact ⟨0, Nat.zero_le _, rfl, HIN.out, HB2.out⟩
      case round =>
        clear HIN HBE HB2
        obtain ⟨b, hb, rfl, hso, hbel⟩ := hrel
        have HBE := Lib.hid hbel
        have hNN := HNN.out
        by_cases hltb : b < N
        · have HIN := Lib.hid (Pl.fau2b_in (show a + b < d + 1 by omega) hso)
          have HLB := Lib.hid (fun W => HLR.out (a + b) W (by omega))
          have hcast : ((a + b : Nat) : Int) = (a : Int) + (b : Int) := by omega
          rw [hcast] at HLB
          obtain ⟨M, hM⟩ : ∃ M, d - (a + b) + 1 = M := ⟨_, rfl⟩
          rw [hM] at HLB
          have HMM := Lib.hid hM
          have hM1 : M ≤ 11 := by omega
          have j2 : (b : Int) < (N : Int) := by omega
          obtain ⟨r2, hr2⟩ : ∃ r2, Pl.orE (Pl.srch (Pl.fau2b m d (Pl.pc t) a) (d + 1 - a - (b + 1)) (b + 1)) r = r2 := ⟨_, rfl⟩
          rw [hr2] at HIN
          have HRR2 := Lib.hid hr2
          obtain ⟨x0, x1, x2, x3⟩ := HG1.out.keep (below_step HB1.out HBE.out)
          clear hM hso hr2 hbel hNN hcast
          go_wp2_with fail
          refine (HLB.out _).mono ?_
          rintro e w2 ⟨rfl, hb2⟩
          have HB2 := Lib.hid (below_step HBE.out hb2)
          clear hb2 x0 x1 x2 x3
          go_wp2
          go_loopw [6, 29] (fun _ q wr => ∃ z : Nat, z ≤ M ∧ q = .int .i64 z ∧ Pl.orE (Pl.srch (Pl.fau2c m d (Pl.pc t) a b) (d + 1 - (a + b) - z) z) r2 = o ∧ Below w1.heap.size w1 wr) (fun _ q _ => M - (intOf q).toNat)
          case atStart => exact ⟨0, Nat.zero_le _, rfl, HIN.out, HB2.out⟩
          case round =>
            clear HIN HBE HB2
            obtain ⟨z, hz, rfl, hso, hbel⟩ := hrel
            have HBE := Lib.hid hbel
            have hNN := HNN.out
            have hMM := HMM.out
            by_cases hltz : z < M
            · have hgo := Pl.fau2c_go (show a + b + z < d + 1 by omega) hso
              have hno := Pl.fau2c_no (show a + b + z < d + 1 by omega) hso
              have H1 := Lib.hid (fun W0 (h : Below w1.heap.size w1 W0) => HBR.out V W.heap.size a b z W0 ((HR.out.below HB1.out).below h) (HP.out.keep h) (by omega) (by omega))
              have H2 := Lib.hid (fun W0 (h : Below w1.heap.size w1 W0) => HBR.out V W.heap.size z b a W0 ((HR.out.below HB1.out).below h) (HP.out.keep h) (by omega) (by omega))
              obtain ⟨X, hX⟩ : ∃ X, Pl.br m d (Pl.pc t) a b z = X := ⟨_, rfl⟩
              obtain ⟨Y, hY⟩ : ∃ Y, Pl.br m d (Pl.pc t) z b a = Y := ⟨_, rfl⟩
              rw [hX] at H1
              rw [hY] at H2
              rw [hX, hY] at hgo hno
              have X0 := Lib.hid (gbb_keep (below_drew0 wr) ⟨HG1.out.keep (below_step HB1.out hbel), hbel⟩)
              have hz1 : z ≤ 11 := by omega
              clear hX hY hso hbel hNN hMM
              by_cases hxy : X = Y
              · have HNX := Lib.hid (hgo hxy)
                subst hxy
                clear hgo hno
                go_wp2
                go_region_held3 (fun w' => (w'.cell? ⟨w.heap.size, 0, none⟩ = some (.int .i64 m) ∧ w'.cell? ⟨w.heap.size, 1, none⟩ = some (.int .i64 d) ∧ w'.cell? ⟨w.heap.size, 2, none⟩ = some (.slice A L c) ∧ w.heap.size < w'.heap.size) ∧ Below w1.heap.size w1 w') (first | exact X0.out | exact gbb_keep hb5 (by assumption) | exact gbb_keep hb4 (by assumption)) (first
                  | (go_at_call 155; with_reducible refine Calls.mono (H1.out _ (snd2 (by assumption))) ?_; rintro e w4 ⟨rfl, hb4⟩)
                  | (go_at_call 155; with_reducible refine Calls.mono (H2.out _ (snd2 (by assumption))) ?_; rintro e w5 ⟨rfl, hb5⟩))
                all_goals
                  have HB9 := Lib.hid (show Below w1.heap.size w1 _ from snd2 (by assumption))
                  clear hb4 hb5
                  go_wp2
                  go_roundw
                  case rel => exact ⟨z + 1, by omega, by go_num, HNX.out, HB9.out⟩
                  case measure => simp only [intOf]; omega
              · have HNX := Lib.hid (hno hxy)
                obtain ⟨n1, n2⟩ : (X == Y) = false ∧ (X != Y) = true := ⟨by simpa using hxy, by simpa using hxy⟩
                clear hgo hno
                go_wp2
                go_region_held3 (fun w' => (w'.cell? ⟨w.heap.size, 0, none⟩ = some (.int .i64 m) ∧ w'.cell? ⟨w.heap.size, 1, none⟩ = some (.int .i64 d) ∧ w'.cell? ⟨w.heap.size, 2, none⟩ = some (.slice A L c) ∧ w.heap.size < w'.heap.size) ∧ Below w1.heap.size w1 w') (first | exact X0.out | exact gbb_keep hb5 (by assumption) | exact gbb_keep hb4 (by assumption)) (first
                  | (go_at_call 155; with_reducible refine Calls.mono (H1.out _ (snd2 (by assumption))) ?_; rintro e w4 ⟨rfl, hb4⟩)
                  | (go_at_call 155; with_reducible refine Calls.mono (H2.out _ (snd2 (by assumption))) ?_; rintro e w5 ⟨rfl, hb5⟩))
                all_goals
                  have HB9 := Lib.hid (show Below w1.heap.size w1 _ from snd2 (by assumption))
                  clear hb4 hb5
                  go_wp2
                  go_ret
                  exact ⟨_, rfl, by rw [HNX.out]; exact ⟨_, _, rfl, (OwnI.lit4 _ 2 (a : Int) (b : Int) (z : Int)).more (below_step (below_step HB.out HB1.out) HB9.out).size⟩, below_step (below_step HB.out HB1.out) (below_alloc _ HB9.out)⟩
            · have HNX := Lib.hid (HRR2.out.trans (Pl.fau2c_out (show ¬ a + b + z < d + 1 by omega) hso))
              have j3 : ¬ (z : Int) < (M : Int) := by omega
              clear hso hbel hNN hMM
              go_wp2
              go_roundw
              case rel => exact ⟨b + 1, by omega, by go_num, HNX.out, HBE.out⟩
              case measure => simp only [intOf]; omega
        · have HNX := Lib.hid (HRR.out.trans (Pl.fau2b_out (show ¬ a + b < d + 1 by omega) hso))
          have j3 : ¬ (b : Int) < (N : Int) := by omega
          clear hso hbel hNN
          go_wp2
          go_roundw
          case rel => exact ⟨a + 1, by omega, by go_num, HNX.out, HBE.out⟩
          case measure => simp only [intOf]; omega
    · obtain rfl : a = d + 1 := by omega
      rw [Nat.sub_self] at hso
      have HNO := Lib.hid (show o = none from hso.symm)
      clear hso hbel
      go_wp2
      go_ret
      exact ⟨_, rfl, by rw [HNO.out]; exact rfl, below_step (below_step HB.out HB1.out) HBE.out⟩
set_option maxHeartbeats 4000000 in
set_option maxRecDepth 100000 in
theorem fault_any (m : Int) (d : Nat) (A : Option Addr) (c : Nat) (t : List (List Int)) (w : World) (hs : Pl.Ok m d t) (hr : RP w A t) :
    Calls Try.prog 92 #[.agg #[.int .i64 m, .int .i64 d, .slice A t.length c]] w fun e w' => ∃ v, e = .returned v ∧ FauV w' w.heap.size v (Pl.fau m d (Pl.pc t)) ∧ Below w.heap.size w w' := by
  have HG1 := Lib.hid (GBox.new 74 w m d A t.length c)
  have HWB := Lib.hid (below_one w (.cells #[.int .i64 m, .int .i64 d, .slice A t.length c] 74))
  have H1 := Lib.hid (fun W0 (h : RP W0 A t) => wrongPower_any m d A c t W0 hs h)
  have H2 := Lib.hid (fun W0 (h : RP W0 A t) => wrongPair_any m d A c t W0 hs h)
  have H3 := Lib.hid (fun W0 (h : RP W0 A t) => wrongTriple_any m d A c t W0 hs h)
  unfold Pl.fau
  obtain ⟨o1, ho1⟩ : ∃ o, Pl.fauP d (Pl.pc t) = o := ⟨_, rfl⟩
  obtain ⟨o2, ho2⟩ : ∃ o, Pl.fauS d (Pl.pc t) = o := ⟨_, rfl⟩
  obtain ⟨o3, ho3⟩ : ∃ o, Pl.fauT m d (Pl.pc t) = o := ⟨_, rfl⟩
  rw [ho1] at H1 ⊢
  rw [ho2] at H2 ⊢
  rw [ho3] at H3 ⊢
  obtain ⟨L, hL⟩ : ∃ L, t.length = L := ⟨_, rfl⟩
  rw [hL] at HG1 HWB H1 H2 H3 ⊢
  obtain ⟨W, hW⟩ : ∃ W, w.alloc (.cells #[.int .i64 m, .int .i64 d, .slice A L c] 74) = W := ⟨_, rfl⟩
  rw [hW] at HG1 HWB
  have HR := Lib.hid (hr.below HWB.out)
  have HW := Lib.hid hW
  have HB := HWB
  clear hs hr hL hW ho1 ho2 ho3
  obtain ⟨x0, x1, x2, x3⟩ := HG1.out
  go_enter Try.func92, Try.ntmps92
  go_wp2_with fail
  rw [HW.out]
  refine (H1.out _ HR.out).mono ?_
  rintro e w1 ⟨v1, rfl, hf1, hb1⟩
  cases o1 with
  | some x =>
    obtain ⟨b, cb, rfl, hown⟩ := hf1
    have HO := Lib.hid (hown.more HB.out.size)
    have HB1 := Lib.hid (below_step HB.out hb1)
    clear hown hb1 x0 x1 x2 x3
    go_wp2
    go_ret
    exact ⟨_, rfl, ⟨_, _, rfl, HO.out⟩, HB1.out⟩
  | none =>
    subst hf1
    have HB1 := Lib.hid hb1
    clear x0 x1 x2 x3 hb1
    obtain ⟨x0, x1, x2, x3⟩ := HG1.out.keep HB1.out
    go_wp2_with fail
    refine (H2.out _ (HR.out.below HB1.out)).mono ?_
    rintro e w2 ⟨v2, rfl, hf2, hb2⟩
    have HB2 := Lib.hid (below_step HB1.out hb2)
    clear x0 x1 x2 x3 hb2
    cases o2 with
    | some x =>
      obtain ⟨b, cb, rfl, hown⟩ := hf2
      have HO := Lib.hid (hown.more (below_step HB.out HB1.out).size)
      clear hown
      go_wp2
      go_ret
      exact ⟨_, rfl, ⟨_, _, rfl, HO.out⟩, below_step HB.out HB2.out⟩
    | none =>
      subst hf2
      obtain ⟨x0, x1, x2, x3⟩ := HG1.out.keep HB2.out
      go_wp2_with fail
      refine (H3.out _ (HR.out.below HB2.out)).mono ?_
      rintro e w3 ⟨v3, rfl, hf3, hb3⟩
      have HB3 := Lib.hid (below_step (below_step HB.out HB2.out) hb3)
      have HF : Hid (FauV w3 w.heap.size v3 o3) := Lib.hid (by
        cases o3 with
        | none => exact hf3
        | some x =>
          obtain ⟨b, cb, rfl, hown⟩ := hf3
          exact ⟨b, cb, rfl, hown.more (below_step HB.out HB2.out).size⟩)
      clear hf3 hb3 x0 x1 x2 x3
      go_wp2
      go_ret
      exact ⟨_, rfl, HF.out, HB3.out⟩
end Go.Proofs.Yteicllnbphljnaa

/- Contracts of the model's tables of a law: a list shorter than its degree put upon a plane; columns; the code of a law. -/
namespace Go.Proofs.Yteicllnbphljnaa
open Go.RowKit Go.WideShapes Go.ChangeShapes Go.ChangeAt

set_option maxHeartbeats 8000000 in
set_option maxRecDepth 100000 in
theorem l03AfterQ_any (m : Int) (d : Nat) (A : Option Addr) (c : Nat) (l : List Int) (A' : Option Addr) (c' : Nat) (t : List (List Int)) (w : World) (hn : l.length ≤ d + 1) (hred : Ser.Red m l) (hs' : Pl.Ok m d t) (hr : RI w A l) (hr' : RP w A' t) :
    Calls Try.prog 140 #[.int .i64 m, .slice A l.length c, .slice A' t.length c'] w fun e w' => ∃ v, e = .returned v ∧ OwnR w' w.heap.size w'.heap.size v (Pl.horq m d l (Pl.pc t) l.length) ∧ Below w.heap.size w w' := by
  have HR := Lib.hid hr
  have HR' := Lib.hid hr'
  have HRED := Lib.hid hred
  have HS' := Lib.hid hs'
  have hd2 := hs'.d2
  have m1 := hs'.m1
  have m2 := hs'.m2
  have hm0 : ¬ m = 0 := by omega
  have HZ := Lib.hid (l03Zero_any m d w (by omega))
  have HT := Lib.hid (fun (k : Nat) (A1 : Option Addr) (c1 : Nat) (W0 : World) (h : RP W0 A1 (Pl.horq m d l (Pl.pc t) k)) (h' : RP W0 A' t) => by
    have := l03Times_any m d A1 c1 (Pl.horq m d l (Pl.pc t) k) A' c' t W0 (Pl.horq_ok m1 m2 hs'.d1 hd2 l _ k) hs' h h'
    rw [Pl.horq_length] at this
    exact this)
  have hst0 := fun k => Pl.horq_step (m := m) (d := d) l (Pl.pc t) k
  obtain ⟨L, hL⟩ : ∃ L, l.length = L := ⟨_, rfl⟩
  rw [hL] at hst0 hn
  have HST0 := Lib.hid hst0
  obtain ⟨L', hL'⟩ : ∃ L, t.length = L := ⟨_, rfl⟩
  have hLd' : (L' : Int) - 1 = (d : Int) := by have := hs'.len; omega
  have hLb : L ≤ 11 := by omega
  rw [hL'] at HT
  rw [hL, hL']
  have HL := Lib.hid hL
  clear hr hr' hs' hL hL' hred hst0
  go_enter Try.func140, Try.ntmps140
  go_wp2_with fail
  refine HZ.out.mono ?_
  rintro e w1 ⟨v, rfl, ho, hb⟩
  obtain ⟨A0, c0, rfl, -⟩ := ho.len
  rw [Pl.tab_length] at ho ⊢
  have HO1 := Lib.hid (show OwnR w1 w.heap.size w1.heap.size (.slice A0 (d + 1) c0) (Pl.horq m d l (Pl.pc t) 0) from ho)
  have HB1 := Lib.hid hb
  clear ho hb
  go_wp2
  go_loopw [7, 8] (fun s7 s8 wr => ∃ (k t0 : Nat) (I : Int) (A1 : Option Addr) (c1 : Nat), k + t0 = L ∧ I = (t0 : Int) - 1 ∧ s8 = .int .i64 I ∧ s7 = .slice A1 (d + 1) c1 ∧ OwnR wr w.heap.size wr.heap.size (.slice A1 (d + 1) c1) (Pl.horq m d l (Pl.pc t) k) ∧ Below w.heap.size w wr) (fun _ s8 _ => (intOf s8 + 1).toNat)
  case atStart => exact ⟨0, L, _, A0, c0, by omega, rfl, by first | rfl | go_num, rfl, HO1.out, HB1.out⟩
  case round =>
    clear HO1 HB1
    obtain ⟨k, t0, I, A1, c1, hkt, hI, rfl, rfl, hown, hbel⟩ := hrel
    have HB := Lib.hid hbel
    have HO := Lib.hid hown
    clear hown hbel
    rcases t0 with _ | i
    · obtain rfl : k = L := by omega
      obtain rfl : I = -1 := by omega
      clear hI hkt
      go_wp2
      go_ret
      exact ⟨_, rfl, HO.out, HB.out⟩
    · obtain rfl : I = (i : Int) := by omega
      have hik : L - 1 - k = i := by omega
      have hiL : i < L := by omega
      have HTK := Lib.hid (HT.out k A1 c1 wr (by obtain ⟨_, _, e, h⟩ := HO.out.len; injection e with e1 e2 e3; subst e1; exact h) (HR'.out.below HB.out))
      have hst := HST0.out k
      rw [hik] at hst
      obtain ⟨F, hF⟩ : ∃ F, Pl.mul2 (Pl.pc (Pl.horq m d l (Pl.pc t) k)) (Pl.pc t) = F := ⟨_, rfl⟩
      rw [hF] at HTK hst
      have HST := Lib.hid hst
      have HKT := Lib.hid hkt
      clear hI hst hF hik hkt
      go_wp2_with fail
      refine HTK.out.mono ?_
      rintro e w3 ⟨v3, rfl, ho3, hb3⟩
      obtain ⟨g, cv, rfl⟩ := ho3.openv (by rw [Pl.tab_length]; omega)
      rw [Pl.tab_length] at ho3 ⊢
      obtain ⟨b4, c4, h1, h2, h3, h4, hcel⟩ := ho3.numB 0 0 (d + 1) (by rw [Pl.tab_length]; omega) (by rw [Pl.tab_row m d _ 0 (by omega), Ser.cut_length]; omega) (by omega)
      obtain ⟨a4, -, -, -⟩ := hcel w3 (Below.refl _ _)
      obtain ⟨k4, k5, k6, k7⟩ := hcel w3.drew (below_drew0 w3)
      obtain ⟨b', off', rfl, hbb', hci⟩ := HR.out.at i (by have := HL.out; omega)
      have hc := ((below_step HB.out hb3).cell (p := ⟨b', off' + i, none⟩) hbb').trans hci
      have hst := HST.out
      obtain ⟨Z, hZ⟩ : ∃ Z, Ser.co l i = Z := ⟨_, rfl⟩
      have hzb := HRED.out i
      have hyb := (HS'.out.tab F).pc 0 0
      obtain ⟨Y, hY⟩ : ∃ Y, Pl.pc (Pl.tab m d F) 0 0 = Y := ⟨_, rfl⟩
      rw [hZ] at hc hst hzb
      rw [hY] at hst hyb k5
      have h8 := k7 ((Y + Z) % m)
      rw [hst] at h8
      have hwr := HB.out.size
      have HO2 := Lib.hid ((h8.low hwr).more (show w3.heap.size ≤ (w3.drew.setCell ⟨b4, 0, none⟩ (.int .i64 ((Y + Z) % m))).heap.size by show w3.heap.size ≤ (w3.heap.modify _ _).size; simp))
      have HB2 := Lib.hid ((below_step HB.out hb3).drew.setCell (p := ⟨b4, 0, none⟩) (Nat.le_trans hwr h2) (.int .i64 ((Y + Z) % m)))
      have p2 : IntKind.i64.wrap (Y + Z) = Y + Z := by rw [IntKind.wrap_i64]; omega
      have p3 : 0 ≤ Y + Z := by omega
      have p4 : (0 : Int) < (d : Int) + 1 := by omega
      have p5 : (0 : Int) ≤ (i : Int) := by omega
      have p6 : (i : Int) < (L : Int) := by omega
      clear hiL
      clear hcel k4 k7 h8 hst hzb hyb hZ hY hbb' hci ho3 hb3 h1 h2 h3 h4 hwr
      go_wp2
      go_still_tail 12, (by kernel_rfl)
      change wpList _ _ _ _ _ w3.drew
      go_wp2
      go_roundw
      case rel => exact ⟨k + 1, i, _, _, cv, by have := HKT.out; omega, rfl, by first | rfl | go_num, rfl, HO2.out, HB2.out⟩
      case measure => simp only [intOf]; omega
end Go.Proofs.Yteicllnbphljnaa

