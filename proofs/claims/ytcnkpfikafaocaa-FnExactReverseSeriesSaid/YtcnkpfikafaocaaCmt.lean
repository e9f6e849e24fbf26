/- Contracts of ComposeSeries, of the model. -/
import Derived.Test.YtcnkpfikafaocaaCms
import Derived.Test.YtcnkpfikafaocaaSis
namespace Go.Proofs.Ytcnkpfikafaocaa
open Go.RowKit Go.WideShapes Go.ChangeShapes Go.ChangeAt

set_option maxHeartbeats 8000000 in
set_option maxRecDepth 100000 in
theorem l02Compose_any (m : Int) (D : Nat) (A : Option Addr) (c : Nat) (l : List Int) (A' : Option Addr) (c' : Nat) (l' : List Int) (w : World) (m1 : 2 ≤ m) (m2 : m ≤ 10000) (hD : D ≤ 1000) (hl : D + 1 ≤ l.length) (hl2 : l.length ≤ 1000) (hl' : l'.length ≤ 1000) (hs : Ser.Red m l) (hs' : Ser.Red m l') (hz : Ser.co l' 0 = 0) (hr : RI w A l) (hr' : RI w A' l') :
    Calls Try.prog 84 #[.int .i64 m, .slice A l.length c, .slice A' l'.length c', .int .i64 D] w fun e w' => ∃ v, e = .returned v ∧ OwnI w' w.heap.size v (Ser.horC m D (Ser.co l) (Ser.co l') (D + 1)) ∧ Below w.heap.size w w' := by
  have HS := Lib.hid hs
  have HS' := Lib.hid hs'
  have HR := Lib.hid hr
  have HR' := Lib.hid hr'
  have HZ := Lib.hid hz
  have hm0 : ¬ m = 0 := by omega
  have hmk : ∀ W : World, (Instr.makeSlice 24 (.int .i64 ((D : Int) + 1)) (.int .i64 ((D : Int) + 1))).run Try.prog W = .ok (.slice (some ⟨W.heap.size, 0, none⟩) (D + 1) (D + 1)) (W.alloc (.cells (madeCells #[.int .i64 0] (D + 1)) 2)) := by
    intro W
    have := run_make_row' (P := Try.prog) 24 2 (.int .i64 0) 8 Try.underlying24 info64 rfl .i64 .i64 (D + 1) (by omega) (by omega) W
    rwa [show ((D + 1 : Nat) : Int) = (D : Int) + 1 by omega] at this
  have HO0 := Lib.hid (OwnI.made w (D + 1) (by unfold maxLen; omega))
  clear hs hs' hr hr' hz
  go_enter Try.func84, Try.ntmps84
  go_wp2
  all_goals
    go_loopw [9, 10] (fun s9 s10 wr => ∃ (j t : Nat) (I : Int), j + t = D + 1 ∧ I = (t : Int) - 1 ∧ s10 = .int .i64 I ∧ OwnI wr w.heap.size s9 (Ser.horC m D (Ser.co l) (Ser.co l') j) ∧ Below w.heap.size w wr) (fun _ s10 _ => (intOf s10 + 1).toNat)
    case atStart => exact ⟨0, D + 1, _, by omega, by omega, rfl, HO0.out, below_one _ _⟩
    case round =>
      obtain ⟨j, t, I, hjt, hI, rfl, own, hbl⟩ := hrel
      have OW := Lib.hid own
      have HB := Lib.hid hbl
      clear own hbl hmk HO0
      rcases t with _ | i
      · obtain rfl : j = D + 1 := by omega
        obtain rfl : I = -1 := by omega
        clear hI hjt
        go_wp2
        go_ret
        exact ⟨_, rfl, OW.out, HB.out⟩
      · obtain rfl : I = (i : Int) := by omega
        clear hI
        obtain ⟨A1, c1, rfl, r1⟩ := OW.out.form
        have hred := Ser.horC_red (m := m) (by omega) D (Ser.co l) (Ser.co l') HS.out j
        have ht := l02Times_any m D A1 c1 _ A' c' l' wr m1 m2 hD (by rw [Ser.horC_length]; omega) hl' hred HS'.out r1 (HR'.out.below HB.out)
        have HT := Lib.hid ht
        obtain ⟨L3, hL3⟩ : ∃ L3, Ser.mulL m D (Ser.horC m D (Ser.co l) (Ser.co l') j) l' = L3 := ⟨_, rfl⟩
        have hlen3 : L3.length = D + 1 := by rw [← hL3, Ser.mulL_length]
        have h30 : L3[0]?.getD 0 = 0 := by
          have : Ser.co L3 0 = 0 := by rw [← hL3]; unfold Ser.mulL; rw [Ser.co_cut (Nat.zero_le _), Ser.mul_at, Ser.cv_zero, HZ.out, Int.mul_zero, Int.zero_emod]
          exact this
        rw [hL3] at HT
        have hst : L3.set 0 (Ser.co l i) = Ser.horC m D (Ser.co l) (Ser.co l') (j + 1) := by
          rw [← hL3]
          have e : D - j = i := by omega
          show (Ser.cut m D (Ser.mul (Ser.co (Ser.horC m D (Ser.co l) (Ser.co l') j)) (Ser.co l'))).set 0 (Ser.co l i) = (Ser.cut m D (Ser.mul (Ser.co (Ser.horC m D (Ser.co l) (Ser.co l') j)) (Ser.co l'))).set 0 (Ser.co l (D - j))
          rw [e]
        clear ht hL3 r1 hred
        go_wp2_with fail
        refine HT.out.mono ?_
        rintro e w3 ⟨s3, rfl, ho3, hb3⟩
        obtain ⟨g3, c3, rfl⟩ := ho3.openv (by intro h; rw [h] at hlen3; simp at hlen3)
        have hb9 := below_step HB.out hb3
        obtain ⟨b, off, rfl, hbb, hci⟩ := (HR.out.below hb9).at i (by omega)
        obtain ⟨Z, hZ⟩ : ∃ Z, Ser.co l i = Z := ⟨_, rfl⟩
        obtain ⟨zz1, zz2⟩ := HS.out i
        rw [hZ] at hci hst zz1 zz2
        rw [hlen3] at ho3 ⊢
        obtain ⟨-, -, o3, o4⟩ := ho3.cells
        have d1 := o3 0 (by omega)
        rw [h30] at d1
        have f1 := o4 0
        have hset := ho3.set 0 Z
        rw [hst] at hset
        have hg3 := (ho3.lt g3 rfl).1
        have hwr := HB.out.size
        have HSET := Lib.hid (hset.more hwr)
        have BX := Lib.hid (hb9.setCell (p := ⟨g3, 0, none⟩) (by show w.heap.size ≤ g3; omega) (.int .i64 Z)).drew
        have hzm : Z % m = Z := Int.emod_eq_of_lt zz1 zz2
        have hzm2 : Z.tmod m = Z := by rw [Int.tmod_eq_emod_of_nonneg zz1]; exact hzm
        have w0 : (0 : Int) + Z = Z := Int.zero_add _
        have w1 : IntKind.i64.wrap Z = Z := by rw [IntKind.wrap_i64]; omega
        have j0 : (0 : Int) ≤ (i : Int) := by omega
        have j1 : (i : Int) < (l.length : Int) := by omega
        have j2 : (0 : Int) < (D : Int) + 1 := by omega
        clear ho3 hb3 hb9 hZ hst o3 o4 hset h30
        go_wp2
        go_still_tail 12, (by kernel_rfl)
        change wpList _ _ _ _ _ w3.drew
        go_wp2
        go_roundw
        case rel => exact ⟨j + 1, i, _, by omega, rfl, by first | rfl | go_num, HSET.out, BX.out⟩
        case measure => simp only [intOf]; omega

theorem l02Compose_ok (m : Int) (d : Nat) (A : Option Addr) (c : Nat) (l : List Int) (A' : Option Addr) (c' : Nat) (l' : List Int) (w : World) (hs : SerOk m d l) (hs' : SerOk m d l') (hz : Ser.co l' 0 = 0) (hr : RI w A l) (hr' : RI w A' l') :
    Calls Try.prog 84 #[.int .i64 m, .slice A l.length c, .slice A' l'.length c', .int .i64 d] w fun e w' => ∃ v, e = .returned v ∧ OwnI w' w.heap.size v (Ser.cmpL m d l l') ∧ Below w.heap.size w w' :=
  l02Compose_any m d A c l A' c' l' w hs.m1 hs.m2 (by have := hs.d2; omega) (by have := hs.len; omega) (by have := hs.len; have := hs.d2; omega) (by have := hs'.len; have := hs'.d2; omega) hs.red hs'.red hz hr hr'

set_option maxHeartbeats 4000000 in
set_option maxRecDepth 100000 in
theorem sComposeSeries_any (m : Int) (A : Option Addr) (c : Nat) (l : List Int) (m' : Int) (A' : Option Addr) (c' : Nat) (l' : List Int) (w : World) (hl : l.length ≤ 1048576) (hl' : l'.length ≤ 1048576) (hr : RI w A l) (hr' : RI w A' l') :
    Calls Try.prog 36 #[.agg #[.int .i64 m, .slice A l.length c], .agg #[.int .i64 m', .slice A' l'.length c']] w fun e w' => ∃ s, e = .returned (.tuple #[.agg #[.int .i64 (cmpM m l m' l').1, s], .int .i64 (cmpM m l m' l').2.2]) ∧ OwnI w' w.heap.size s (cmpM m l m' l').2.1 ∧ Below w.heap.size w w' := by
  obtain ⟨W, hW⟩ : ∃ W, (((w.alloc (.cells #[.int .i64 m, .slice A l.length c] 26)).alloc (.cells #[.int .i64 m', .slice A' l'.length c'] 26)).alloc (.cells #[.int .i64 0, .slice none 0 0] 26)) = W := ⟨_, rfl⟩
  obtain ⟨b1, b2, v3, hwb⟩ := box3_new w m m' A A' l.length c l'.length c' W hW
  have B1 := Lib.hid b1
  have B2 := Lib.hid b2
  have V3 := Lib.hid v3
  have HB := Lib.hid hwb
  have HW := Lib.hid hW
  have R1 := Lib.hid (hr.below hwb)
  have R2 := Lib.hid (hr'.below hwb)
  have HC := Lib.hid (l02Alike_any m A c l m' A' c' l' W (by omega) (by omega) R1.out R2.out)
  clear b1 b2 v3 hwb hW hr hr'
  by_cases h0 : code2 m l m' l' = 0
  · obtain ⟨hh1, hh2, -, -⟩ := code2_iff h0
    have hcf := isC_ok hh2
    obtain ⟨rfl, d, e1, e2, s1, s2⟩ := code2_ok h0
    have hc := HC.out
    rw [h0] at hc
    have HC0 := Lib.hid hc
    have HCV := Lib.hid (fun W0 (h : Below W.heap.size W W0) => l02Curve_any m A' c' l' W0 (by omega) (R2.out.below h))
    by_cases hz : Ser.co l' 0 = 0
    · have HA : Hid (cmpM m l m l' = (m, Ser.cmpL m d l l', 0)) := Lib.hid (by unfold cmpM; rw [if_pos h0, if_pos hz, e1]; rfl)
      rw [HA.out]
      have HP := Lib.hid (fun W0 (h : Below W.heap.size W W0) => l02Compose_ok m d A c l A' c' l' W0 s1 s2 hz (R1.out.below h) (R2.out.below h))
      have HDG := Lib.hid (fun W0 => l02Degree_any m A l.length c d W0 e1 (by have := s1.d2; omega))
      rw [hcf, hz] at HCV
      obtain ⟨L, hL⟩ : ∃ L, Ser.cmpL m d l l' = L := ⟨_, rfl⟩
      rw [hL] at HP ⊢
      clear hc HC h0 s1 s2 e1 e2 hL hh1 hh2 hz hcf
      go_enter Try.func36, Try.ntmps36
      go_wp2_with fail
      rw [HW.out]
      refine HC0.out.mono ?_
      rintro e w1 ⟨rfl, hb1⟩
      obtain ⟨y1, y2, y3⟩ := B2.out.keep hb1
      go_wp2_with fail
      refine (HCV.out _ hb1).mono ?_
      rintro e w0 ⟨rfl, hb2⟩
      have hb0 := below_step hb1 hb2
      clear y1 y2 y3 hb1 hb2
      obtain ⟨x1, x2, x3⟩ := B1.out.keep hb0
      obtain ⟨y1, y2, y3⟩ := B2.out.keep hb0
      go_wp2
      go_region_held3 (fun w' => (w'.cell? ⟨w.heap.size, 0, none⟩ = some (.int .i64 m) ∧ w'.cell? ⟨w.heap.size, 1, none⟩ = some (.slice A l.length c) ∧ w.heap.size < w'.heap.size) ∧ (w'.cell? ⟨w.heap.size + 1, 0, none⟩ = some (.int .i64 m) ∧ w'.cell? ⟨w.heap.size + 1, 1, none⟩ = some (.slice A' l'.length c') ∧ w.heap.size + 1 < w'.heap.size)) (first | exact ⟨⟨x1, x2, x3⟩, ⟨y1, y2, y3⟩⟩ | exact box22_store (by omega) (by omega) (by assumption) | exact box22_call (by assumption) (by assumption)) (first
        | (go_at_call 64; refine (HDG.out _).mono ?_; rintro e1 w1 ⟨rfl, hb1⟩)
        | (go_at_call 84; refine (HP.out _ (below_step (below_step hb0 (below_drew0 _)) hb1)).mono ?_; rintro e2 w2 ⟨s, rfl, ho, hb2⟩; obtain ⟨A2, c2, rfl, _⟩ := ho.form)
        | (go_at_call 62; refine (l02Make_any _ _ _ _ _).mono ?_; rintro e3 w3 ⟨rfl, hb3⟩; have hv := V3.out.keep (below_step (below_step (below_step (below_step hb0 (below_drew0 _)) hb1) hb2) hb3); have q0 := hv.c0; have q1 := hv.c1; have q2 := hv.fz 0; have q3 := hv.fz 1))
      all_goals
        have hw3 := below_step (below_step (below_step (below_step hb0 (below_drew0 _)) hb1) hb2) hb3
        have hz1 := (below_step hb0 (below_drew0 _)).size
        have hz0 := hb1.size
        have hz2 := V3.out.lt
        obtain ⟨f0, f1, f2, f3⟩ := fin_var (w := w) hv (ho.keep hb3) (by omega) (by omega) (below_step HB.out hw3) (.int .i64 m) (.slice A2 L.length c2)
        have F2 := Lib.hid f2
        have F3 := Lib.hid f3
        clear f2 f3 ho hb0 hb1 hb2 hb3 hv hw3
        go_wp2
        exact bodyPost_ret (v := .tuple #[.agg #[.int .i64 m, .slice A2 L.length c2], .int .i64 0]) (by simp [results, Try.results36, go_sem, f0, f1]) rfl ⟨_, rfl, F2.out, F3.out⟩
    · have HA : Hid (cmpM m l m l' = (0, [], 5)) := Lib.hid (by unfold cmpM; rw [if_pos h0, if_neg hz])
      rw [HA.out]
      rw [hcf, show (Ser.co l' 0 == 0) = false by simpa using hz] at HCV
      clear hc HC h0 s1 s2 e1 e2 hh1 hh2 hz hcf
      go_enter Try.func36, Try.ntmps36
      go_wp2_with fail
      rw [HW.out]
      refine HC0.out.mono ?_
      rintro e w1 ⟨rfl, hb1⟩
      obtain ⟨y1, y2, y3⟩ := B2.out.keep hb1
      go_wp2_with fail
      refine (HCV.out _ hb1).mono ?_
      rintro e w2 ⟨rfl, hb2⟩
      have hb3 := below_step hb1 hb2
      clear y1 y2 y3
      have hv := V3.out.keep hb3
      have q0 := hv.c0
      have q1 := hv.c1
      have q2 := hv.fz 0
      have q3 := hv.fz 1
      obtain ⟨f0, f1, f2, f3⟩ := fin_var (w := w) hv (OwnI.nil w2 (w.heap.size + 1 + 1 + 1)) (by omega) (by omega) (below_step HB.out hb3) (.int .i64 0) (.slice none 0 0)
      have F2 := Lib.hid f2
      have F3 := Lib.hid f3
      clear f2 f3 hb1 hb2 hb3 hv
      go_wp2
      exact bodyPost_ret (v := .tuple #[.agg #[.int .i64 0, .slice none 0 0], .int .i64 5]) (by simp [results, Try.results36, go_sem, f0, f1]) rfl ⟨_, rfl, F2.out, F3.out⟩
  · have HA : Hid (cmpM m l m' l' = (0, [], code2 m l m' l')) := Lib.hid (by unfold cmpM; rw [if_neg h0])
    rw [HA.out]
    obtain ⟨n1, n2⟩ := ne_facts h0
    obtain ⟨C, hC⟩ : ∃ C, code2 m l m' l' = C := ⟨_, rfl⟩
    have hc := HC.out
    rw [hC] at n1 n2 h0 hc ⊢
    have HC0 := Lib.hid hc
    clear hc HC hC
    go_enter Try.func36, Try.ntmps36
    go_wp2_with fail
    rw [HW.out]
    refine HC0.out.mono ?_
    rintro e w1 ⟨rfl, hb1⟩
    have hv := V3.out.keep hb1
    have q0 := hv.c0
    have q1 := hv.c1
    have q2 := hv.fz 0
    have q3 := hv.fz 1
    obtain ⟨f0, f1, f2, f3⟩ := fin_var (w := w) hv (OwnI.nil w1 (w.heap.size + 1 + 1 + 1)) (by omega) (by omega) (below_step HB.out hb1) (.int .i64 0) (.slice none 0 0)
    have F2 := Lib.hid f2
    have F3 := Lib.hid f3
    clear f2 f3 hb1 hv
    go_wp2
    exact bodyPost_ret (v := .tuple #[.agg #[.int .i64 0, .slice none 0 0], .int .i64 C]) (by simp [results, Try.results36, go_sem, f0, f1]) rfl ⟨_, rfl, F2.out, F3.out⟩
end Go.Proofs.Ytcnkpfikafaocaa
