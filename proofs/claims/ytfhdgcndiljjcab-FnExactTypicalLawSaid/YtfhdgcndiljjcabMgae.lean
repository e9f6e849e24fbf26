/- Texts of contracts, joined. -/
import Derived.Test.YtfhdgcndiljjcabMgac
import Derived.Test.YtfhdgcndiljjcabMgad
import Derived.StillTailTactics
import Derived.Test.YtfhdgcndiljjcabMgaa
/- Tables of the model with great moduli, up to 10^8: written by wip/tools/mk_bgp.py. -/
namespace Go.Proofs.Ytfhdgcndiljjcab
open Go Go.RowKit Go.WideShapes Go.ChangeShapes Go.ChangeAt

structure Pl.OkG (m : Int) (d : Nat) (t : List (List Int)) : Prop where
  m1 : 2 ≤ m
  m2 : m ≤ 100000000
  d1 : 1 ≤ d
  d2 : d ≤ 10
  len : t.length = d + 1
  row : ∀ i, i ≤ d → (Pl.rw' t i).length = d - i + 1
  red : ∀ i, Ser.Red m (Pl.rw' t i)
theorem Pl.OkG.pc {m : Int} {d : Nat} {t : List (List Int)} (h : Pl.OkG m d t) (i j : Nat) : 0 ≤ Pl.pc t i j ∧ Pl.pc t i j < m := h.red i j
theorem Pl.OkG.self {m : Int} {d : Nat} {t : List (List Int)} (h : Pl.OkG m d t) : t = Pl.tab m d (Pl.pc t) :=
  Pl.tab_ext h.len (fun i hi => (Ser.cut_self (h.row i hi) (h.red i)).symm)
theorem Pl.OkG.of_tab {m : Int} {d : Nat} (m1 : 2 ≤ m) (m2 : m ≤ 100000000) (d1 : 1 ≤ d) (d2 : d ≤ 10) (f : Nat → Nat → Int) : Pl.OkG m d (Pl.tab m d f) := by
  refine ⟨m1, m2, d1, d2, Pl.tab_length _ _ _, fun i hi => by rw [Pl.tab_row m d f i hi, Ser.cut_length], fun i => ?_⟩
  by_cases hi : i ≤ d
  · rw [Pl.tab_row m d f i hi]; exact Ser.cut_red (by omega) _ _
  · rw [Pl.rw_over (by rw [Pl.tab_length]; omega)]
    intro j; rw [Ser.co_over (Nat.zero_le _)]; omega
theorem Pl.OkG.tab {m : Int} {d : Nat} {t : List (List Int)} (h : Pl.OkG m d t) (f : Nat → Nat → Int) : Pl.OkG m d (Pl.tab m d f) := Pl.OkG.of_tab h.m1 h.m2 h.d1 h.d2 f
structure RowOkG (m : Int) (d : Nat) (l : List Int) : Prop where
  m1 : 2 ≤ m
  m2 : m ≤ 100000000
  d2 : d ≤ 10
  len : l.length = d + 1
  red : Ser.Red m l
theorem Pl.OkG.rowOk {m : Int} {d : Nat} {t : List (List Int)} (h : Pl.OkG m d t) (i : Nat) (hi : i ≤ d) : RowOkG m (d - i) (Pl.rw' t i) := ⟨h.m1, h.m2, by have := h.d2; omega, h.row i hi, h.red i⟩
theorem mul_bdRG {x y : Int} (h1 : 0 ≤ x) (h2 : x ≤ 100000000) (h3 : -100000000 ≤ y) (h4 : y ≤ 100000000) : -10000000000000000 ≤ x * y ∧ x * y ≤ 10000000000000000 := by
  constructor
  · have := Int.mul_le_mul_of_nonneg_left (c := x) h3 h1
    have e : x * -100000000 = -(x * 100000000) := Int.mul_neg _ _
    omega
  · have := Int.mul_le_mul_of_nonneg_left (c := x) h4 h1
    omega
theorem wrap_remRG {x m : Int} (h1 : 0 ≤ x) (h2 : x ≤ 1000000000000000000) : (IntKind.i64.wrap x).tmod m = x % m := by
  have : IntKind.i64.wrap x = x := by rw [IntKind.wrap_i64]; omega
  rw [this, Int.tmod_eq_emod_of_nonneg h1]

set_option maxHeartbeats 2000000 in
set_option maxRecDepth 100000 in
theorem l02AddR_anyG (m : Int) (d : Nat) (A : Option Addr) (c : Nat) (l : List Int) (A' : Option Addr) (c' : Nat) (l' : List Int) (w : World) (hs : RowOkG m d l) (hs' : RowOkG m d l') (hr : RI w A l) (hr' : RI w A' l') :
    Calls Try.prog 69 #[.int .i64 m, .slice A l.length c, .slice A' l'.length c'] w fun e w' => ∃ v, e = .returned v ∧ OwnI w' w.heap.size v (addR m d l l') ∧ Below w.heap.size w w' := by
  have HS := Lib.hid hs
  have HS' := Lib.hid hs'
  have HR := Lib.hid hr
  have HR' := Lib.hid hr'
  have hm1 := hs.m1
  have hm2 := hs.m2
  have hd := hs.d2
  have hm0 : ¬ m = 0 := by omega
  have hll : l.length ≤ 11 := by have := hs.len; omega
  have hll' : l'.length ≤ 11 := by have := hs'.len; omega
  have E1 := Lib.hid hs.len
  have E2 := Lib.hid hs'.len
  clear hs hs' hr hr'
  go_enter Try.func69, Try.ntmps69
  go_wp2
  go_loopw [7, 8] (fun r i wr => ∃ k : Nat, k ≤ l.length ∧ i = .int .i64 k ∧ OwnI wr w.heap.size r ((addR m d l l').take k) ∧ Below w.heap.size w wr) (fun _ i _ => l.length - (intOf i).toNat)
  case atStart => exact ⟨0, Nat.zero_le _, rfl, OwnI.empty _, below_one _ _⟩
  case round =>
    obtain ⟨k, hk, rfl, hown, hbel⟩ := hrel
    have HB := Lib.hid hbel
    have HO := Lib.hid hown
    have hsz := hbel.size
    clear hown hbel
    by_cases hlt : k < l.length
    · obtain ⟨b, off, rfl, hb, hc⟩ := HR.out.at k hlt
      obtain ⟨b', off', rfl, hb', hc'⟩ := HR'.out.at k (by rw [E2.out, ← E1.out]; exact hlt)
      have c1 := (HB.out.cell (p := ⟨b, off + k, none⟩) hb).trans hc
      have c2 := (HB.out.cell (p := ⟨b', off' + k, none⟩) hb').trans hc'
      have r1 := HS.out.red k
      have r2 := HS'.out.red k
      have hst : (addR m d l l').take (k + 1) = (addR m d l l').take k ++ [(Ser.co l k + Ser.co l' k) % m] := Ser.cut_take_succ _ _ _ _ (by have := E1.out; omega)
      obtain ⟨X, hX⟩ : ∃ X, Ser.co l k = X := ⟨_, rfl⟩
      obtain ⟨Y, hY⟩ : ∃ Y, Ser.co l' k = Y := ⟨_, rfl⟩
      rw [hX] at hc c1 r1
      rw [hY] at hc' c2 r2
      rw [hX, hY] at hst
      have HST := Lib.hid hst
      have C1 := Lib.hid hc
      have C2 := Lib.hid hc'
      have j0 : (0 : Int) ≤ (k : Int) := by omega
      have j1 : (k : Int) < (l.length : Int) := by omega
      have j2 : (k : Int) < (l'.length : Int) := by have := E1.out; have := E2.out; omega
      obtain ⟨r1, r3⟩ := r1
      obtain ⟨r2, r4⟩ := r2
      have HQ := Lib.hid (wrap_remRG (x := X + Y) (m := m) (by omega) (by omega))
      clear hX hY hst hc hc'
      go_wp2
      go_region_held3 (fun w' => w'.cell? ⟨b, off + k, none⟩ = some (.int .i64 X) ∧ w'.cell? ⟨b', off' + k, none⟩ = some (.int .i64 Y) ∧ ¬ m = 0) (first | exact ⟨((((HB.out.alloc hsz _).drew).trans hpb).cell hb).trans C1.out, ((((HB.out.alloc hsz _).drew).trans hpb).cell hb').trans C2.out, hm0⟩ | exact ⟨c1, c2, hm0⟩ | go_keep) ((refine step_push _ _ _ (by rfl) (by rfl) Try.underlying22 w.heap.size _ _ (by rfl) ((HO.out.alloc _).drew) wr.heap.size ((X + Y) % m) (by rfl) (by simp; exact HQ.out) (by have := take_cut_len m d (fun n => Ser.co l n + Ser.co l' n) k; unfold addR; omega) (by simp; omega) ?_; intro v' w1 ho1 hpb))
      all_goals
        have hb1 := (((HB.out.alloc hsz _).drew).trans hpb)
        have HB1 := Lib.hid hb1
        have HO1 := Lib.hid ho1
        clear hb1 ho1 hpb
        go_wp2
        go_roundw
        case rel => exact ⟨k + 1, by omega, by go_num, by rw [HST.out]; exact HO1.out, HB1.out⟩
        case measure => simp only [intOf]; omega
    · obtain rfl : k = l.length := by omega
      have ho := HO.out
      rw [List.take_of_length_le (by unfold addR; rw [Ser.cut_length, E1.out]; exact Nat.le_refl _)] at ho
      have HF := Lib.hid ho
      clear ho
      go_wp2
      go_ret
      exact ⟨_, rfl, HF.out, HB.out⟩

set_option maxHeartbeats 2000000 in
theorem l02ScaleR_anyG (m : Int) (d : Nat) (k : Int) (A : Option Addr) (c : Nat) (l : List Int) (w : World) (hs : RowOkG m d l) (hr : RI w A l) (k1 : 0 ≤ k) (k2 : k < m) :
    Calls Try.prog 70 #[.int .i64 m, .int .i64 k, .slice A l.length c] w fun e w' => ∃ v, e = .returned v ∧ OwnI w' w.heap.size v (scaR m d l k) ∧ Below w.heap.size w w' := by
  have HS := Lib.hid hs
  have HR := Lib.hid hr
  have hm1 := hs.m1
  have hm2 := hs.m2
  have hd := hs.d2
  have hm0 : ¬ m = 0 := by omega
  have hll : l.length ≤ 11 := by have := hs.len; omega
  have E1 := Lib.hid hs.len
  clear hs hr
  go_enter Try.func70, Try.ntmps70
  go_wp2
  go_loopw [7, 8] (fun r i wr => ∃ j : Nat, j ≤ l.length ∧ i = .int .i64 j ∧ OwnI wr w.heap.size r ((scaR m d l k).take j) ∧ Below w.heap.size w wr) (fun _ i _ => l.length - (intOf i).toNat)
  case atStart => exact ⟨0, Nat.zero_le _, rfl, OwnI.empty _, below_one _ _⟩
  case round =>
    obtain ⟨j, hj, rfl, hown, hbel⟩ := hrel
    have HB := Lib.hid hbel
    have HO := Lib.hid hown
    have hsz := hbel.size
    have hlk := take_cut_len m d (fun n => Ser.co l n * k) j
    clear hown hbel
    by_cases hlt : j < l.length
    · obtain ⟨b, off, rfl, hb, hc⟩ := HR.out.at j hlt
      have c1 := (HB.out.cell (p := ⟨b, off + j, none⟩) hb).trans hc
      obtain ⟨r1, r2⟩ := HS.out.red j
      have hst : (scaR m d l k).take (j + 1) = (scaR m d l k).take j ++ [Ser.co l j * k % m] := Ser.cut_take_succ _ _ _ _ (by have := E1.out; omega)
      obtain ⟨X, hX⟩ : ∃ X, Ser.co l j = X := ⟨_, rfl⟩
      rw [hX] at c1 r1 r2 hst
      have p1 := Int.mul_nonneg k1 r1
      have p2 := (mul_bdRG (x := k) (y := X) k1 (by omega) (by omega) (by omega)).2
      have he : X * k = k * X := Int.mul_comm _ _
      rw [he] at hst
      have j0 : (0 : Int) ≤ (j : Int) := by omega
      have j1 : (j : Int) < (l.length : Int) := by omega
      have HST := Lib.hid hst
      clear hX hst hc he
      go_wp2_with (at_builtin; refine wp_push _ _ _ (by rfl) (by rfl) Try.underlying22 w.heap.size _ _ (by rfl) HO.out (k * X % m) (by rfl) (by unfold scaR; omega) hsz ?_; intro v' w1 ho1 hpb)
      have HP := Lib.hid (HB.out.trans hpb)
      have HQ := Lib.hid ho1
      clear hpb ho1
      go_wp2
      go_roundw
      case rel => exact ⟨j + 1, by omega, by go_num, by rw [HST.out]; exact HQ.out, HP.out⟩
      case measure => simp only [intOf]; omega
    · obtain rfl : j = l.length := by omega
      have ho := HO.out
      rw [List.take_of_length_le (by unfold scaR; rw [Ser.cut_length, E1.out]; exact Nat.le_refl _)] at ho
      have HF := Lib.hid ho
      clear ho
      go_wp2
      go_ret
      exact ⟨_, rfl, HF.out, HB.out⟩

set_option maxHeartbeats 2000000 in
theorem l02RestR_anyG (k : Int) (d : Nat) (m : Int) (A : Option Addr) (c : Nat) (l : List Int) (w : World) (k1 : 2 ≤ k) (hs : RowOkG m d l) (hr : RI w A l) :
    Calls Try.prog 37 #[.int .i64 k, .slice A l.length c] w fun e w' => ∃ v, e = .returned v ∧ OwnI w' w.heap.size v (Ser.cut k d (Ser.co l)) ∧ Below w.heap.size w w' := by
  have HS := Lib.hid hs
  have HR := Lib.hid hr
  have hd := hs.d2
  have hll : l.length ≤ 11 := by have := hs.len; omega
  have E1 := Lib.hid hs.len
  clear hs hr
  go_enter Try.func37, Try.ntmps37
  go_wp2
  go_loopw [5, 6] (fun r i wr => ∃ j : Nat, j ≤ l.length ∧ i = .int .i64 j ∧ OwnI wr w.heap.size r ((Ser.cut k d (Ser.co l)).take j) ∧ Below w.heap.size w wr) (fun _ i _ => l.length - (intOf i).toNat)
  case atStart => exact ⟨0, Nat.zero_le _, rfl, OwnI.empty _, below_one _ _⟩
  case round =>
    obtain ⟨j, hj, rfl, hown, hbel⟩ := hrel
    have HB := Lib.hid hbel
    have HO := Lib.hid hown
    have hsz := hbel.size
    have hlk := take_cut_len k d (Ser.co l) j
    clear hown hbel
    by_cases hlt : j < l.length
    · obtain ⟨b, off, rfl, hb, hc⟩ := HR.out.at j hlt
      have c1 := (HB.out.cell (p := ⟨b, off + j, none⟩) hb).trans hc
      obtain ⟨r1, r2⟩ := HS.out.red j
      have hm2 := HS.out.m2
      have hst : (Ser.cut k d (Ser.co l)).take (j + 1) = (Ser.cut k d (Ser.co l)).take j ++ [Ser.co l j % k] := Ser.cut_take_succ _ _ _ _ (by have := E1.out; omega)
      obtain ⟨X, hX⟩ : ∃ X, Ser.co l j = X := ⟨_, rfl⟩
      rw [hX] at c1 r1 r2 hst
      have HST := Lib.hid hst
      clear hX hst hc
      go_wp2_with (at_builtin; refine wp_push _ _ _ (by rfl) (by rfl) Try.underlying22 w.heap.size _ _ (by rfl) HO.out (X % k) (by rfl) (by omega) hsz ?_; intro v' w1 ho1 hpb)
      have HP := Lib.hid (HB.out.trans hpb)
      have HQ := Lib.hid ho1
      clear hpb ho1
      go_wp2
      go_roundw
      case rel => exact ⟨j + 1, by omega, by go_num, by rw [HST.out]; exact HQ.out, HP.out⟩
      case measure => simp only [intOf]; omega
    · obtain rfl : j = l.length := by omega
      have ho := HO.out
      rw [List.take_of_length_le (by rw [Ser.cut_length, E1.out]; exact Nat.le_refl _)] at ho
      have HF := Lib.hid ho
      clear ho
      go_wp2
      go_ret
      exact ⟨_, rfl, HF.out, HB.out⟩

set_option maxHeartbeats 2000000 in
set_option maxRecDepth 100000 in
theorem l03Add_anyG (m : Int) (d : Nat) (A : Option Addr) (c : Nat) (t : List (List Int)) (A' : Option Addr) (c' : Nat) (t' : List (List Int)) (w : World) (hs : Pl.OkG m d t) (hs' : Pl.OkG m d t') (hr : RP w A t) (hr' : RP w A' t') :
    Calls Try.prog 52 #[.int .i64 m, .slice A t.length c, .slice A' t'.length c'] w fun e w' => ∃ v, e = .returned v ∧ OwnR w' w.heap.size w'.heap.size v (Pl.tab m d fun i j => Pl.pc t i j + Pl.pc t' i j) ∧ Below w.heap.size w w' := by
  have HR := Lib.hid hr
  have HR' := Lib.hid hr'
  have HS := Lib.hid hs
  have HS' := Lib.hid hs'
  have hl := hs.len
  have hl' := hs'.len
  have hd2 := hs.d2
  obtain ⟨L, hL⟩ : ∃ L, t.length = L := ⟨_, rfl⟩
  obtain ⟨L', hL'⟩ : ∃ L, t'.length = L := ⟨_, rfl⟩
  have HL := Lib.hid (hL.symm.trans hl)
  have HL' := Lib.hid (hL'.symm.trans hl')
  rw [hL, hL']
  have hLb : L ≤ 11 := by omega
  clear hr hr' hs hs' hL hL' hl hl'
  go_enter Try.func52, Try.ntmps52
  go_wp2
  go_loopw [7, 8] (fun r i wr => ∃ k : Nat, k ≤ L ∧ i = .int .i64 k ∧ OwnR wr w.heap.size wr.heap.size r ((Pl.tab m d fun i j => Pl.pc t i j + Pl.pc t' i j).take k) ∧ Below w.heap.size w wr) (fun _ i _ => L - (intOf i).toNat)
  case atStart => exact ⟨0, Nat.zero_le _, rfl, by simpa using OwnR.none0 w, below_one _ _⟩
  case round =>
    obtain ⟨k, hk, rfl, hown, hbel⟩ := hrel
    have HB := Lib.hid hbel
    have HO := Lib.hid hown
    have hsz := hbel.size
    clear hown
    by_cases hlt : k < L
    · have hLd := HL.out
      have hLd' := HL'.out
      obtain ⟨b, off, A1, c1, rfl, hb, hc, -, hri⟩ := HR.out.at k (by rw [HS.out.len]; omega)
      obtain ⟨b', off', A2, c2, rfl, hb', hc', -, hri'⟩ := HR'.out.at k (by rw [HS'.out.len]; omega)
      have e1 := (hbel.cell (p := ⟨b, off + k, none⟩) hb).trans hc
      have e2 := (hbel.cell (p := ⟨b', off' + k, none⟩) hb').trans hc'
      have HA : Hid (∀ W : World, Below w.heap.size w W → Calls Try.prog 69 #[.int .i64 m, .slice A1 (Pl.rw' t k).length c1, .slice A2 (Pl.rw' t' k).length c2] W fun e w' => ∃ v, e = .returned v ∧ OwnI w' W.heap.size v (addR m (d - k) (Pl.rw' t k) (Pl.rw' t' k)) ∧ Below W.heap.size W w') :=
        Lib.hid (fun W hW => l02AddR_anyG m (d - k) A1 c1 _ A2 c2 _ W (HS.out.rowOk k (by omega)) (HS'.out.rowOk k (by omega)) (hri.below hW) (hri'.below hW))
      have hst : (Pl.tab m d fun i j => Pl.pc t i j + Pl.pc t' i j).take (k + 1) = (Pl.tab m d fun i j => Pl.pc t i j + Pl.pc t' i j).take k ++ [addR m (d - k) (Pl.rw' t k) (Pl.rw' t' k)] := by rw [Pl.tab_take_succ m d _ k (by omega), add_row]
      have HLEN := Lib.hid (show ((Pl.tab m d fun i j => Pl.pc t i j + Pl.pc t' i j).take k).length ≤ 1000000000000 by rw [List.length_take, Pl.tab_length]; omega)
      obtain ⟨N, hN⟩ : ∃ N, (Pl.rw' t k).length = N := ⟨_, rfl⟩
      obtain ⟨N', hN'⟩ : ∃ N, (Pl.rw' t' k).length = N := ⟨_, rfl⟩
      obtain ⟨row, hrow⟩ : ∃ row, addR m (d - k) (Pl.rw' t k) (Pl.rw' t' k) = row := ⟨_, rfl⟩
      rw [hrow] at HA hst
      rw [hN] at e1 hc HA
      rw [hN'] at e2 hc' HA
      have HST := Lib.hid hst
      have C1 := Lib.hid hc
      have C2 := Lib.hid hc'
      have j0 : (0 : Int) ≤ (k : Int) := by omega
      have j1 : (k : Int) < (L : Int) := by omega
      have j2 : (k : Int) < (L' : Int) := by omega
      clear hst hN hN' hrow hri hri' hc hc' hLd hLd' hbel
      go_wp2
      go_region_held3 (fun w' => w'.cell? ⟨b, off + k, none⟩ = some (.slice A1 N c1) ∧ w'.cell? ⟨b', off' + k, none⟩ = some (.slice A2 N' c2)) (first | exact ⟨e1, e2⟩ | exact kp_call hb5 ⟨e1, e2⟩ | exact ⟨(hB6.cell hb).trans C1.out, (hB6.cell hb').trans C2.out⟩ | exact kp_call (below_one _ _) (by assumption)) (first
        | (go_at_call 69; refine (HA.out _ HB.out.drew).mono ?_; rintro e w5 ⟨u, rfl, hou, hb5⟩; obtain ⟨Au, cu, rfl, -⟩ := hou.form)
        | (refine step_pushU _ _ _ (by rfl) (by rfl) Try.underlying23 w.heap.size wr.heap.size _ _ (by rfl) (HO.out.keep ((below_step (below_drew0 wr) hb5).trans ((below_one w5 _).mono hb5.size))) (Nat.le_trans hb5.size (below_one w5 _).size) _ row ((hou.alloc _).more hsz) (fun g hg => (hou.lt g hg).1) w5.heap.size (by rfl) (by rw [World.cell?_alloc_at _ _ _ _ rfl]; rfl) HLEN.out (Nat.le_trans hsz (Nat.le_trans hb5.size (below_one w5 _).size)) ?_; intro v' w1 ho1 hpb; have hB6 : Below w.heap.size w w1 := ((HB.out.drew.trans (hb5.mono hsz)).trans ((below_one w5 (.cells #[.slice Au row.length cu] 22)).mono (Nat.le_trans hsz hb5.size))).trans hpb))
      all_goals
        have HB1 := Lib.hid hB6
        have HO1 := Lib.hid ho1
        clear hB6 ho1 hpb hou hb5
        go_wp2
        go_roundw
        case rel => exact ⟨k + 1, by omega, by go_num, by rw [HST.out]; exact HO1.out, HB1.out⟩
        case measure => simp only [intOf]; omega
    · obtain rfl : k = L := by omega
      have ho := HO.out
      rw [HL.out, Pl.tab_take_all] at ho
      have HF := Lib.hid ho
      clear ho
      go_wp2
      go_ret
      exact ⟨_, rfl, HF.out, HB.out⟩
set_option maxHeartbeats 2000000 in
set_option maxRecDepth 100000 in
theorem l03Scale_anyG (m : Int) (d : Nat) (k : Int) (A : Option Addr) (c : Nat) (t : List (List Int)) (w : World) (hs : Pl.OkG m d t) (hr : RP w A t) (k1 : 0 ≤ k) (k2 : k < m) :
    Calls Try.prog 53 #[.int .i64 m, .int .i64 k, .slice A t.length c] w fun e w' => ∃ v, e = .returned v ∧ OwnR w' w.heap.size w'.heap.size v (Pl.tab m d fun i j => Pl.pc t i j * k) ∧ Below w.heap.size w w' := by
  have HR := Lib.hid hr
  have HS := Lib.hid hs
  have hl := hs.len
  have hd2 := hs.d2
  obtain ⟨L, hL⟩ : ∃ L, t.length = L := ⟨_, rfl⟩
  have HL := Lib.hid (hL.symm.trans hl)
  have hLb : L ≤ 11 := by omega
  rw [hL]
  clear hr hs hL hl
  go_enter Try.func53, Try.ntmps53
  go_wp2
  go_loopw [7, 8] (fun r i wr => ∃ q : Nat, q ≤ L ∧ i = .int .i64 q ∧ OwnR wr w.heap.size wr.heap.size r ((Pl.tab m d fun i j => Pl.pc t i j * k).take q) ∧ Below w.heap.size w wr) (fun _ i _ => L - (intOf i).toNat)
  case atStart => exact ⟨0, Nat.zero_le _, rfl, by simpa using OwnR.none0 w, below_one _ _⟩
  case round =>
    obtain ⟨q, hq, rfl, hown, hbel⟩ := hrel
    have HB := Lib.hid hbel
    have HO := Lib.hid hown
    have hsz := hbel.size
    clear hown
    by_cases hlt : q < L
    · have hLd := HL.out
      obtain ⟨b, off, A1, c1, rfl, hb, hc, -, hri⟩ := HR.out.at q (by rw [HS.out.len]; omega)
      have e1 := (hbel.cell (p := ⟨b, off + q, none⟩) hb).trans hc
      have HA := Lib.hid (l02ScaleR_anyG m (d - q) k A1 c1 _ wr (HS.out.rowOk q (by omega)) (hri.below hbel) k1 k2)
      have hst : (Pl.tab m d fun i j => Pl.pc t i j * k).take (q + 1) = (Pl.tab m d fun i j => Pl.pc t i j * k).take q ++ [scaR m (d - q) (Pl.rw' t q) k] := Pl.tab_take_succ m d _ q (by omega)
      have HLEN := Lib.hid (show ((Pl.tab m d fun i j => Pl.pc t i j * k).take q).length ≤ 1000000000000 by rw [List.length_take, Pl.tab_length]; omega)
      obtain ⟨N, hN⟩ : ∃ N, (Pl.rw' t q).length = N := ⟨_, rfl⟩
      obtain ⟨row, hrow⟩ : ∃ row, scaR m (d - q) (Pl.rw' t q) k = row := ⟨_, rfl⟩
      rw [hrow] at HA hst
      rw [hN] at e1 HA
      have HST := Lib.hid hst
      have j0 : (0 : Int) ≤ (q : Int) := by omega
      have j1 : (q : Int) < (L : Int) := by omega
      clear hst hN hrow hri hc hLd hbel
      go_wp2_with fail
      refine HA.out.mono ?_
      rintro e w5 ⟨u, rfl, hou, hb5⟩
      obtain ⟨Au, cu, rfl, -⟩ := hou.form
      go_wp2_with (at_builtin; refine wp_pushU _ _ _ (by rfl) (by rfl) Try.underlying23 w.heap.size wr.heap.size _ _ (by rfl) (HO.out.keep hb5) hb5.size (.slice Au row.length cu) row (hou.more hsz) (fun g hg => (hou.lt g hg).1) w5.heap.size rfl (by rfl) HLEN.out (Nat.le_trans hsz hb5.size) ?_; intro v' w1 ho1 hpb)
      have HB1 := Lib.hid ((HB.out.trans (hb5.mono hsz)).trans hpb)
      have HO1 := Lib.hid ho1
      clear ho1 hpb hou hb5
      go_wp2
      go_roundw
      case rel => exact ⟨q + 1, by omega, by go_num, by rw [HST.out]; exact HO1.out, HB1.out⟩
      case measure => simp only [intOf]; omega
    · obtain rfl : q = L := by omega
      have ho := HO.out
      rw [HL.out, Pl.tab_take_all] at ho
      have HF := Lib.hid ho
      clear ho
      go_wp2
      go_ret
      exact ⟨_, rfl, HF.out, HB.out⟩
theorem Pl.prod_bdG {x y : Int} (h1 : 0 ≤ x) (h2 : x ≤ 100000000) (h3 : 0 ≤ y) (h4 : y ≤ 100000000) : 0 ≤ x * y ∧ x * y ≤ 10000000000000000 := by
  refine ⟨Int.mul_nonneg h1 h3, ?_⟩
  have a := Int.mul_le_mul_of_nonneg_left (c := x) h4 h1
  omega
set_option maxHeartbeats 16000000 in
set_option maxRecDepth 100000 in
theorem l03Times_anyG (m : Int) (d : Nat) (A : Option Addr) (c : Nat) (t : List (List Int)) (A' : Option Addr) (c' : Nat) (t' : List (List Int)) (w : World) (hs : Pl.OkG m d t) (hs' : Pl.OkG m d t') (hr : RP w A t) (hr' : RP w A' t') :
    Calls Try.prog 68 #[.int .i64 m, .slice A t.length c, .slice A' t'.length c'] w fun e w' => ∃ v, e = .returned v ∧ OwnR w' w.heap.size w'.heap.size v (Pl.tab m d (Pl.mul2 (Pl.pc t) (Pl.pc t'))) ∧ Below w.heap.size w w' := by
  have HR := Lib.hid hr
  have HR' := Lib.hid hr'
  have HS := Lib.hid hs
  have HS' := Lib.hid hs'
  have hd2 := hs.d2
  have m1 := hs.m1
  have m2 := hs.m2
  have hm0 : ¬ m = 0 := by omega
  have HZ := Lib.hid (l03Zero_any m d w (by omega))
  obtain ⟨L, hL⟩ : ∃ L, t.length = L := ⟨_, rfl⟩
  obtain ⟨L', hL'⟩ : ∃ L, t'.length = L := ⟨_, rfl⟩
  have HL := Lib.hid (hL.symm.trans hs.len)
  have HL' := Lib.hid (hL'.symm.trans hs'.len)
  have hLd : (L : Int) - 1 = (d : Int) := by have := hs.len; omega
  have hLb : L ≤ 11 := by have := hs.len; omega
  rw [hL, hL']
  clear hr hr' hs hs' hL hL'
  go_enter Try.func68, Try.ntmps68
  go_wp2_with fail
  refine HZ.out.mono ?_
  rintro e w1 ⟨v, rfl, ho, hb⟩
  rw [← Pl.S2_tab_zero m d (Pl.pc t) (Pl.pc t')] at ho
  obtain ⟨g, cv, rfl⟩ := ho.openv (by rw [Pl.tab_length]; omega)
  rw [Pl.tab_length] at ho ⊢
  have HO1 := Lib.hid ho
  have HB1 := Lib.hid hb
  clear ho hb
  go_wp2
  go_loopw [9] (fun i wr => ∃ i0 : Nat, i0 ≤ L ∧ i = .int .i64 i0 ∧ OwnR wr w.heap.size wr.heap.size (.slice (some ⟨g, 0, none⟩) (d + 1) cv) (Pl.tab m d (Pl.S2 d (Pl.pc t) (Pl.pc t') i0 0)) ∧ Below w.heap.size w wr) (fun i _ => L - (intOf i).toNat)
  case atStart => exact ⟨0, Nat.zero_le _, rfl, HO1.out, HB1.out⟩
  case round =>
    clear HO1 HB1
    obtain ⟨i, hi, rfl, hown, hbel⟩ := hrel
    have HB := Lib.hid hbel
    have HO := Lib.hid hown
    clear hown hbel
    by_cases hlt : i < L
    · have i1 : (i : Int) < (L : Int) := by omega
      go_wp2
      go_loopw [10] (fun j wr => ∃ j0 : Nat, i + j0 ≤ L ∧ j = .int .i64 j0 ∧ OwnR wr w.heap.size wr.heap.size (.slice (some ⟨g, 0, none⟩) (d + 1) cv) (Pl.tab m d (Pl.S2 d (Pl.pc t) (Pl.pc t') i j0)) ∧ Below w.heap.size w wr) (fun j _ => L - (intOf j).toNat)
      case atStart => exact ⟨0, by omega, rfl, HO.out, HB.out⟩
      case round =>
        clear HO HB
        obtain ⟨j, hj, rfl, hown, hbel⟩ := hrel
        have HB := Lib.hid hbel
        have HO := Lib.hid hown
        have hLd' := HL.out
        by_cases hjt : i + j < L
        · obtain ⟨ba, offa, bi, offi, ci, rfl, hba, ka1, hbi, ka2⟩ := HR.out.num i j (by rw [HS.out.len]; omega) (by rw [HS.out.row i (by omega)]; omega)
          rw [HS.out.row i (by omega)] at ka1
          obtain ⟨N, hN⟩ : ∃ N, d - i + 1 = N := ⟨_, rfl⟩
          rw [hN] at ka1
          have r1 := HS.out.pc i j
          have hskip := Pl.S2_skip m d (Pl.pc t) (Pl.pc t') i j
          obtain ⟨X, hX⟩ : ∃ X, Pl.pc t i j = X := ⟨_, rfl⟩
          have HX := Lib.hid hX
          rw [hX] at ka2 r1 hskip
          have KA1 := Lib.hid ka1
          have KA2 := Lib.hid ka2
          have a1 := (hbel.cell (p := ⟨ba, offa + i, none⟩) hba).trans ka1
          have a2 := (hbel.cell (p := ⟨bi, offi + j, none⟩) hbi).trans ka2
          obtain ⟨r1, r2⟩ := r1
          have j0 : (0 : Int) ≤ (i : Int) := by omega
          have j1 : (0 : Int) ≤ (j : Int) := by omega
          have j2 : (i : Int) + (j : Int) < (L : Int) := by omega
          have j3 : (j : Int) < (N : Int) := by omega
          clear hX ka1 ka2 hown hbel hN hLd'
          by_cases hX0 : X = 0
          · have HSK := Lib.hid (hskip hX0)
            subst hX0
            clear hskip
            go_wp2
            go_roundw
            case rel => exact ⟨j + 1, by omega, by go_num, by rw [← HSK.out]; exact HO.out, HB.out⟩
            case measure => simp only [intOf]; omega
          · obtain ⟨n1, n2⟩ := ne_facts hX0
            clear hskip
            have ho := HO.out
            rw [← Pl.T2_tab_zero] at ho
            have HO2 := Lib.hid ho
            clear ho HO
            go_wp2
            go_loopw [11] (fun k wr => ∃ k0 : Nat, i + j + k0 ≤ L ∧ k = .int .i64 k0 ∧ OwnR wr w.heap.size wr.heap.size (.slice (some ⟨g, 0, none⟩) (d + 1) cv) (Pl.tab m d (Pl.T2 d (Pl.pc t) (Pl.pc t') i j k0 0)) ∧ Below w.heap.size w wr) (fun k _ => L - (intOf k).toNat)
            case atStart => exact ⟨0, by omega, rfl, HO2.out, HB.out⟩
            case round =>
              clear HO2 HB a1 a2
              obtain ⟨k, hk, rfl, hown, hbel⟩ := hrel
              have HB := Lib.hid hbel
              have HO := Lib.hid hown
              have hLd' := HL.out
              by_cases hkt : i + j + k < L
              · obtain ⟨bb, offb, A2, ck, rfl, hbb, kb1, -, hri⟩ := HR'.out.at k (by rw [HS'.out.len]; omega)
                obtain ⟨bk, offk, rfl, -⟩ := hri.at 0 (by rw [HS'.out.row k (by omega)]; omega)
                have HRI := Lib.hid hri
                rw [HS'.out.row k (by omega)] at kb1
                obtain ⟨M, hM⟩ : ∃ M, d - k + 1 = M := ⟨_, rfl⟩
                rw [hM] at kb1
                have b1 := (hbel.cell (p := ⟨bb, offb + k, none⟩) hbb).trans kb1
                obtain ⟨br, cr, g1, g2, g3, g4, hcel⟩ := HO.out.numB (i + k) j (d - (i + k) + 1) (by rw [Pl.tab_length]; omega) (by rw [Pl.tab_row m d _ (i + k) (by omega), Ser.cut_length]) (by omega)
                obtain ⟨c4, -⟩ := hcel wr (Below.refl _ _)
                obtain ⟨Q, hQ⟩ : ∃ Q, d - (i + k) + 1 = Q := ⟨_, rfl⟩
                rw [hQ] at c4
                obtain ⟨s, hsik⟩ : ∃ s, i + k = s := ⟨_, rfl⟩
                rw [hsik] at c4
                have q1 : (i : Int) + (k : Int) = (s : Int) := by omega
                have q2 : (s : Int) < (d : Int) + 1 := by omega
                have q3 : (0 : Int) ≤ (s : Int) := by omega
                have q4 : (0 : Int) ≤ (k : Int) := by omega
                have q5 : (k : Int) < (L' : Int) := by have := HL'.out; omega
                have q6 : (i : Int) + (j : Int) + (k : Int) < (L : Int) := by omega
                have HQ := Lib.hid hQ
                have HMM := Lib.hid hM
                have HIK := Lib.hid hsik
                clear hown hbel hcel hQ hM hsik kb1 hLd' hri
                go_wp2
                go_quiet (fail)
                go_wp2
                go_loopw [14] (fun l wr => ∃ l0 : Nat, i + j + k + l0 ≤ L ∧ l = .int .i64 l0 ∧ OwnR wr w.heap.size wr.heap.size (.slice (some ⟨g, 0, none⟩) (d + 1) cv) (Pl.tab m d (Pl.T2 d (Pl.pc t) (Pl.pc t') i j k l0)) ∧ wr.cell? ⟨g, s, none⟩ = some (.slice (some ⟨br, 0, none⟩) Q cr) ∧ Below w.heap.size w wr) (fun l _ => L - (intOf l).toNat)
                case atStart => exact ⟨0, by omega, rfl, HO.out.keep (below_drewN (Below.refl _ _) _), c4, below_drewN HB.out _⟩
                case round =>
                  clear HO HB c4 b1
                  obtain ⟨l, hl, rfl, hown, hc4, hbel⟩ := hrel
                  have HB := Lib.hid hbel
                  have HO := Lib.hid hown
                  have HC4 := Lib.hid hc4
                  have hLd' := HL.out
                  by_cases hlt4 : i + j + k + l < L
                  · obtain ⟨b3, o3, e3, hb3, kc⟩ := HRI.out.at l (by rw [HS'.out.row k (by omega)]; omega)
                    injection e3 with e3
                    injection e3 with e3a e3b
                    subst e3a e3b
                    have a1 := (hbel.cell (p := ⟨ba, offa + i, none⟩) hba).trans KA1.out
                    have a2 := (hbel.cell (p := ⟨bi, offi + j, none⟩) hbi).trans KA2.out
                    have b2 := (hbel.cell (p := ⟨bk, offk + l, none⟩) hb3).trans kc
                    change wr.cell? _ = some (.int .i64 (Pl.pc t' k l)) at b2
                    obtain ⟨b4, c3, h1, h2, h3, h4, hcel⟩ := HO.out.numB (i + k) (j + l) (d - (i + k) + 1) (by rw [Pl.tab_length]; omega) (by rw [Pl.tab_row m d _ (i + k) (by omega), Ser.cut_length]) (by omega)
                    obtain ⟨c4, c5, c6, c7⟩ := hcel wr.drew (below_drew0 wr)
                    have hst := Pl.T2_step m d (Pl.pc t) (Pl.pc t') i j k l (by omega)
                    have hzb := (HS.out.tab (Pl.T2 d (Pl.pc t) (Pl.pc t') i j k l)).pc (i + k) (j + l)
                    have hyb := HS'.out.pc k l
                    obtain ⟨u, hu⟩ : ∃ u, j + l = u := ⟨_, rfl⟩
                    rw [HQ.out, HIK.out] at c4
                    rw [HIK.out] at hst hzb c5 c7
                    rw [hu] at hst hzb c5 c6 c7
                    obtain ⟨Z, hZ⟩ : ∃ Z, Pl.pc (Pl.tab m d (Pl.T2 d (Pl.pc t) (Pl.pc t') i j k l)) s u = Z := ⟨_, rfl⟩
                    obtain ⟨Y, hY⟩ : ∃ Y, Pl.pc t' k l = Y := ⟨_, rfl⟩
                    rw [hZ] at hst hzb c5
                    rw [hY] at hst hyb b2
                    rw [HX.out] at hst
                    have e4 : some (Value.slice (some ⟨br, 0, none⟩) Q cr) = some (Value.slice (some ⟨b4, 0, none⟩) Q c3) := hc4.symm.trans c4
                    injection e4 with e4
                    injection e4 with e4a e4b e4c
                    injection e4a with e4a
                    injection e4a with e4a
                    subst e4a e4c
                    have h8 := c7 ((Z + X * Y) % m)
                    rw [hst] at h8
                    have hpr := Pl.prod_bdG r1 (by omega) hyb.1 (by omega)
                    have HO2 := Lib.hid (h8.more (show wr.heap.size ≤ (wr.drew.setCell ⟨br, u, none⟩ (.int .i64 ((Z + X * Y) % m))).heap.size by show wr.heap.size ≤ (wr.heap.modify _ _).size; simp))
                    have HB2 := Lib.hid (hbel.drew.setCell (p := ⟨br, u, none⟩) g2 (.int .i64 ((Z + X * Y) % m)))
                    have HC5 : Hid ((wr.drew.setCell ⟨br, u, none⟩ (.int .i64 ((Z + X * Y) % m))).cell? ⟨g, s, none⟩ = some (.slice (some ⟨br, 0, none⟩) Q cr)) :=
                      Lib.hid ((World.cell?_of_block (w := wr.drew) (Below.heap_setCell wr.drew ⟨br, u, none⟩ _ g (fun e => g4 e.symm))).trans hc4)
                    have p1 : IntKind.i64.wrap (X * Y) = X * Y := by rw [IntKind.wrap_i64]; omega
                    have p2 : IntKind.i64.wrap (Z + X * Y) = Z + X * Y := by rw [IntKind.wrap_i64]; omega
                    have p3 : 0 ≤ Z + X * Y := by omega
                    have p5 : (0 : Int) ≤ (j : Int) + (l : Int) := by omega
                    have p6 : (j : Int) + (l : Int) < (Q : Int) := by have := HQ.out; have := HIK.out; omega
                    have p7 : (0 : Int) ≤ (l : Int) := by omega
                    have p8 : (l : Int) < (M : Int) := by have := HMM.out; omega
                    have p9 : (i : Int) + (j : Int) + (k : Int) + (l : Int) < (L : Int) := by omega
                    have p10 : IntKind.i64.wrap ((j : Int) + (l : Int)) = (j : Int) + (l : Int) := by rw [IntKind.wrap_i64]; omega
                    have p11 : ((j : Int) + (l : Int)).toNat = u := by omega
                    clear hcel c4 c7 h8 hst hzb hyb hZ hY hown hbel hc4 hLd' kc hpr hu e4b h1 h2 h3 h4
                    go_wp2
                    go_still_tail 26, (by kernel_rfl)
                    change wpList _ _ _ _ _ wr.drew
                    go_wp2
                    go_roundw
                    case rel => exact ⟨l + 1, by omega, by go_num, HO2.out, HC5.out, HB2.out⟩
                    case measure => simp only [intOf]; omega
                  · have hlL : i + j + k + l = L := by omega
                    have ho := HO.out
                    rw [Pl.T2_rowend m d _ _ i j k l (by omega)] at ho
                    have HO2 := Lib.hid ho
                    have p9 : ¬ ((i : Int) + (j : Int) + (k : Int) + (l : Int) < (L : Int)) := by omega
                    clear hown hbel hc4 hLd' ho hlL
                    go_wp2
                    go_roundw
                    case rel => exact ⟨k + 1, by omega, by go_num, HO2.out, HB.out⟩
                    case measure => simp only [intOf]; omega
              · have hkL : i + j + k = L := by omega
                have ho := HO.out
                rw [Pl.T2_end m d _ _ i j k (by omega)] at ho
                have HO2 := Lib.hid ho
                have p9 : ¬ ((i : Int) + (j : Int) + (k : Int) < (L : Int)) := by omega
                clear hown hbel hLd' ho hkL
                go_wp2
                go_roundw
                case rel => exact ⟨j + 1, by omega, by go_num, HO2.out, HB.out⟩
                case measure => simp only [intOf]; omega
        · have hjL : i + j = d + 1 := by omega
          have ho := HO.out
          rw [Pl.S2_next m d _ _ i j hjL] at ho
          have HO2 := Lib.hid ho
          have p9 : ¬ ((i : Int) + (j : Int) < (L : Int)) := by omega
          clear hown hbel hLd' ho hjL
          go_wp2
          go_roundw
          case rel => exact ⟨i + 1, by omega, by go_num, HO2.out, HB.out⟩
          case measure => simp only [intOf]; omega
    · obtain rfl : i = d + 1 := by have := HL.out; omega
      have ho := HO.out
      rw [Pl.S2_last] at ho
      have HF := Lib.hid ho
      clear ho
      go_wp2
      go_ret
      exact ⟨_, rfl, HF.out, HB.out⟩
theorem cut_rowG {m : Int} {d : Nat} {t : List (List Int)} (hs : Pl.OkG m d t) (e q : Nat) (he : e ≤ d) (hq : q ≤ e) : Ser.cut m (e - q) (Pl.pc t q) = (Pl.rw' t q).take (e - q + 1) := by
  refine Ser.list_ext (by rw [Ser.cut_length, List.length_take, hs.row q (by omega)]; omega) (fun i hi => ?_)
  rw [Ser.cut_length] at hi
  rw [Ser.co_cut (by omega), Int.emod_eq_of_lt (hs.pc q i).1 (hs.pc q i).2]
  unfold Pl.pc Ser.co
  rw [List.getElem?_take_of_lt (by omega)]
set_option maxHeartbeats 2000000 in
set_option maxRecDepth 100000 in
theorem l03Cut_anyG (m : Int) (d : Nat) (A : Option Addr) (c : Nat) (t : List (List Int)) (e : Nat) (w : World) (hs : Pl.OkG m d t) (hr : RP w A t) (he : e ≤ d) :
    Calls Try.prog 35 #[.slice A t.length c, .int .i64 e] w fun e' w' => ∃ v, e' = .returned v ∧ OwnR w' w.heap.size w'.heap.size v (Pl.tab m e (Pl.pc t)) ∧ Below w.heap.size w w' := by
  have HR := Lib.hid hr
  have HS := Lib.hid hs
  have hl := hs.len
  have hd2 := hs.d2
  obtain ⟨L, hL⟩ : ∃ L, t.length = L := ⟨_, rfl⟩
  have HL := Lib.hid (hL.symm.trans hl)
  have hLb : L ≤ 11 := by omega
  have HE := Lib.hid he
  have heb : e ≤ 10 := by omega
  rw [hL]
  clear hr hs hL hl he
  go_enter Try.func35, Try.ntmps35
  go_wp2
  go_loopw [5, 6] (fun r i wr => ∃ q : Nat, q ≤ e + 1 ∧ i = .int .i64 q ∧ OwnR wr w.heap.size wr.heap.size r ((Pl.tab m e (Pl.pc t)).take q) ∧ Below w.heap.size w wr) (fun _ i _ => e + 1 - (intOf i).toNat)
  case atStart => exact ⟨0, Nat.zero_le _, rfl, by simpa using OwnR.none0 w, below_one _ _⟩
  case round =>
    obtain ⟨q, hq, rfl, hown, hbel⟩ := hrel
    have HB := Lib.hid hbel
    have HO := Lib.hid hown
    have hsz := hbel.size
    clear hown
    by_cases hlt : q < e + 1
    · have hLd := HL.out
      have hed := HE.out
      obtain ⟨b, off, A1, c1, rfl, hb, hc, hcap, hri⟩ := HR.out.at q (by rw [HS.out.len]; omega)
      have e1 := (hbel.cell (p := ⟨b, off + q, none⟩) hb).trans hc
      have hrl := HS.out.row q (by omega)
      obtain ⟨row, hrow⟩ : ∃ row, (Pl.rw' t q).take (e - q + 1) = row := ⟨_, rfl⟩
      have hrowl : row.length = e - q + 1 := by rw [← hrow, List.length_take, hrl]; omega
      have hst : (Pl.tab m e (Pl.pc t)).take (q + 1) = (Pl.tab m e (Pl.pc t)).take q ++ [row] := by rw [Pl.tab_take_succ m e _ q (by omega), cut_rowG HS.out e q hed (by omega), hrow]
      have HA := Lib.hid (l01Own_any A1 c1 row wr (by intro h; rw [h] at hrowl; simp at hrowl) (by omega) (by rw [← hrow]; exact (hri.below hbel).take _))
      have HLEN := Lib.hid (show ((Pl.tab m e (Pl.pc t)).take q).length ≤ 1000000000000 by rw [List.length_take, Pl.tab_length]; omega)
      obtain ⟨M, hM⟩ : ∃ M, row.length = M := ⟨_, rfl⟩
      obtain ⟨N, hN⟩ : ∃ N, (Pl.rw' t q).length = N := ⟨_, rfl⟩
      rw [hM] at HA
      rw [hN] at e1 hcap hrl
      obtain ⟨b1, off1, hA1⟩ : ∃ b1 off1, A1 = some ⟨b1, off1, none⟩ := by
        obtain ⟨b1, off1, h1, _⟩ := hri.at 0 (by rw [hN]; omega)
        exact ⟨b1, off1, h1⟩
      subst hA1
      have HST := Lib.hid hst
      have HMM := Lib.hid hM
      have j0 : (0 : Int) ≤ (q : Int) := by omega
      have j1 : (q : Int) < (L : Int) := by omega
      have j2 : (q : Int) ≤ (e : Int) := by omega
      have j3 : (e : Int) - (q : Int) + 1 = (M : Int) := by omega
      have j4 : M ≤ c1 := by omega
      have j5 : (M : Int) ≤ (c1 : Int) := by omega
      have j6 : M ≤ 11 := by omega
      clear hst hrow hri hc hLd hbel hrowl hM hN hrl hcap hed
      go_wp2_with fail
      refine HA.out.mono ?_
      rintro e' w5 ⟨u, rfl, hou, hb5⟩
      obtain ⟨Au, cu, rfl, -⟩ := hou.form
      go_wp2_with (at_builtin; refine wp_pushU _ _ _ (by rfl) (by rfl) Try.underlying23 w.heap.size wr.heap.size _ _ (by rfl) (HO.out.keep hb5) hb5.size (.slice Au row.length cu) row (hou.more hsz) (fun g hg => (hou.lt g hg).1) w5.heap.size rfl (by rfl) HLEN.out (Nat.le_trans hsz hb5.size) ?_; intro v' w1 ho1 hpb)
      have HB1 := Lib.hid ((HB.out.trans (hb5.mono hsz)).trans hpb)
      have HO1 := Lib.hid ho1
      clear ho1 hpb hou hb5
      go_wp2
      go_roundw
      case rel => exact ⟨q + 1, by omega, by go_num, by rw [HST.out]; exact HO1.out, HB1.out⟩
      case measure => simp only [intOf]; omega
    · obtain rfl : q = e + 1 := by omega
      have ho := HO.out
      rw [Pl.tab_take_all] at ho
      have HF := Lib.hid ho
      clear ho
      go_wp2
      go_ret
      exact ⟨_, rfl, HF.out, HB.out⟩
end Go.Proofs.Ytfhdgcndiljjcab

/- Contracts of neededCount and neededOf. -/
namespace Go.Proofs.Ytfhdgcndiljjcab
open Go.RowKit Go.WideShapes Go.ChangeShapes Go.ChangeAt

/-- the number of k from 1 on with p^k at most d, for p at least 2 and d at most 10 -/
def needN (p d : Nat) : Nat := ((List.range 4).filter fun j => p ^ (j + 1) ≤ d).length
theorem needN_le3 : ∀ p ∈ [2, 3, 5, 7], ∀ d ∈ List.range 11, needN p d ≤ 3 := by decide
theorem needN_is : ∀ p ∈ [2, 3, 5, 7], ∀ d ∈ List.range 11, ∀ k ∈ List.range 5, (k = 0 ∨ p ^ k ≤ d) → d < p ^ (k + 1) → needN p d = k := by decide
theorem needN_at : ∀ p ∈ [2, 3, 5, 7], ∀ d ∈ List.range 11, ∀ k ∈ List.range 5, (1 ≤ k ∧ k ≤ needN p d ↔ 1 ≤ k ∧ p ^ k ≤ d) := by decide
theorem in4 {p : Nat} (h : p = 2 ∨ p = 3 ∨ p = 5 ∨ p = 7) : p ∈ [2, 3, 5, 7] := by simp; exact h
theorem pow_lt11 {p : Nat} (h : p = 2 ∨ p = 3 ∨ p = 5 ∨ p = 7) {k d : Nat} (hd : d ≤ 10) (hk : p ^ k ≤ d) : k ≤ 3 := by
  apply Classical.byContradiction
  intro hn
  have h1 : 2 ^ 4 ≤ p ^ 4 := Nat.pow_le_pow_left (by omega) 4
  have h2 : p ^ 4 ≤ p ^ k := Nat.pow_le_pow_right (by omega) (by omega)
  omega
set_option maxHeartbeats 1000000 in
theorem neededCount_any (p d : Nat) (w : World) (hp : p = 2 ∨ p = 3 ∨ p = 5 ∨ p = 7) (hd : d ≤ 10) :
    Calls Try.prog 78 #[.int .i64 p, .int .i64 d] w fun e w' => e = .returned (.int .i64 (needN p d)) ∧ w = w' := by
  have HL := Lib.hid (fun k (h : p ^ k ≤ d) => pow_lt11 hp hd h)
  have HE := Lib.hid (fun k (hk : k ≤ 3) (h1 : k = 0 ∨ p ^ k ≤ d) (h2 : d < p ^ (k + 1)) => needN_is p (in4 hp) d (List.mem_range.2 (by omega)) k (List.mem_range.2 (by omega)) h1 h2)
  have hp7 : p ≤ 7 := by omega
  clear hp
  go_enter Try.func78, Try.ntmps78
  go_wp2
  go_loop [5, 6] (fun s5 s6 => ∃ k : Nat, k ≤ 3 ∧ (k = 0 ∨ p ^ k ≤ d) ∧ s5 = .int .i64 k ∧ s6 = .int .i64 (p ^ (k + 1) : Nat)) (fun s5 _ => 4 - (intOf s5).toNat)
  case atStart => exact ⟨0, by omega, .inl rfl, rfl, by rw [Nat.zero_add, Nat.pow_one]⟩
  case round =>
    obtain ⟨k, hk, hk2, rfl, rfl⟩ := hrel
    have HK := Lib.hid hk2
    obtain ⟨q, hq⟩ : ∃ q, p ^ (k + 1) = q := ⟨_, rfl⟩
    have HQ := Lib.hid hq
    rw [hq]
    clear hq hk2
    by_cases hlt : q ≤ d
    · have i1 : (q : Int) ≤ (d : Int) := by omega
      have h3 := HL.out (k + 1) (by rw [HQ.out]; exact hlt)
      have hm : 0 ≤ (q : Int) * (p : Int) ∧ (q : Int) * (p : Int) ≤ 70 := by
        refine ⟨Int.mul_nonneg (by omega) (by omega), ?_⟩
        have := Int.mul_le_mul (show (q : Int) ≤ 10 by omega) (show (p : Int) ≤ 7 by omega) (by omega) (by omega)
        omega
      have HM := Lib.hid (show (q : Int) * (p : Int) = ((p ^ (k + 1 + 1) : Nat) : Int) by rw [Nat.pow_succ, HQ.out, Int.natCast_mul])
      go_wp2
      go_round
      case rel => exact ⟨k + 1, by omega, .inr (by rw [HQ.out]; exact hlt), by go_num, by rw [HM.out]⟩
      case measure => simp only [intOf]; omega
    · have i1 : ¬ (q : Int) ≤ (d : Int) := by omega
      have HN := Lib.hid (HE.out k hk HK.out (by rw [HQ.out]; omega))
      go_wp2
      go_ret
      exact ⟨ret_int (by rw [HN.out]), rfl⟩
/-- the first c numbers of a list; missing ones are 0 -/
def ndL (c : Nat) (l : List Int) : List Int := (List.range c).map (Ser.co l)
theorem ndL_length (c : Nat) (l : List Int) : (ndL c l).length = c := by simp [ndL]
theorem ndL_co (c : Nat) (l : List Int) (i : Nat) : Ser.co (ndL c l) i = if i < c then Ser.co l i else 0 := by
  by_cases h : i < c
  · rw [if_pos h]
    unfold ndL
    show ((List.range c).map (Ser.co l))[i]?.getD 0 = _
    rw [List.getElem?_map, List.getElem?_range h]; rfl
  · rw [if_neg h, Ser.co_over (by rw [ndL_length]; omega)]
theorem ndL_splice (c : Nat) (l : List Int) : splice (List.replicate c (Value.int .i64 0)) 0 ((l.take c).map (Value.int .i64)) = (ndL c l).map (Value.int .i64) := by
  unfold splice
  rw [List.take_zero, List.nil_append, Nat.zero_add]
  apply List.ext_getElem?
  intro i
  unfold ndL
  rw [List.map_map, List.getElem?_map, List.getElem?_append, List.length_map, List.length_take]
  by_cases h1 : i < min c l.length
  · rw [if_pos h1, List.getElem?_map, List.getElem?_take_of_lt (by omega), List.getElem?_eq_getElem (by omega), List.getElem?_range (by omega)]
    show some (Value.int .i64 l[i]) = some (Value.int .i64 (Ser.co l i))
    unfold Ser.co
    rw [List.getElem?_eq_getElem (by omega)]; rfl
  · rw [if_neg h1, List.getElem?_drop, List.getElem?_replicate]
    by_cases h2 : i < c
    · rw [if_pos (by omega), List.getElem?_range h2]
      show some (Value.int .i64 0) = some (Value.int .i64 (Ser.co l i))
      rw [Ser.co_over (by omega)]
    · rw [if_neg (by omega), List.getElem?_eq_none (by simp; omega)]; rfl
set_option maxHeartbeats 2000000 in
theorem neededOf_any (p d : Nat) (A : Option Addr) (c : Nat) (l : List Int) (w : World) (hp : p = 2 ∨ p = 3 ∨ p = 5 ∨ p = 7) (hd : d ≤ 10) (hr : RI w A l) :
    Calls Try.prog 58 #[.int .i64 p, .int .i64 d, .slice A l.length c] w fun e w' => ∃ v, e = .returned v ∧ OwnI w' w.heap.size v (ndL (needN p d) l) ∧ Below w.heap.size w w' := by
  have HC := Lib.hid (neededCount_any p d w hp hd)
  obtain ⟨N, hN⟩ : ∃ N, needN p d = N := ⟨_, rfl⟩
  have hN3 : N ≤ 3 := by rw [← hN]; exact needN_le3 p (in4 hp) d (List.mem_range.2 (by omega))
  rw [hN] at HC ⊢
  have hmk := fun W => run_make_row' (P := Try.prog) 22 2 (.int .i64 0) 8 Try.underlying22 info64 rfl .i64 .i64 N (by omega) (by omega) W
  obtain ⟨Z, hZ⟩ : ∃ Z, (l.take N).map (Value.int .i64) = Z := ⟨_, rfl⟩
  have hZl : Z.length = min N l.length := by rw [← hZ, List.length_map, List.length_take]
  have hZ1 : ∀ v ∈ Z, v.oneCell' = true := by rw [← hZ]; exact cells1 _
  have hn : 0 < Z.length → ∃ ad, A = some ad ∧ ∀ j v, Z[j]? = some v → (w.alloc (.cells (madeCells #[.int .i64 0] N) 2)).cell? (ad.add j) = some v := by
    intro h0
    have hne : l.take N ≠ [] := by
      intro e
      rw [e] at hZ
      rw [← hZ] at h0
      simp at h0
    obtain ⟨b, off, e, hc⟩ := ((hr.below (below_one w (.cells (madeCells #[.int .i64 0] N) 2))).take N).news hne
    rw [hZ] at hc
    exact ⟨_, e, hc⟩
  have hcur : (w.alloc (.cells (madeCells #[.int .i64 0] N) 2)).heap[w.heap.size]? = some (.cells (List.replicate N (Value.int .i64 0)).toArray 2 (0, 0)) := by
    rw [heap_alloc_new]
    congr 2
    apply Array.ext'
    rw [toList_madeCells_one]
  have hsp : splice (List.replicate N (Value.int .i64 0)) 0 Z = (ndL N l).map (Value.int .i64) := by rw [← hZ]; exact ndL_splice N l
  have HZL := Lib.hid hZl
  have HSP := Lib.hid hsp
  have HN := Lib.hid hn
  have HCU := Lib.hid hcur
  clear hZ hZl hsp hn hcur hr hN hp
  go_enter Try.func58, Try.ntmps58
  go_wp2_with (first
    | (go_at_call 78; refine HC.out.mono ?_; rintro e w' ⟨rfl, rfl⟩)
    | (refine wpList_copy_splice (by rfl) _ _ _ _ (by rfl) 2 Try.underlying22 (by kernel_rfl) _ _ _ _ _ _ (by rfl) (by rfl) w.heap.size 0 _ 2 HCU.out Z (by rw [HZL.out]; exact Nat.min_comm _ _) (fun h => ⟨rfl, HN.out h⟩) (by rw [HZL.out]; simp; omega) hZ1 w.heap.size w (below_one _ _) (Nat.le_refl _) ?_; intro w2 HG2 hB2))
  have hg2 := HG2.out
  rw [HSP.out] at hg2
  have HF : Hid (OwnI w2 w.heap.size (.slice (some ⟨w.heap.size, 0, none⟩) N N) (ndL N l)) := by
    refine Lib.hid ⟨by rw [List.length_map, Nat.mul_one], .inr ⟨w.heap.size, N, ((ndL N l).map (Value.int .i64)).toArray, by rw [ndL_length], Nat.le_refl _, hg2, by rw [ndL_length]; exact Nat.le_refl _, by unfold maxLen; omega, by rw [List.size_toArray, List.length_map, ndL_length]; omega, ?_⟩⟩
    simp [ndL_length]
    exact List.take_of_length_le (by simp [ndL_length])
  have HB := Lib.hid hB2
  clear hg2 HG2 hB2
  go_wp2
  go_ret
  exact ⟨_, rfl, HF.out, HB.out⟩

end Go.Proofs.Ytfhdgcndiljjcab

/- Contracts of the model's typical laws: most, copies and powers of tables. -/
namespace Go.Proofs.Ytfhdgcndiljjcab
open Go.RowKit Go.WideShapes Go.ChangeShapes Go.ChangeAt

set_option maxHeartbeats 1000000 in
theorem l09Most_any (p d : Nat) (w : World) (hp : p = 2 ∨ p = 3 ∨ p = 5 ∨ p = 7) (hd1 : 1 ≤ d) (hd : d ≤ 10) :
    Calls Try.prog 30 #[.int .i64 p, .int .i64 d] w fun e w' => e = .returned (.tuple #[.int .i64 (needN p d), .int .i64 (p ^ needN p d : Nat)]) ∧ w = w' := by
  have HL := Lib.hid (fun k (h : p ^ k ≤ d) => pow_lt11 hp hd h)
  have HE := Lib.hid (fun k (hk : k ≤ 3) (h1 : k = 0 ∨ p ^ k ≤ d) (h2 : d < p ^ (k + 1)) => needN_is p (in4 hp) d (List.mem_range.2 (by omega)) k (List.mem_range.2 (by omega)) h1 h2)
  have hp7 : p ≤ 7 := by omega
  clear hp
  go_enter Try.func30, Try.ntmps30
  go_wp2
  go_loop [6, 7] (fun s6 s7 => ∃ k : Nat, k ≤ 3 ∧ p ^ k ≤ d ∧ s6 = .int .i64 k ∧ s7 = .int .i64 (p ^ k : Nat)) (fun s6 _ => 4 - (intOf s6).toNat)
  case atStart => exact ⟨0, by omega, by rw [Nat.pow_zero]; exact hd1, rfl, rfl⟩
  case round =>
    obtain ⟨k, hk, hk2, rfl, rfl⟩ := hrel
    have HK := Lib.hid hk2
    have HQ2 := Lib.hid (Nat.pow_succ p k)
    obtain ⟨q, hq⟩ : ∃ q, p ^ k = q := ⟨_, rfl⟩
    have HQ := Lib.hid hq
    rw [hq] at hk2 ⊢
    clear hq
    have hm : 0 ≤ (q : Int) * (p : Int) ∧ (q : Int) * (p : Int) ≤ 70 := by
      refine ⟨Int.mul_nonneg (by omega) (by omega), ?_⟩
      have := Int.mul_le_mul (show (q : Int) ≤ 10 by omega) (show (p : Int) ≤ 7 by omega) (by omega) (by omega)
      omega
    have HM := Lib.hid (show (q : Int) * (p : Int) = ((p ^ (k + 1) : Nat) : Int) by rw [HQ2.out, HQ.out, Int.natCast_mul])
    by_cases hlt : (q : Int) * (p : Int) ≤ (d : Int)
    · have hle : p ^ (k + 1) ≤ d := by have := HM.out; omega
      have h3 := HL.out (k + 1) hle
      have HLE := Lib.hid hle
      clear hle
      go_wp2
      go_round
      case rel => exact ⟨k + 1, by omega, HLE.out, by go_num, by rw [HM.out]⟩
      case measure => simp only [intOf]; omega
    · have HN := Lib.hid (HE.out k hk (.inr HK.out) (by have := HM.out; omega))
      go_wp2
      go_ret2
      exact ⟨ret_ii (by rw [HN.out]) (by rw [HN.out, ← HQ.out]; first | rfl | simp), rfl⟩
theorem row_self {m : Int} {d : Nat} {t : List (List Int)} (hs : Pl.OkG m d t) (q : Nat) (hq : q ≤ d) : Ser.cut m (d - q) (Pl.pc t q) = Pl.rw' t q := Ser.cut_self (hs.row q hq) (hs.red q)
set_option maxHeartbeats 2000000 in
set_option maxRecDepth 100000 in
theorem l01Own2_any (m : Int) (d : Nat) (A : Option Addr) (c : Nat) (t : List (List Int)) (w : World) (hs : Pl.OkG m d t) (hr : RP w A t) :
    Calls Try.prog 50 #[.slice A t.length c] w fun e' w' => ∃ v, e' = .returned v ∧ OwnR w' w.heap.size w'.heap.size v (Pl.tab m d (Pl.pc t)) ∧ Below w.heap.size w w' := by
  have HR := Lib.hid hr
  have HS := Lib.hid hs
  have hl := hs.len
  have hd2 := hs.d2
  obtain ⟨L, hL⟩ : ∃ L, t.length = L := ⟨_, rfl⟩
  have HL := Lib.hid (hL.symm.trans hl)
  have hLb : L ≤ 11 := by omega
  rw [hL]
  clear hr hs hL hl
  go_enter Try.func50, Try.ntmps50
  go_wp2
  go_loopw [3, 4] (fun r i wr => ∃ q : Nat, q ≤ L ∧ i = .int .i64 q ∧ OwnR wr w.heap.size wr.heap.size r ((Pl.tab m d (Pl.pc t)).take q) ∧ Below w.heap.size w wr) (fun _ i _ => L - (intOf i).toNat)
  case atStart => exact ⟨0, Nat.zero_le _, rfl, by simpa using OwnR.none0 w, below_one _ _⟩
  case round =>
    obtain ⟨q, hq, rfl, hown, hbel⟩ := hrel
    have HB := Lib.hid hbel
    have HO := Lib.hid hown
    have hsz := hbel.size
    clear hown
    by_cases hlt : q < L
    · have hLd := HL.out
      obtain ⟨b, off, A1, c1, rfl, hb, hc, hcap, hri⟩ := HR.out.at q (by rw [HS.out.len]; omega)
      have e1 := (hbel.cell (p := ⟨b, off + q, none⟩) hb).trans hc
      have hrl := HS.out.row q (by omega)
      obtain ⟨row, hrow⟩ : ∃ row, Pl.rw' t q = row := ⟨_, rfl⟩
      have hst : (Pl.tab m d (Pl.pc t)).take (q + 1) = (Pl.tab m d (Pl.pc t)).take q ++ [row] := by rw [Pl.tab_take_succ m d _ q (by omega), row_self HS.out q (by omega), hrow]
      rw [hrow] at hrl hri e1
      have HA := Lib.hid (l01Own_any A1 c1 row wr (by intro h; rw [h] at hrl; simp at hrl) (by omega) (hri.below hbel))
      have HLEN := Lib.hid (show ((Pl.tab m d (Pl.pc t)).take q).length ≤ 1000000000000 by rw [List.length_take, Pl.tab_length]; omega)
      obtain ⟨M, hM⟩ : ∃ M, row.length = M := ⟨_, rfl⟩
      rw [hM] at HA e1
      have HST := Lib.hid hst
      have j0 : (0 : Int) ≤ (q : Int) := by omega
      have j1 : (q : Int) < (L : Int) := by omega
      clear hst hri hc hLd hbel hM hrl hcap hrow
      go_wp2_with fail
      refine HA.out.mono ?_
      rintro e' w5 ⟨u, rfl, hou, hb5⟩
      obtain ⟨Au, cu, rfl, -⟩ := hou.form
      go_wp2_with (at_builtin; refine wp_pushU _ _ _ (by rfl) (by rfl) Try.underlying23 w.heap.size wr.heap.size _ _ (by rfl) (HO.out.keep hb5) hb5.size (.slice Au row.length cu) row (hou.more hsz) (fun g hg => (hou.lt g hg).1) w5.heap.size rfl (by rfl) HLEN.out (Nat.le_trans hsz hb5.size) ?_; intro v' w1 ho1 hpb)
      have HB1 := Lib.hid ((HB.out.trans (hb5.mono hsz)).trans hpb)
      have HO1 := Lib.hid ho1
      clear ho1 hpb hou hb5
      go_wp2
      go_roundw
      case rel => exact ⟨q + 1, by omega, by go_num, by rw [HST.out]; exact HO1.out, HB1.out⟩
      case measure => simp only [intOf]; omega
    · obtain rfl : q = L := by omega
      have ho := HO.out
      rw [HL.out, Pl.tab_take_all] at ho
      have HF := Lib.hid ho
      clear ho
      go_wp2
      go_ret
      exact ⟨_, rfl, HF.out, HB.out⟩
/-- powers of a table -/
def Pl.pwF (F : Nat → Nat → Int) : Nat → Nat → Nat → Int
  | 0 => Pl.one2 1
  | k + 1 => Pl.mul2 (Pl.pwF F k) F
theorem Pl.pwF_one (F : Nat → Nat → Int) : Pl.pwF F 1 = F := by
  show Pl.mul2 (Pl.one2 1) F = F
  rw [Pl.one2_mul2, Pl.one_sm]
theorem Pl.pwF_congr {m : Int} {d : Nat} {F G : Nat → Nat → Int} (h : Pl.Eq m d F G) : ∀ k, Pl.Eq m d (Pl.pwF F k) (Pl.pwF G k)
  | 0 => Pl.Eq.refl _ _ _
  | k + 1 => Pl.Eq.mul2 (Pl.pwF_congr h k) h
set_option maxHeartbeats 2000000 in
set_option maxRecDepth 100000 in
theorem l09Power_any (m : Int) (d : Nat) (A : Option Addr) (c : Nat) (t : List (List Int)) (K : Nat) (w : World) (hs : Pl.OkG m d t) (hK : 1 ≤ K) (hK2 : K ≤ 1000000) (hr : RP w A t) :
    Calls Try.prog 51 #[.int .i64 m, .slice A t.length c, .int .i64 K] w fun e w' => ∃ A1 c1, e = .returned (.slice A1 (d + 1) c1) ∧ RP w' A1 (Pl.tab m d (Pl.pwF (Pl.pc t) K)) ∧ Below w.heap.size w w' := by
  have HT := Lib.hid (fun (j : Nat) A1 c1 W0 (h1 : RP W0 A1 (Pl.tab m d (Pl.pwF (Pl.pc t) j))) (h2 : RP W0 A t) => by
    have := l03Times_anyG m d A1 c1 (Pl.tab m d (Pl.pwF (Pl.pc t) j)) A c t W0 (hs.tab _) hs h1 h2
    rw [Pl.tab_length, hs.len, Pl.tab_congr (Pl.Eq.mul2 (Pl.pc_tab_eq m d (Pl.pwF (Pl.pc t) j)) (Pl.Eq.refl m d (Pl.pc t)))] at this
    exact this)
  have H1 : RP w A (Pl.tab m d (Pl.pwF (Pl.pc t) 1)) := by rw [Pl.pwF_one, ← hs.self]; exact hr
  have HR1 := Lib.hid H1
  have HR := Lib.hid hr
  have hl := hs.len
  rw [hl]
  clear hs hr H1 hl
  go_enter Try.func51, Try.ntmps51
  go_wp2
  go_loopw [2, 7] (fun s2 s7 wr => ∃ (j : Nat) (A1 : Option Addr) (c1 : Nat), 1 ≤ j ∧ j ≤ K ∧ s2 = .int .i64 ((K : Int) - (j : Int) + 1) ∧ s7 = .slice A1 (d + 1) c1 ∧ RP wr A1 (Pl.tab m d (Pl.pwF (Pl.pc t) j)) ∧ Below w.heap.size w wr) (fun s2 _ _ => (intOf s2).toNat)
  case atStart => exact ⟨1, A, c, Nat.le_refl _, hK, by go_num, rfl, HR1.out, Below.refl _ _⟩
  case round =>
    obtain ⟨j, A1, c1, hj1, hj2, rfl, rfl, hrp, hb⟩ := hrel
    have HRP := Lib.hid hrp
    have HB := Lib.hid hb
    clear hrp hb
    by_cases hlt : j < K
    · have i1 : (K : Int) - (j : Int) + 1 > 1 := by omega
      go_wp2_with fail
      refine (HT.out j A1 c1 wr HRP.out (HR.out.below HB.out)).mono ?_
      rintro e w1 ⟨v, rfl, ho, hb1⟩
      obtain ⟨A2, c2, hv2, -⟩ := ho.len
      subst hv2
      rw [Pl.tab_length] at ho ⊢
      have hrp := ho.rp
      have hb2 := below_step HB.out hb1
      clear ho hb1
      go_wp2
      go_roundw
      case rel => exact ⟨j + 1, A2, c2, by omega, by omega, by go_num, rfl, hrp, hb2⟩
      case measure => simp only [intOf]; omega
    · obtain rfl : j = K := by omega
      have i1 : ¬ ((j : Int) - (j : Int) + 1 > 1) := by omega
      go_wp2
      go_ret
      exact ⟨A1, ⟨c1, rfl⟩, HRP.out, HB.out⟩

end Go.Proofs.Ytfhdgcndiljjcab

/- Plain: Hazewinkel's theorem up to degree 10, by certificates: the typical laws of 2, 3, 5, 7 with whole polynomials as coefficients. Written by wip/tools/mk_tyc.py. -/
namespace Go.Proofs.Ytfhdgcndiljjcab
namespace Tyc

/-- c v1^a v2^b v3^e -/
structure Mo where
  c : Int
  a : Nat
  b : Nat
  e : Nat
abbrev Po := List Mo
def same (x y : Mo) : Bool := x.a == y.a && x.b == y.b && x.e == y.e
def ins (x : Mo) : Po → Po
  | [] => [x]
  | y :: l => if same x y then ⟨x.c + y.c, y.a, y.b, y.e⟩ :: l else y :: ins x l
def add (p q : Po) : Po := p.foldr ins q
def poMon (x : Mo) (q : Po) : Po := q.map fun y => ⟨x.c * y.c, x.a + y.a, x.b + y.b, x.e + y.e⟩
def poMul (p q : Po) : Po := p.foldr (fun x acc => add (poMon x q) acc) []
def smul (k : Int) (q : Po) : Po := q.map fun y => ⟨k * y.c, y.a, y.b, y.e⟩
def allZ (p : Po) : Bool := p.all fun x => x.c == 0
def rsum (f : Nat → Po) : Nat → Po
  | 0 => []
  | n + 1 => add (rsum f n) (f n)
def get (T : List (List Po)) (i j : Nat) : Po := (T[i]?.getD [])[j]?.getD []
def tabP (d : Nat) (f : Nat → Nat → Po) : List (List Po) := (List.range (d + 1)).map fun i => (List.range (d + 1 - i)).map (f i)
def poTim (d : Nat) (T U : List (List Po)) : List (List Po) := tabP d fun p q => rsum (fun k => rsum (fun l => if (get T k l).isEmpty then [] else poMul (get T k l) (get U (p - k) (q - l))) (q + 1)) (p + 1)

def mev (v : Nat → Int) (x : Mo) : Int := x.c * (v 0 ^ x.a * (v 1 ^ x.b * v 2 ^ x.e))
def pev (v : Nat → Int) : Po → Int
  | [] => 0
  | x :: l => mev v x + pev v l
theorem pev_ins (v : Nat → Int) (x : Mo) : ∀ l, pev v (ins x l) = mev v x + pev v l
  | [] => rfl
  | y :: l => by
    unfold ins
    by_cases h : same x y = true
    · rw [if_pos h]
      unfold same at h
      simp only [Bool.and_eq_true, beq_iff_eq] at h
      show mev v ⟨x.c + y.c, y.a, y.b, y.e⟩ + pev v l = mev v x + (mev v y + pev v l)
      unfold mev
      dsimp only
      rw [h.1.1, h.1.2, h.2, Int.add_mul]; omega
    · rw [if_neg h]
      show mev v y + pev v (ins x l) = mev v x + (mev v y + pev v l)
      rw [pev_ins v x l]; omega
theorem pev_add (v : Nat → Int) (q : Po) : ∀ p, pev v (add p q) = pev v p + pev v q
  | [] => by show pev v q = 0 + pev v q; omega
  | x :: p => by
    show pev v (ins x (add p q)) = mev v x + pev v p + pev v q
    rw [pev_ins, pev_add v q p]; omega
theorem pev_poMon (v : Nat → Int) (x : Mo) : ∀ q, pev v (poMon x q) = mev v x * pev v q
  | [] => by show (0 : Int) = _ * 0; omega
  | y :: q => by
    show mev v ⟨x.c * y.c, x.a + y.a, x.b + y.b, x.e + y.e⟩ + pev v (poMon x q) = mev v x * (mev v y + pev v q)
    rw [pev_poMon v x q, Int.mul_add]
    congr 1
    unfold mev
    dsimp only
    rw [Int.pow_add, Int.pow_add, Int.pow_add]
    grind
theorem pev_poMul (v : Nat → Int) (q : Po) : ∀ p, pev v (poMul p q) = pev v p * pev v q
  | [] => by show (0 : Int) = 0 * _; omega
  | x :: p => by
    show pev v (add (poMon x q) (poMul p q)) = (mev v x + pev v p) * pev v q
    rw [pev_add, pev_poMon, pev_poMul v q p, Int.add_mul]
theorem pev_smul (v : Nat → Int) (k : Int) : ∀ q, pev v (smul k q) = k * pev v q
  | [] => by show (0 : Int) = _ * 0; omega
  | y :: q => by
    show mev v ⟨k * y.c, y.a, y.b, y.e⟩ + pev v (smul k q) = k * (mev v y + pev v q)
    rw [pev_smul v k q, Int.mul_add]
    congr 1
    unfold mev
    dsimp only
    rw [Int.mul_assoc]
theorem pev_allZ (v : Nat → Int) : ∀ p, allZ p = true → pev v p = 0
  | [], _ => rfl
  | x :: p, h => by
    unfold allZ at h
    rw [List.all_cons, Bool.and_eq_true, beq_iff_eq] at h
    show mev v x + pev v p = 0
    rw [pev_allZ v p h.2]
    unfold mev
    rw [h.1, Int.zero_mul]; rfl
theorem pev_rsum (v : Nat → Int) (f : Nat → Po) : ∀ n, pev v (rsum f n) = Ser.psum (fun i => pev v (f i)) n
  | 0 => rfl
  | n + 1 => by
    show pev v (add (rsum f n) (f n)) = _
    rw [pev_add, pev_rsum v f n, Ser.psum]
/-- the table of the values -/
def evT (v : Nat → Int) (T : List (List Po)) : Nat → Nat → Int := fun i j => pev v (get T i j)
theorem get_tab {d : Nat} {f : Nat → Nat → Po} {i j : Nat} (h : i + j ≤ d) : get (tabP d f) i j = f i j := by
  unfold get tabP
  rw [List.getElem?_map, List.getElem?_range (by omega)]
  show (((List.range (d + 1 - i)).map (f i))[j]?).getD [] = _
  rw [List.getElem?_map, List.getElem?_range (by omega)]; rfl
theorem evT_poT (v : Nat → Int) (d : Nat) (T U : List (List Po)) (p q : Nat) (h : p + q ≤ d) : evT v (poTim d T U) p q = Pl.mul2 (evT v T) (evT v U) p q := by
  unfold evT poTim Pl.mul2
  rw [get_tab h, pev_rsum]
  refine Ser.psum_ext _ (fun k _ => ?_)
  rw [pev_rsum]
  refine Ser.psum_ext _ (fun l _ => ?_)
  by_cases he : (get T k l).isEmpty = true
  · rw [if_pos he]
    rw [List.isEmpty_iff] at he
    show (0 : Int) = pev v (get T k l) * _
    rw [he]
    show (0 : Int) = 0 * _
    rw [Int.zero_mul]
  · rw [if_neg he, pev_poMul]
/-- equal up to the degree -/
def Up (d : Nat) (a b : Nat → Nat → Int) : Prop := ∀ i j, i + j ≤ d → a i j = b i j
theorem Up.mul {d : Nat} {a a' b b' : Nat → Nat → Int} (h : Up d a a') (k : Up d b b') : Up d (Pl.mul2 a b) (Pl.mul2 a' b') := fun i j hij => by
  unfold Pl.mul2
  exact Ser.psum_ext _ (fun x hx => Ser.psum_ext _ (fun y hy => by rw [h x y (by omega), k (i - x) (j - y) (by omega)]))
theorem evT_up (v : Nat → Int) (d : Nat) {T U : List (List Po)} {a b : Nat → Nat → Int} (h : Up d (evT v T) a) (k : Up d (evT v U) b) : Up d (evT v (poTim d T U)) (Pl.mul2 a b) := fun i j hij => by
  rw [evT_poT v d T U i j hij]
  exact Up.mul h k i j hij

/-! the laws -/
def FL2 : List (List (List Mo)) := [
  [[], [⟨1, 0, 0, 0⟩]],
  [[⟨1, 0, 0, 0⟩], [⟨-1, 1, 0, 0⟩], [⟨1, 2, 0, 0⟩], [⟨-2, 0, 1, 0⟩, ⟨-2, 3, 0, 0⟩], [⟨4, 1, 1, 0⟩, ⟨3, 4, 0, 0⟩], [⟨-6, 2, 1, 0⟩, ⟨-4, 5, 0, 0⟩], [⟨4, 0, 2, 0⟩, ⟨12, 3, 1, 0⟩, ⟨6, 6, 0, 0⟩], [⟨-4, 0, 0, 1⟩, ⟨-14, 1, 2, 0⟩, ⟨-24, 4, 1, 0⟩, ⟨-10, 7, 0, 0⟩], [⟨8, 1, 0, 1⟩, ⟨28, 2, 2, 0⟩, ⟨40, 5, 1, 0⟩, ⟨15, 8, 0, 0⟩], [⟨-8, 0, 3, 0⟩, ⟨-12, 2, 0, 1⟩, ⟨-58, 3, 2, 0⟩, ⟨-66, 6, 1, 0⟩, ⟨-22, 9, 0, 0⟩]],
  [[], [⟨1, 2, 0, 0⟩], [⟨-3, 0, 1, 0⟩, ⟨-4, 3, 0, 0⟩], [⟨11, 1, 1, 0⟩, ⟨10, 4, 0, 0⟩], [⟨-28, 2, 1, 0⟩, ⟨-21, 5, 0, 0⟩], [⟨18, 0, 2, 0⟩, ⟨75, 3, 1, 0⟩, ⟨43, 6, 0, 0⟩], [⟨-14, 0, 0, 1⟩, ⟨-89, 1, 2, 0⟩, ⟨-190, 4, 1, 0⟩, ⟨-88, 7, 0, 0⟩], [⟨46, 1, 0, 1⟩, ⟨257, 2, 2, 0⟩, ⟨420, 5, 1, 0⟩, ⟨169, 8, 0, 0⟩], [⟨-72, 0, 3, 0⟩, ⟨-104, 2, 0, 1⟩, ⟨-688, 3, 2, 0⟩, ⟨-880, 6, 1, 0⟩, ⟨-312, 9, 0, 0⟩]],
  [[], [⟨-2, 0, 1, 0⟩, ⟨-2, 3, 0, 0⟩], [⟨11, 1, 1, 0⟩, ⟨10, 4, 0, 0⟩], [⟨-43, 2, 1, 0⟩, ⟨-34, 5, 0, 0⟩], [⟨34, 0, 2, 0⟩, ⟨164, 3, 1, 0⟩, ⟨101, 6, 0, 0⟩], [⟨-28, 0, 0, 1⟩, ⟨-226, 1, 2, 0⟩, ⟨-551, 4, 1, 0⟩, ⟨-275, 7, 0, 0⟩], [⟨126, 1, 0, 1⟩, ⟨879, 2, 2, 0⟩, ⟨1586, 5, 1, 0⟩, ⟨680, 8, 0, 0⟩], [⟨-260, 0, 3, 0⟩, ⟨-382, 2, 0, 1⟩, ⟨-3001, 3, 2, 0⟩, ⟨-4192, 6, 1, 0⟩, ⟨-1573, 9, 0, 0⟩]],
  [[], [⟨4, 1, 1, 0⟩, ⟨3, 4, 0, 0⟩], [⟨-28, 2, 1, 0⟩, ⟨-21, 5, 0, 0⟩], [⟨34, 0, 2, 0⟩, ⟨164, 3, 1, 0⟩, ⟨101, 6, 0, 0⟩], [⟨-35, 0, 0, 1⟩, ⟨-302, 1, 2, 0⟩, ⟨-769, 4, 1, 0⟩, ⟨-394, 7, 0, 0⟩], [⟨203, 1, 0, 1⟩, ⟨1543, 2, 2, 0⟩, ⟨2933, 5, 1, 0⟩, ⟨1303, 8, 0, 0⟩], [⟨-523, 0, 3, 0⟩, ⟨-791, 2, 0, 1⟩, ⟨-6707, 3, 2, 0⟩, ⟨-9900, 6, 1, 0⟩, ⟨-3861, 9, 0, 0⟩]],
  [[], [⟨-6, 2, 1, 0⟩, ⟨-4, 5, 0, 0⟩], [⟨18, 0, 2, 0⟩, ⟨75, 3, 1, 0⟩, ⟨43, 6, 0, 0⟩], [⟨-28, 0, 0, 1⟩, ⟨-226, 1, 2, 0⟩, ⟨-551, 4, 1, 0⟩, ⟨-275, 7, 0, 0⟩], [⟨203, 1, 0, 1⟩, ⟨1543, 2, 2, 0⟩, ⟨2933, 5, 1, 0⟩, ⟨1303, 8, 0, 0⟩], [⟨-654, 0, 3, 0⟩, ⟨-1001, 2, 0, 1⟩, ⟨-8671, 3, 2, 0⟩, ⟨-13042, 6, 1, 0⟩, ⟨-5156, 9, 0, 0⟩]],
  [[], [⟨4, 0, 2, 0⟩, ⟨12, 3, 1, 0⟩, ⟨6, 6, 0, 0⟩], [⟨-14, 0, 0, 1⟩, ⟨-89, 1, 2, 0⟩, ⟨-190, 4, 1, 0⟩, ⟨-88, 7, 0, 0⟩], [⟨126, 1, 0, 1⟩, ⟨879, 2, 2, 0⟩, ⟨1586, 5, 1, 0⟩, ⟨680, 8, 0, 0⟩], [⟨-523, 0, 3, 0⟩, ⟨-791, 2, 0, 1⟩, ⟨-6707, 3, 2, 0⟩, ⟨-9900, 6, 1, 0⟩, ⟨-3861, 9, 0, 0⟩]],
  [[], [⟨-4, 0, 0, 1⟩, ⟨-14, 1, 2, 0⟩, ⟨-24, 4, 1, 0⟩, ⟨-10, 7, 0, 0⟩], [⟨46, 1, 0, 1⟩, ⟨257, 2, 2, 0⟩, ⟨420, 5, 1, 0⟩, ⟨169, 8, 0, 0⟩], [⟨-260, 0, 3, 0⟩, ⟨-382, 2, 0, 1⟩, ⟨-3001, 3, 2, 0⟩, ⟨-4192, 6, 1, 0⟩, ⟨-1573, 9, 0, 0⟩]],
  [[], [⟨8, 1, 0, 1⟩, ⟨28, 2, 2, 0⟩, ⟨40, 5, 1, 0⟩, ⟨15, 8, 0, 0⟩], [⟨-72, 0, 3, 0⟩, ⟨-104, 2, 0, 1⟩, ⟨-688, 3, 2, 0⟩, ⟨-880, 6, 1, 0⟩, ⟨-312, 9, 0, 0⟩]],
  [[], [⟨-8, 0, 3, 0⟩, ⟨-12, 2, 0, 1⟩, ⟨-58, 3, 2, 0⟩, ⟨-66, 6, 1, 0⟩, ⟨-22, 9, 0, 0⟩]]]
def FL3 : List (List (List Mo)) := [
  [[], [⟨1, 0, 0, 0⟩]],
  [[⟨1, 0, 0, 0⟩], [], [⟨-1, 1, 0, 0⟩], [], [⟨1, 2, 0, 0⟩], [], [⟨-1, 3, 0, 0⟩], [], [⟨-3, 0, 1, 0⟩]],
  [[], [⟨-1, 1, 0, 0⟩], [], [⟨3, 2, 0, 0⟩], [], [⟨-6, 3, 0, 0⟩], [], [⟨-12, 0, 1, 0⟩, ⟨6, 4, 0, 0⟩]],
  [[], [], [⟨3, 2, 0, 0⟩], [], [⟨-13, 3, 0, 0⟩], [], [⟨-28, 0, 1, 0⟩, ⟨27, 4, 0, 0⟩]],
  [[], [⟨1, 2, 0, 0⟩], [], [⟨-13, 3, 0, 0⟩], [], [⟨-42, 0, 1, 0⟩, ⟨52, 4, 0, 0⟩]],
  [[], [], [⟨-6, 3, 0, 0⟩], [], [⟨-42, 0, 1, 0⟩, ⟨52, 4, 0, 0⟩]],
  [[], [⟨-1, 3, 0, 0⟩], [], [⟨-28, 0, 1, 0⟩, ⟨27, 4, 0, 0⟩]],
  [[], [], [⟨-12, 0, 1, 0⟩, ⟨6, 4, 0, 0⟩]],
  [[], [⟨-3, 0, 1, 0⟩]]]
def FL5 : List (List (List Mo)) := [
  [[], [⟨1, 0, 0, 0⟩]],
  [[⟨1, 0, 0, 0⟩], [], [], [], [⟨-1, 1, 0, 0⟩], [], [], [], [⟨1, 2, 0, 0⟩]],
  [[], [], [], [⟨-2, 1, 0, 0⟩], [], [], [], [⟨6, 2, 0, 0⟩]],
  [[], [], [⟨-2, 1, 0, 0⟩], [], [], [], [⟨16, 2, 0, 0⟩]],
  [[], [⟨-1, 1, 0, 0⟩], [], [], [], [⟨25, 2, 0, 0⟩]],
  [[], [], [], [], [⟨25, 2, 0, 0⟩]],
  [[], [], [], [⟨16, 2, 0, 0⟩]],
  [[], [], [⟨6, 2, 0, 0⟩]],
  [[], [⟨1, 2, 0, 0⟩]]]
def FL7 : List (List (List Mo)) := [
  [[], [⟨1, 0, 0, 0⟩]],
  [[⟨1, 0, 0, 0⟩], [], [], [], [], [], [⟨-1, 1, 0, 0⟩]],
  [[], [], [], [], [], [⟨-3, 1, 0, 0⟩]],
  [[], [], [], [], [⟨-5, 1, 0, 0⟩]],
  [[], [], [], [⟨-5, 1, 0, 0⟩]],
  [[], [], [⟨-3, 1, 0, 0⟩]],
  [[], [⟨-1, 1, 0, 0⟩]]]


/-! Hazewinkel's numerators as polynomials, and the equation: the sum of p^(N - e) A(e) (F^(p^e) - x^(p^e) - y^(p^e)) is 0 -/
def A0 : Po := [⟨1, 0, 0, 0⟩]
def v1 (k : Nat) : Po := [⟨1, k, 0, 0⟩]
def v2 (k : Nat) : Po := [⟨1, 0, k, 0⟩]
def v3 (k : Nat) : Po := [⟨1, 0, 0, k⟩]
def A1 : Po := v1 1
def A2 (p : Nat) : Po := add (smul p (v2 1)) (poMul A1 (v1 p))
def A3 (p : Nat) : Po := add (add (smul (p ^ 2) (v3 1)) (smul p (poMul A1 (v2 p)))) (poMul (A2 p) (v1 (p ^ 2)))
def F2_2 := poTim 10 FL2 FL2
def F2_4 := poTim 10 F2_2 F2_2
def F2_8 := poTim 10 F2_4 F2_4
/-- all coefficients inside, up to degree 10 -/
def inAll (f : Nat → Nat → Bool) : Bool := (List.range 11).all fun n => (List.range 11).all fun i => !(decide (1 ≤ i ∧ i < n)) || f i (n - i)
def rest2 (i j : Nat) : Po := add (add (add (smul 8 (get FL2 i j)) (smul 4 (poMul A1 (get F2_2 i j)))) (smul 2 (poMul (A2 2) (get F2_4 i j)))) (poMul (A3 2) (get F2_8 i j))
def F3_3 := poTim 10 (poTim 10 FL3 FL3) FL3
def F3_9 := poTim 10 (poTim 10 F3_3 F3_3) F3_3
def F5_2 := poTim 10 FL5 FL5
def F5_4 := poTim 10 F5_2 F5_2
def F5_5 := poTim 10 F5_4 FL5
def F7_2 := poTim 10 FL7 FL7
def F7_4 := poTim 10 F7_2 F7_2
def F7_7 := poTim 10 (poTim 10 F7_4 F7_2) FL7
def rest3 (i j : Nat) : Po := add (add (smul 9 (get FL3 i j)) (smul 3 (poMul A1 (get F3_3 i j)))) (poMul (A2 3) (get F3_9 i j))
def rest5 (i j : Nat) : Po := add (smul 5 (get FL5 i j)) (poMul A1 (get F5_5 i j))
def rest7 (i j : Nat) : Po := add (smul 7 (get FL7 i j)) (poMul A1 (get F7_7 i j))
set_option maxRecDepth 100000 in
theorem cert2 : inAll (fun i j => allZ (rest2 i j)) = true := by decide +kernel
set_option maxRecDepth 100000 in
theorem cert3 : inAll (fun i j => allZ (rest3 i j)) = true := by decide +kernel
set_option maxRecDepth 100000 in
theorem cert5 : inAll (fun i j => allZ (rest5 i j)) = true := by decide +kernel
set_option maxRecDepth 100000 in
theorem cert7 : inAll (fun i j => allZ (rest7 i j)) = true := by decide +kernel
theorem inAll_at {f : Nat → Nat → Bool} (h : inAll f = true) {i j : Nat} (h1 : 1 ≤ i) (h2 : 1 ≤ j) (h3 : i + j ≤ 10) : f i j = true := by
  unfold inAll at h
  rw [List.all_eq_true] at h
  have := h (i + j) (List.mem_range.2 (by omega))
  rw [List.all_eq_true] at this
  have := this i (List.mem_range.2 (by omega))
  rw [Bool.or_eq_true, Bool.not_eq_true', decide_eq_false_iff_not, show i + j - i = j by omega] at this
  rcases this with h4 | h4
  · exact absurd ⟨h1, by omega⟩ h4
  · exact h4
/-- the law of p -/
def FLp (p : Nat) : List (List Po) := if p = 2 then FL2 else if p = 3 then FL3 else if p = 5 then FL5 else FL7
def fam (p : Nat) (v : Nat → Int) : Nat → Nat → Int := evT v (FLp p)
/-- the greatest exponent of p that degree 10 knows -/
def n10 (p : Nat) : Nat := if p = 2 then 3 else if p = 3 then 2 else 1
theorem pwF_add (F : Nat → Nat → Int) (a : Nat) : ∀ b, Pl.pwF F (a + b) = Pl.mul2 (Pl.pwF F a) (Pl.pwF F b)
  | 0 => by
    show Pl.pwF F a = Pl.mul2 (Pl.pwF F a) (Pl.one2 1)
    rw [Pl.mul2_one2, Pl.one_sm]
  | b + 1 => by
    show Pl.mul2 (Pl.pwF F (a + b)) F = Pl.mul2 (Pl.pwF F a) (Pl.mul2 (Pl.pwF F b) F)
    rw [pwF_add F a b, Pl.mul2_assoc]
theorem up_one (v : Nat → Int) (T : List (List Po)) : Up 10 (evT v T) (Pl.pwF (evT v T) 1) := fun i j _ => by rw [Pl.pwF_one]
theorem up_add {v : Nat → Int} {F : Nat → Nat → Int} {T U : List (List Po)} {a b : Nat} (c : Nat) (h : Up 10 (evT v T) (Pl.pwF F a)) (k : Up 10 (evT v U) (Pl.pwF F b)) (hc : c = a + b) : Up 10 (evT v (poTim 10 T U)) (Pl.pwF F c) := by
  rw [hc, pwF_add]
  exact evT_up v 10 h k
theorem up2_2 (v : Nat → Int) : Up 10 (evT v F2_2) (Pl.pwF (evT v FL2) 2) := up_add 2 (up_one v FL2) (up_one v FL2) rfl
theorem up2_4 (v : Nat → Int) : Up 10 (evT v F2_4) (Pl.pwF (evT v FL2) 4) := up_add 4 (up2_2 v) (up2_2 v) rfl
theorem up2_8 (v : Nat → Int) : Up 10 (evT v F2_8) (Pl.pwF (evT v FL2) 8) := up_add 8 (up2_4 v) (up2_4 v) rfl
theorem up3_3 (v : Nat → Int) : Up 10 (evT v F3_3) (Pl.pwF (evT v FL3) 3) := up_add 3 (up_add 2 (up_one v FL3) (up_one v FL3) rfl) (up_one v FL3) rfl
theorem up3_9 (v : Nat → Int) : Up 10 (evT v F3_9) (Pl.pwF (evT v FL3) 9) := up_add 9 (up_add 6 (up3_3 v) (up3_3 v) rfl) (up3_3 v) rfl
theorem up5_2 (v : Nat → Int) : Up 10 (evT v F5_2) (Pl.pwF (evT v FL5) 2) := up_add 2 (up_one v FL5) (up_one v FL5) rfl
theorem up5_5 (v : Nat → Int) : Up 10 (evT v F5_5) (Pl.pwF (evT v FL5) 5) := up_add 5 (up_add 4 (up5_2 v) (up5_2 v) rfl) (up_one v FL5) rfl
theorem up7_2 (v : Nat → Int) : Up 10 (evT v F7_2) (Pl.pwF (evT v FL7) 2) := up_add 2 (up_one v FL7) (up_one v FL7) rfl
theorem up7_7 (v : Nat → Int) : Up 10 (evT v F7_7) (Pl.pwF (evT v FL7) 7) := up_add 7 (up_add 6 (up_add 4 (up7_2 v) (up7_2 v) rfl) (up7_2 v) rfl) (up_one v FL7) rfl
theorem pev_v1 (v : Nat → Int) (k : Nat) : pev v (v1 k) = v 0 ^ k := by
  show 1 * (v 0 ^ k * (v 1 ^ 0 * v 2 ^ 0)) + 0 = _
  rw [Int.pow_zero, Int.pow_zero, Int.mul_one, Int.mul_one]; omega
theorem pev_v2 (v : Nat → Int) (k : Nat) : pev v (v2 k) = v 1 ^ k := by
  show 1 * (v 0 ^ 0 * (v 1 ^ k * v 2 ^ 0)) + 0 = _
  rw [Int.pow_zero, Int.pow_zero, Int.mul_one, Int.one_mul]; omega
theorem pev_v3 (v : Nat → Int) (k : Nat) : pev v (v3 k) = v 2 ^ k := by
  show 1 * (v 0 ^ 0 * (v 1 ^ 0 * v 2 ^ k)) + 0 = _
  rw [Int.pow_zero, Int.pow_zero, Int.one_mul, Int.one_mul]; omega
theorem num1 (p : Nat) (v : Nat → Int) : Nmr.num p v 1 = pev v A1 := by
  rw [Nmr.num_succ]
  show 0 * (p : Int) + Nmr.num p v 0 * v 0 ^ p ^ 0 = _
  unfold A1
  rw [pev_v1, Nmr.num_zero, Nat.pow_zero]; omega
theorem num2 (p : Nat) (v : Nat → Int) : Nmr.num p v 2 = pev v (A2 p) := by
  rw [Nmr.num_succ]
  show (0 * (p : Int) + Nmr.num p v 0 * v 1 ^ p ^ 0) * (p : Int) + Nmr.num p v 1 * v 0 ^ p ^ 1 = _
  unfold A2
  rw [pev_add, pev_smul, pev_poMul, pev_v1, pev_v2, num1, Nmr.num_zero, Nat.pow_zero, Nat.pow_one, Int.mul_comm (p : Int), Int.zero_mul, Int.zero_add, Int.one_mul]
theorem num3 (p : Nat) (v : Nat → Int) : Nmr.num p v 3 = pev v (A3 p) := by
  rw [Nmr.num_succ]
  show ((0 * (p : Int) + Nmr.num p v 0 * v 2 ^ p ^ 0) * (p : Int) + Nmr.num p v 1 * v 1 ^ p ^ 1) * (p : Int) + Nmr.num p v 2 * v 0 ^ p ^ 2 = _
  unfold A3
  rw [pev_add, pev_add, pev_smul, pev_smul, pev_poMul, pev_poMul, pev_v1, pev_v2, pev_v3, num1, num2, Nmr.num_zero, Nat.pow_zero, Nat.pow_one, Int.pow_one]
  grind
/-- Hazewinkel's theorem up to degree 10: the whole law has the typical logarithm -/
theorem hazewinkel {p : Nat} (hp : p = 2 ∨ p = 3 ∨ p = 5 ∨ p = 7) (v : Nat → Int) {i j : Nat} (h1 : 1 ≤ i) (h2 : 1 ≤ j) (h3 : i + j ≤ 10) :
    Ser.psum (fun e => (p : Int) ^ (n10 p - e) * Nmr.num p v e * Pl.pwF (fam p v) (p ^ e) i j) (n10 p + 1) = 0 := by
  rcases hp with rfl | rfl | rfl | rfl
  · show ((((0 : Int) + (2 : Nat) ^ 3 * Nmr.num 2 v 0 * Pl.pwF (evT v FL2) 1 i j) + (2 : Nat) ^ 2 * Nmr.num 2 v 1 * Pl.pwF (evT v FL2) 2 i j) + (2 : Nat) ^ 1 * Nmr.num 2 v 2 * Pl.pwF (evT v FL2) 4 i j) + (2 : Nat) ^ 0 * Nmr.num 2 v 3 * Pl.pwF (evT v FL2) 8 i j = 0
    have hc := pev_allZ v _ (inAll_at cert2 h1 h2 h3)
    unfold rest2 at hc
    rw [pev_add, pev_add, pev_add, pev_smul, pev_smul, pev_smul, pev_poMul, pev_poMul, pev_poMul] at hc
    rw [Pl.pwF_one, ← up2_2 v i j h3, ← up2_4 v i j h3, ← up2_8 v i j h3, num1, num2, num3, Nmr.num_zero]
    unfold evT
    grind
  · show (((0 : Int) + (3 : Nat) ^ 2 * Nmr.num 3 v 0 * Pl.pwF (evT v FL3) 1 i j) + (3 : Nat) ^ 1 * Nmr.num 3 v 1 * Pl.pwF (evT v FL3) 3 i j) + (3 : Nat) ^ 0 * Nmr.num 3 v 2 * Pl.pwF (evT v FL3) 9 i j = 0
    have hc := pev_allZ v _ (inAll_at cert3 h1 h2 h3)
    unfold rest3 at hc
    rw [pev_add, pev_add, pev_smul, pev_smul, pev_poMul, pev_poMul] at hc
    rw [Pl.pwF_one, ← up3_3 v i j h3, ← up3_9 v i j h3, num1, num2, Nmr.num_zero]
    unfold evT
    grind
  · show ((0 : Int) + (5 : Nat) ^ 1 * Nmr.num 5 v 0 * Pl.pwF (evT v FL5) 1 i j) + (5 : Nat) ^ 0 * Nmr.num 5 v 1 * Pl.pwF (evT v FL5) 5 i j = 0
    have hc := pev_allZ v _ (inAll_at cert5 h1 h2 h3)
    unfold rest5 at hc
    rw [pev_add, pev_smul, pev_poMul] at hc
    rw [Pl.pwF_one, ← up5_5 v i j h3, num1, Nmr.num_zero]
    unfold evT
    grind
  · show ((0 : Int) + (7 : Nat) ^ 1 * Nmr.num 7 v 0 * Pl.pwF (evT v FL7) 1 i j) + (7 : Nat) ^ 0 * Nmr.num 7 v 1 * Pl.pwF (evT v FL7) 7 i j = 0
    have hc := pev_allZ v _ (inAll_at cert7 h1 h2 h3)
    unfold rest7 at hc
    rw [pev_add, pev_smul, pev_poMul] at hc
    rw [Pl.pwF_one, ← up7_7 v i j h3, num1, Nmr.num_zero]
    unfold evT
    grind

end Tyc
end Go.Proofs.Ytfhdgcndiljjcab

