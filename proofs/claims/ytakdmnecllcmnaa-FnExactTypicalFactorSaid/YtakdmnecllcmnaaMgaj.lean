/- Texts of contracts, joined. -/
import Derived.Test.YtakdmnecllcmnaaMgai
import Derived.Test.YtakdmnecllcmnaaMgae
import Derived.Test.YtakdmnecllcmnaaMgaa
import Derived.StillTailTactics
import Derived.Test.YtakdmnecllcmnaaMgad
/- Tables of the model with great moduli, up to 10^8: written by wip/tools/mk_bgp.py. -/
namespace Go.Proofs.Ytakdmnecllcmnaa
open Go Go.RowKit Go.WideShapes Go.ChangeShapes Go.ChangeAt

structure Pl.OkG (m : Int) (d : Nat) (t : List (List Int)) : Prop where
  m1 : 2 ≤ m
  m2 : m ≤ 100000000
  d1 : 1 ≤ d
  d2 : d ≤ 10
  len : t.length = d + 1
  row : ∀ i, i ≤ d → (Pl.rw' t i).length = d - i + 1
  red : ∀ i, Ser.Red m (Pl.rw' t i)
theorem Pl.OkG.pc {m : Int} {d : Nat} {t : List (List Int)} (h : Pl.OkG m d t) (i j : Nat) : 0 ≤ Pl.pc t i j ∧ Pl.pc t i j < m := h.red i j
theorem Pl.OkG.self {m : Int} {d : Nat} {t : List (List Int)} (h : Pl.OkG m d t) : t = Pl.tab m d (Pl.pc t) :=
  Pl.tab_ext h.len (fun i hi => (Ser.cut_self (h.row i hi) (h.red i)).symm)
theorem Pl.OkG.of_tab {m : Int} {d : Nat} (m1 : 2 ≤ m) (m2 : m ≤ 100000000) (d1 : 1 ≤ d) (d2 : d ≤ 10) (f : Nat → Nat → Int) : Pl.OkG m d (Pl.tab m d f) := by
  refine ⟨m1, m2, d1, d2, Pl.tab_length _ _ _, fun i hi => by rw [Pl.tab_row m d f i hi, Ser.cut_length], fun i => ?_⟩
  by_cases hi : i ≤ d
  · rw [Pl.tab_row m d f i hi]; exact Ser.cut_red (by omega) _ _
  · rw [Pl.rw_over (by rw [Pl.tab_length]; omega)]
    intro j; rw [Ser.co_over (Nat.zero_le _)]; omega
theorem Pl.OkG.tab {m : Int} {d : Nat} {t : List (List Int)} (h : Pl.OkG m d t) (f : Nat → Nat → Int) : Pl.OkG m d (Pl.tab m d f) := Pl.OkG.of_tab h.m1 h.m2 h.d1 h.d2 f
structure RowOkG (m : Int) (d : Nat) (l : List Int) : Prop where
  m1 : 2 ≤ m
  m2 : m ≤ 100000000
  d2 : d ≤ 10
  len : l.length = d + 1
  red : Ser.Red m l
theorem Pl.OkG.rowOk {m : Int} {d : Nat} {t : List (List Int)} (h : Pl.OkG m d t) (i : Nat) (hi : i ≤ d) : RowOkG m (d - i) (Pl.rw' t i) := ⟨h.m1, h.m2, by have := h.d2; omega, h.row i hi, h.red i⟩
theorem mul_bdRG {x y : Int} (h1 : 0 ≤ x) (h2 : x ≤ 100000000) (h3 : -100000000 ≤ y) (h4 : y ≤ 100000000) : -10000000000000000 ≤ x * y ∧ x * y ≤ 10000000000000000 := by
  constructor
  · have := Int.mul_le_mul_of_nonneg_left (c := x) h3 h1
    have e : x * -100000000 = -(x * 100000000) := Int.mul_neg _ _
    omega
  · have := Int.mul_le_mul_of_nonneg_left (c := x) h4 h1
    omega
theorem wrap_remRG {x m : Int} (h1 : 0 ≤ x) (h2 : x ≤ 1000000000000000000) : (IntKind.i64.wrap x).tmod m = x % m := by
  have : IntKind.i64.wrap x = x := by rw [IntKind.wrap_i64]; omega
  rw [this, Int.tmod_eq_emod_of_nonneg h1]

set_option maxHeartbeats 2000000 in
set_option maxRecDepth 100000 in
theorem l02AddR_anyG (m : Int) (d : Nat) (A : Option Addr) (c : Nat) (l : List Int) (A' : Option Addr) (c' : Nat) (l' : List Int) (w : World) (hs : RowOkG m d l) (hs' : RowOkG m d l') (hr : RI w A l) (hr' : RI w A' l') :
    Calls Try.prog 105 #[.int .i64 m, .slice A l.length c, .slice A' l'.length c'] w fun e w' => ∃ v, e = .returned v ∧ OwnI w' w.heap.size v (addR m d l l') ∧ Below w.heap.size w w' := by
  have HS := Lib.hid hs
  have HS' := Lib.hid hs'
  have HR := Lib.hid hr
  have HR' := Lib.hid hr'
  have hm1 := hs.m1
  have hm2 := hs.m2
  have hd := hs.d2
  have hm0 : ¬ m = 0 := by omega
  have hll : l.length ≤ 11 := by have := hs.len; omega
  have hll' : l'.length ≤ 11 := by have := hs'.len; omega
  have E1 := Lib.hid hs.len
  have E2 := Lib.hid hs'.len
  clear hs hs' hr hr'
  go_enter Try.func105, Try.ntmps105
  go_wp2
  go_loopw [7, 8] (fun r i wr => ∃ k : Nat, k ≤ l.length ∧ i = .int .i64 k ∧ OwnI wr w.heap.size r ((addR m d l l').take k) ∧ Below w.heap.size w wr) (fun _ i _ => l.length - (intOf i).toNat)
  case atStart => exact ⟨0, Nat.zero_le _, rfl, OwnI.empty _, below_one _ _⟩
  case round =>
    obtain ⟨k, hk, rfl, hown, hbel⟩ := hrel
    have HB := Lib.hid hbel
    have HO := Lib.hid hown
    have hsz := hbel.size
    clear hown hbel
    by_cases hlt : k < l.length
    · obtain ⟨b, off, rfl, hb, hc⟩ := HR.out.at k hlt
      obtain ⟨b', off', rfl, hb', hc'⟩ := HR'.out.at k (by rw [E2.out, ← E1.out]; exact hlt)
      have c1 := (HB.out.cell (p := ⟨b, off + k, none⟩) hb).trans hc
      have c2 := (HB.out.cell (p := ⟨b', off' + k, none⟩) hb').trans hc'
      have r1 := HS.out.red k
      have r2 := HS'.out.red k
      have hst : (addR m d l l').take (k + 1) = (addR m d l l').take k ++ [(Ser.co l k + Ser.co l' k) % m] := Ser.cut_take_succ _ _ _ _ (by have := E1.out; omega)
      obtain ⟨X, hX⟩ : ∃ X, Ser.co l k = X := ⟨_, rfl⟩
      obtain ⟨Y, hY⟩ : ∃ Y, Ser.co l' k = Y := ⟨_, rfl⟩
      rw [hX] at hc c1 r1
      rw [hY] at hc' c2 r2
      rw [hX, hY] at hst
      have HST := Lib.hid hst
      have C1 := Lib.hid hc
      have C2 := Lib.hid hc'
      have j0 : (0 : Int) ≤ (k : Int) := by omega
      have j1 : (k : Int) < (l.length : Int) := by omega
      have j2 : (k : Int) < (l'.length : Int) := by have := E1.out; have := E2.out; omega
      obtain ⟨r1, r3⟩ := r1
      obtain ⟨r2, r4⟩ := r2
      have HQ := Lib.hid (wrap_remRG (x := X + Y) (m := m) (by omega) (by omega))
      clear hX hY hst hc hc'
      go_wp2
      go_region_held3 (fun w' => w'.cell? ⟨b, off + k, none⟩ = some (.int .i64 X) ∧ w'.cell? ⟨b', off' + k, none⟩ = some (.int .i64 Y) ∧ ¬ m = 0) (first | exact ⟨((((HB.out.alloc hsz _).drew).trans hpb).cell hb).trans C1.out, ((((HB.out.alloc hsz _).drew).trans hpb).cell hb').trans C2.out, hm0⟩ | exact ⟨c1, c2, hm0⟩ | go_keep) ((refine step_push _ _ _ (by rfl) (by rfl) Try.underlying22 w.heap.size _ _ (by rfl) ((HO.out.alloc _).drew) wr.heap.size ((X + Y) % m) (by rfl) (by simp; exact HQ.out) (by have := take_cut_len m d (fun n => Ser.co l n + Ser.co l' n) k; unfold addR; omega) (by simp; omega) ?_; intro v' w1 ho1 hpb))
      all_goals
        have hb1 := (((HB.out.alloc hsz _).drew).trans hpb)
        have HB1 := Lib.hid hb1
        have HO1 := Lib.hid ho1
        clear hb1 ho1 hpb
        go_wp2
        go_roundw
        case rel => exact ⟨k + 1, by omega, by go_num, by rw [HST.out]; exact HO1.out, HB1.out⟩
        case measure => simp only [intOf]; omega
    · obtain rfl : k = l.length := by omega
      have ho := HO.out
      rw [List.take_of_length_le (by unfold addR; rw [Ser.cut_length, E1.out]; exact Nat.le_refl _)] at ho
      have HF := Lib.hid ho
      clear ho
      go_wp2
      go_ret
      exact ⟨_, rfl, HF.out, HB.out⟩

set_option maxHeartbeats 2000000 in
theorem l02ScaleR_anyG (m : Int) (d : Nat) (k : Int) (A : Option Addr) (c : Nat) (l : List Int) (w : World) (hs : RowOkG m d l) (hr : RI w A l) (k1 : 0 ≤ k) (k2 : k < m) :
    Calls Try.prog 106 #[.int .i64 m, .int .i64 k, .slice A l.length c] w fun e w' => ∃ v, e = .returned v ∧ OwnI w' w.heap.size v (scaR m d l k) ∧ Below w.heap.size w w' := by
  have HS := Lib.hid hs
  have HR := Lib.hid hr
  have hm1 := hs.m1
  have hm2 := hs.m2
  have hd := hs.d2
  have hm0 : ¬ m = 0 := by omega
  have hll : l.length ≤ 11 := by have := hs.len; omega
  have E1 := Lib.hid hs.len
  clear hs hr
  go_enter Try.func106, Try.ntmps106
  go_wp2
  go_loopw [7, 8] (fun r i wr => ∃ j : Nat, j ≤ l.length ∧ i = .int .i64 j ∧ OwnI wr w.heap.size r ((scaR m d l k).take j) ∧ Below w.heap.size w wr) (fun _ i _ => l.length - (intOf i).toNat)
  case atStart => exact ⟨0, Nat.zero_le _, rfl, OwnI.empty _, below_one _ _⟩
  case round =>
    obtain ⟨j, hj, rfl, hown, hbel⟩ := hrel
    have HB := Lib.hid hbel
    have HO := Lib.hid hown
    have hsz := hbel.size
    have hlk := take_cut_len m d (fun n => Ser.co l n * k) j
    clear hown hbel
    by_cases hlt : j < l.length
    · obtain ⟨b, off, rfl, hb, hc⟩ := HR.out.at j hlt
      have c1 := (HB.out.cell (p := ⟨b, off + j, none⟩) hb).trans hc
      obtain ⟨r1, r2⟩ := HS.out.red j
      have hst : (scaR m d l k).take (j + 1) = (scaR m d l k).take j ++ [Ser.co l j * k % m] := Ser.cut_take_succ _ _ _ _ (by have := E1.out; omega)
      obtain ⟨X, hX⟩ : ∃ X, Ser.co l j = X := ⟨_, rfl⟩
      rw [hX] at c1 r1 r2 hst
      have p1 := Int.mul_nonneg k1 r1
      have p2 := (mul_bdRG (x := k) (y := X) k1 (by omega) (by omega) (by omega)).2
      have he : X * k = k * X := Int.mul_comm _ _
      rw [he] at hst
      have j0 : (0 : Int) ≤ (j : Int) := by omega
      have j1 : (j : Int) < (l.length : Int) := by omega
      have HST := Lib.hid hst
      clear hX hst hc he
      go_wp2_with (at_builtin; refine wp_push _ _ _ (by rfl) (by rfl) Try.underlying22 w.heap.size _ _ (by rfl) HO.out (k * X % m) (by rfl) (by unfold scaR; omega) hsz ?_; intro v' w1 ho1 hpb)
      have HP := Lib.hid (HB.out.trans hpb)
      have HQ := Lib.hid ho1
      clear hpb ho1
      go_wp2
      go_roundw
      case rel => exact ⟨j + 1, by omega, by go_num, by rw [HST.out]; exact HQ.out, HP.out⟩
      case measure => simp only [intOf]; omega
    · obtain rfl : j = l.length := by omega
      have ho := HO.out
      rw [List.take_of_length_le (by unfold scaR; rw [Ser.cut_length, E1.out]; exact Nat.le_refl _)] at ho
      have HF := Lib.hid ho
      clear ho
      go_wp2
      go_ret
      exact ⟨_, rfl, HF.out, HB.out⟩

set_option maxHeartbeats 2000000 in
theorem l02RestR_anyG (k : Int) (d : Nat) (m : Int) (A : Option Addr) (c : Nat) (l : List Int) (w : World) (k1 : 2 ≤ k) (hs : RowOkG m d l) (hr : RI w A l) :
    Calls Try.prog 96 #[.int .i64 k, .slice A l.length c] w fun e w' => ∃ v, e = .returned v ∧ OwnI w' w.heap.size v (Ser.cut k d (Ser.co l)) ∧ Below w.heap.size w w' := by
  have HS := Lib.hid hs
  have HR := Lib.hid hr
  have hd := hs.d2
  have hll : l.length ≤ 11 := by have := hs.len; omega
  have E1 := Lib.hid hs.len
  clear hs hr
  go_enter Try.func96, Try.ntmps96
  go_wp2
  go_loopw [5, 6] (fun r i wr => ∃ j : Nat, j ≤ l.length ∧ i = .int .i64 j ∧ OwnI wr w.heap.size r ((Ser.cut k d (Ser.co l)).take j) ∧ Below w.heap.size w wr) (fun _ i _ => l.length - (intOf i).toNat)
  case atStart => exact ⟨0, Nat.zero_le _, rfl, OwnI.empty _, below_one _ _⟩
  case round =>
    obtain ⟨j, hj, rfl, hown, hbel⟩ := hrel
    have HB := Lib.hid hbel
    have HO := Lib.hid hown
    have hsz := hbel.size
    have hlk := take_cut_len k d (Ser.co l) j
    clear hown hbel
    by_cases hlt : j < l.length
    · obtain ⟨b, off, rfl, hb, hc⟩ := HR.out.at j hlt
      have c1 := (HB.out.cell (p := ⟨b, off + j, none⟩) hb).trans hc
      obtain ⟨r1, r2⟩ := HS.out.red j
      have hm2 := HS.out.m2
      have hst : (Ser.cut k d (Ser.co l)).take (j + 1) = (Ser.cut k d (Ser.co l)).take j ++ [Ser.co l j % k] := Ser.cut_take_succ _ _ _ _ (by have := E1.out; omega)
      obtain ⟨X, hX⟩ : ∃ X, Ser.co l j = X := ⟨_, rfl⟩
      rw [hX] at c1 r1 r2 hst
      have HST := Lib.hid hst
      clear hX hst hc
      go_wp2_with (at_builtin; refine wp_push _ _ _ (by rfl) (by rfl) Try.underlying22 w.heap.size _ _ (by rfl) HO.out (X % k) (by rfl) (by omega) hsz ?_; intro v' w1 ho1 hpb)
      have HP := Lib.hid (HB.out.trans hpb)
      have HQ := Lib.hid ho1
      clear hpb ho1
      go_wp2
      go_roundw
      case rel => exact ⟨j + 1, by omega, by go_num, by rw [HST.out]; exact HQ.out, HP.out⟩
      case measure => simp only [intOf]; omega
    · obtain rfl : j = l.length := by omega
      have ho := HO.out
      rw [List.take_of_length_le (by rw [Ser.cut_length, E1.out]; exact Nat.le_refl _)] at ho
      have HF := Lib.hid ho
      clear ho
      go_wp2
      go_ret
      exact ⟨_, rfl, HF.out, HB.out⟩

set_option maxHeartbeats 2000000 in
set_option maxRecDepth 100000 in
theorem l03Add_anyG (m : Int) (d : Nat) (A : Option Addr) (c : Nat) (t : List (List Int)) (A' : Option Addr) (c' : Nat) (t' : List (List Int)) (w : World) (hs : Pl.OkG m d t) (hs' : Pl.OkG m d t') (hr : RP w A t) (hr' : RP w A' t') :
    Calls Try.prog 75 #[.int .i64 m, .slice A t.length c, .slice A' t'.length c'] w fun e w' => ∃ v, e = .returned v ∧ OwnR w' w.heap.size w'.heap.size v (Pl.tab m d fun i j => Pl.pc t i j + Pl.pc t' i j) ∧ Below w.heap.size w w' := by
  have HR := Lib.hid hr
  have HR' := Lib.hid hr'
  have HS := Lib.hid hs
  have HS' := Lib.hid hs'
  have hl := hs.len
  have hl' := hs'.len
  have hd2 := hs.d2
  obtain ⟨L, hL⟩ : ∃ L, t.length = L := ⟨_, rfl⟩
  obtain ⟨L', hL'⟩ : ∃ L, t'.length = L := ⟨_, rfl⟩
  have HL := Lib.hid (hL.symm.trans hl)
  have HL' := Lib.hid (hL'.symm.trans hl')
  rw [hL, hL']
  have hLb : L ≤ 11 := by omega
  clear hr hr' hs hs' hL hL' hl hl'
  go_enter Try.func75, Try.ntmps75
  go_wp2
  go_loopw [7, 8] (fun r i wr => ∃ k : Nat, k ≤ L ∧ i = .int .i64 k ∧ OwnR wr w.heap.size wr.heap.size r ((Pl.tab m d fun i j => Pl.pc t i j + Pl.pc t' i j).take k) ∧ Below w.heap.size w wr) (fun _ i _ => L - (intOf i).toNat)
  case atStart => exact ⟨0, Nat.zero_le _, rfl, by simpa using OwnR.none0 w, below_one _ _⟩
  case round =>
    obtain ⟨k, hk, rfl, hown, hbel⟩ := hrel
    have HB := Lib.hid hbel
    have HO := Lib.hid hown
    have hsz := hbel.size
    clear hown
    by_cases hlt : k < L
    · have hLd := HL.out
      have hLd' := HL'.out
      obtain ⟨b, off, A1, c1, rfl, hb, hc, -, hri⟩ := HR.out.at k (by rw [HS.out.len]; omega)
      obtain ⟨b', off', A2, c2, rfl, hb', hc', -, hri'⟩ := HR'.out.at k (by rw [HS'.out.len]; omega)
      have e1 := (hbel.cell (p := ⟨b, off + k, none⟩) hb).trans hc
      have e2 := (hbel.cell (p := ⟨b', off' + k, none⟩) hb').trans hc'
      have HA : Hid (∀ W : World, Below w.heap.size w W → Calls Try.prog 105 #[.int .i64 m, .slice A1 (Pl.rw' t k).length c1, .slice A2 (Pl.rw' t' k).length c2] W fun e w' => ∃ v, e = .returned v ∧ OwnI w' W.heap.size v (addR m (d - k) (Pl.rw' t k) (Pl.rw' t' k)) ∧ Below W.heap.size W w') :=
        Lib.hid (fun W hW => l02AddR_anyG m (d - k) A1 c1 _ A2 c2 _ W (HS.out.rowOk k (by omega)) (HS'.out.rowOk k (by omega)) (hri.below hW) (hri'.below hW))
      have hst : (Pl.tab m d fun i j => Pl.pc t i j + Pl.pc t' i j).take (k + 1) = (Pl.tab m d fun i j => Pl.pc t i j + Pl.pc t' i j).take k ++ [addR m (d - k) (Pl.rw' t k) (Pl.rw' t' k)] := by rw [Pl.tab_take_succ m d _ k (by omega), add_row]
      have HLEN := Lib.hid (show ((Pl.tab m d fun i j => Pl.pc t i j + Pl.pc t' i j).take k).length ≤ 1000000000000 by rw [List.length_take, Pl.tab_length]; omega)
      obtain ⟨N, hN⟩ : ∃ N, (Pl.rw' t k).length = N := ⟨_, rfl⟩
      obtain ⟨N', hN'⟩ : ∃ N, (Pl.rw' t' k).length = N := ⟨_, rfl⟩
      obtain ⟨row, hrow⟩ : ∃ row, addR m (d - k) (Pl.rw' t k) (Pl.rw' t' k) = row := ⟨_, rfl⟩
      rw [hrow] at HA hst
      rw [hN] at e1 hc HA
      rw [hN'] at e2 hc' HA
      have HST := Lib.hid hst
      have C1 := Lib.hid hc
      have C2 := Lib.hid hc'
      have j0 : (0 : Int) ≤ (k : Int) := by omega
      have j1 : (k : Int) < (L : Int) := by omega
      have j2 : (k : Int) < (L' : Int) := by omega
      clear hst hN hN' hrow hri hri' hc hc' hLd hLd' hbel
      go_wp2
      go_region_held3 (fun w' => w'.cell? ⟨b, off + k, none⟩ = some (.slice A1 N c1) ∧ w'.cell? ⟨b', off' + k, none⟩ = some (.slice A2 N' c2)) (first | exact ⟨e1, e2⟩ | exact kp_call hb5 ⟨e1, e2⟩ | exact ⟨(hB6.cell hb).trans C1.out, (hB6.cell hb').trans C2.out⟩ | exact kp_call (below_one _ _) (by assumption)) (first
        | (go_at_call 105; refine (HA.out _ HB.out.drew).mono ?_; rintro e w5 ⟨u, rfl, hou, hb5⟩; obtain ⟨Au, cu, rfl, -⟩ := hou.form)
        | (refine step_pushU _ _ _ (by rfl) (by rfl) Try.underlying36 w.heap.size wr.heap.size _ _ (by rfl) (HO.out.keep ((below_step (below_drew0 wr) hb5).trans ((below_one w5 _).mono hb5.size))) (Nat.le_trans hb5.size (below_one w5 _).size) _ row ((hou.alloc _).more hsz) (fun g hg => (hou.lt g hg).1) w5.heap.size (by rfl) (by rw [World.cell?_alloc_at _ _ _ _ rfl]; rfl) HLEN.out (Nat.le_trans hsz (Nat.le_trans hb5.size (below_one w5 _).size)) ?_; intro v' w1 ho1 hpb; have hB6 : Below w.heap.size w w1 := ((HB.out.drew.trans (hb5.mono hsz)).trans ((below_one w5 (.cells #[.slice Au row.length cu] 22)).mono (Nat.le_trans hsz hb5.size))).trans hpb))
      all_goals
        have HB1 := Lib.hid hB6
        have HO1 := Lib.hid ho1
        clear hB6 ho1 hpb hou hb5
        go_wp2
        go_roundw
        case rel => exact ⟨k + 1, by omega, by go_num, by rw [HST.out]; exact HO1.out, HB1.out⟩
        case measure => simp only [intOf]; omega
    · obtain rfl : k = L := by omega
      have ho := HO.out
      rw [HL.out, Pl.tab_take_all] at ho
      have HF := Lib.hid ho
      clear ho
      go_wp2
      go_ret
      exact ⟨_, rfl, HF.out, HB.out⟩
set_option maxHeartbeats 2000000 in
set_option maxRecDepth 100000 in
theorem l03Scale_anyG (m : Int) (d : Nat) (k : Int) (A : Option Addr) (c : Nat) (t : List (List Int)) (w : World) (hs : Pl.OkG m d t) (hr : RP w A t) (k1 : 0 ≤ k) (k2 : k < m) :
    Calls Try.prog 76 #[.int .i64 m, .int .i64 k, .slice A t.length c] w fun e w' => ∃ v, e = .returned v ∧ OwnR w' w.heap.size w'.heap.size v (Pl.tab m d fun i j => Pl.pc t i j * k) ∧ Below w.heap.size w w' := by
  have HR := Lib.hid hr
  have HS := Lib.hid hs
  have hl := hs.len
  have hd2 := hs.d2
  obtain ⟨L, hL⟩ : ∃ L, t.length = L := ⟨_, rfl⟩
  have HL := Lib.hid (hL.symm.trans hl)
  have hLb : L ≤ 11 := by omega
  rw [hL]
  clear hr hs hL hl
  go_enter Try.func76, Try.ntmps76
  go_wp2
  go_loopw [7, 8] (fun r i wr => ∃ q : Nat, q ≤ L ∧ i = .int .i64 q ∧ OwnR wr w.heap.size wr.heap.size r ((Pl.tab m d fun i j => Pl.pc t i j * k).take q) ∧ Below w.heap.size w wr) (fun _ i _ => L - (intOf i).toNat)
  case atStart => exact ⟨0, Nat.zero_le _, rfl, by simpa using OwnR.none0 w, below_one _ _⟩
  case round =>
    obtain ⟨q, hq, rfl, hown, hbel⟩ := hrel
    have HB := Lib.hid hbel
    have HO := Lib.hid hown
    have hsz := hbel.size
    clear hown
    by_cases hlt : q < L
    · have hLd := HL.out
      obtain ⟨b, off, A1, c1, rfl, hb, hc, -, hri⟩ := HR.out.at q (by rw [HS.out.len]; omega)
      have e1 := (hbel.cell (p := ⟨b, off + q, none⟩) hb).trans hc
      have HA := Lib.hid (l02ScaleR_anyG m (d - q) k A1 c1 _ wr (HS.out.rowOk q (by omega)) (hri.below hbel) k1 k2)
      have hst : (Pl.tab m d fun i j => Pl.pc t i j * k).take (q + 1) = (Pl.tab m d fun i j => Pl.pc t i j * k).take q ++ [scaR m (d - q) (Pl.rw' t q) k] := Pl.tab_take_succ m d _ q (by omega)
      have HLEN := Lib.hid (show ((Pl.tab m d fun i j => Pl.pc t i j * k).take q).length ≤ 1000000000000 by rw [List.length_take, Pl.tab_length]; omega)
      obtain ⟨N, hN⟩ : ∃ N, (Pl.rw' t q).length = N := ⟨_, rfl⟩
      obtain ⟨row, hrow⟩ : ∃ row, scaR m (d - q) (Pl.rw' t q) k = row := ⟨_, rfl⟩
      rw [hrow] at HA hst
      rw [hN] at e1 HA
      have HST := Lib.hid hst
      have j0 : (0 : Int) ≤ (q : Int) := by omega
      have j1 : (q : Int) < (L : Int) := by omega
      clear hst hN hrow hri hc hLd hbel
      go_wp2_with fail
      refine HA.out.mono ?_
      rintro e w5 ⟨u, rfl, hou, hb5⟩
      obtain ⟨Au, cu, rfl, -⟩ := hou.form
      go_wp2_with (at_builtin; refine wp_pushU _ _ _ (by rfl) (by rfl) Try.underlying36 w.heap.size wr.heap.size _ _ (by rfl) (HO.out.keep hb5) hb5.size (.slice Au row.length cu) row (hou.more hsz) (fun g hg => (hou.lt g hg).1) w5.heap.size rfl (by rfl) HLEN.out (Nat.le_trans hsz hb5.size) ?_; intro v' w1 ho1 hpb)
      have HB1 := Lib.hid ((HB.out.trans (hb5.mono hsz)).trans hpb)
      have HO1 := Lib.hid ho1
      clear ho1 hpb hou hb5
      go_wp2
      go_roundw
      case rel => exact ⟨q + 1, by omega, by go_num, by rw [HST.out]; exact HO1.out, HB1.out⟩
      case measure => simp only [intOf]; omega
    · obtain rfl : q = L := by omega
      have ho := HO.out
      rw [HL.out, Pl.tab_take_all] at ho
      have HF := Lib.hid ho
      clear ho
      go_wp2
      go_ret
      exact ⟨_, rfl, HF.out, HB.out⟩
theorem Pl.prod_bdG {x y : Int} (h1 : 0 ≤ x) (h2 : x ≤ 100000000) (h3 : 0 ≤ y) (h4 : y ≤ 100000000) : 0 ≤ x * y ∧ x * y ≤ 10000000000000000 := by
  refine ⟨Int.mul_nonneg h1 h3, ?_⟩
  have a := Int.mul_le_mul_of_nonneg_left (c := x) h4 h1
  omega
set_option maxHeartbeats 16000000 in
set_option maxRecDepth 100000 in
theorem l03Times_anyG (m : Int) (d : Nat) (A : Option Addr) (c : Nat) (t : List (List Int)) (A' : Option Addr) (c' : Nat) (t' : List (List Int)) (w : World) (hs : Pl.OkG m d t) (hs' : Pl.OkG m d t') (hr : RP w A t) (hr' : RP w A' t') :
    Calls Try.prog 77 #[.int .i64 m, .slice A t.length c, .slice A' t'.length c'] w fun e w' => ∃ v, e = .returned v ∧ OwnR w' w.heap.size w'.heap.size v (Pl.tab m d (Pl.mul2 (Pl.pc t) (Pl.pc t'))) ∧ Below w.heap.size w w' := by
  have HR := Lib.hid hr
  have HR' := Lib.hid hr'
  have HS := Lib.hid hs
  have HS' := Lib.hid hs'
  have hd2 := hs.d2
  have m1 := hs.m1
  have m2 := hs.m2
  have hm0 : ¬ m = 0 := by omega
  have HZ := Lib.hid (l03Zero_any m d w (by omega))
  obtain ⟨L, hL⟩ : ∃ L, t.length = L := ⟨_, rfl⟩
  obtain ⟨L', hL'⟩ : ∃ L, t'.length = L := ⟨_, rfl⟩
  have HL := Lib.hid (hL.symm.trans hs.len)
  have HL' := Lib.hid (hL'.symm.trans hs'.len)
  have hLd : (L : Int) - 1 = (d : Int) := by have := hs.len; omega
  have hLb : L ≤ 11 := by have := hs.len; omega
  rw [hL, hL']
  clear hr hr' hs hs' hL hL'
  go_enter Try.func77, Try.ntmps77
  go_wp2_with fail
  refine HZ.out.mono ?_
  rintro e w1 ⟨v, rfl, ho, hb⟩
  rw [← Pl.S2_tab_zero m d (Pl.pc t) (Pl.pc t')] at ho
  obtain ⟨g, cv, rfl⟩ := ho.openv (by rw [Pl.tab_length]; omega)
  rw [Pl.tab_length] at ho ⊢
  have HO1 := Lib.hid ho
  have HB1 := Lib.hid hb
  clear ho hb
  go_wp2
  go_loopw [9] (fun i wr => ∃ i0 : Nat, i0 ≤ L ∧ i = .int .i64 i0 ∧ OwnR wr w.heap.size wr.heap.size (.slice (some ⟨g, 0, none⟩) (d + 1) cv) (Pl.tab m d (Pl.S2 d (Pl.pc t) (Pl.pc t') i0 0)) ∧ Below w.heap.size w wr) (fun i _ => L - (intOf i).toNat)
  case atStart => exact ⟨0, Nat.zero_le _, rfl, HO1.out, HB1.out⟩
  case round =>
    clear HO1 HB1
    obtain ⟨i, hi, rfl, hown, hbel⟩ := hrel
    have HB := Lib.hid hbel
    have HO := Lib.hid hown
    clear hown hbel
    by_cases hlt : i < L
    · have i1 : (i : Int) < (L : Int) := by omega
      go_wp2
      go_loopw [10] (fun j wr => ∃ j0 : Nat, i + j0 ≤ L ∧ j = .int .i64 j0 ∧ OwnR wr w.heap.size wr.heap.size (.slice (some ⟨g, 0, none⟩) (d + 1) cv) (Pl.tab m d (Pl.S2 d (Pl.pc t) (Pl.pc t') i j0)) ∧ Below w.heap.size w wr) (fun j _ => L - (intOf j).toNat)
      case atStart => exact ⟨0, by omega, rfl, HO.out, HB.out⟩
      case round =>
        clear HO HB
        obtain ⟨j, hj, rfl, hown, hbel⟩ := hrel
        have HB := Lib.hid hbel
        have HO := Lib.hid hown
        have hLd' := HL.out
        by_cases hjt : i + j < L
        · obtain ⟨ba, offa, bi, offi, ci, rfl, hba, ka1, hbi, ka2⟩ := HR.out.num i j (by rw [HS.out.len]; omega) (by rw [HS.out.row i (by omega)]; omega)
          rw [HS.out.row i (by omega)] at ka1
          obtain ⟨N, hN⟩ : ∃ N, d - i + 1 = N := ⟨_, rfl⟩
          rw [hN] at ka1
          have r1 := HS.out.pc i j
          have hskip := Pl.S2_skip m d (Pl.pc t) (Pl.pc t') i j
          obtain ⟨X, hX⟩ : ∃ X, Pl.pc t i j = X := ⟨_, rfl⟩
          have HX := Lib.hid hX
          rw [hX] at ka2 r1 hskip
          have KA1 := Lib.hid ka1
          have KA2 := Lib.hid ka2
          have a1 := (hbel.cell (p := ⟨ba, offa + i, none⟩) hba).trans ka1
          have a2 := (hbel.cell (p := ⟨bi, offi + j, none⟩) hbi).trans ka2
          obtain ⟨r1, r2⟩ := r1
          have j0 : (0 : Int) ≤ (i : Int) := by omega
          have j1 : (0 : Int) ≤ (j : Int) := by omega
          have j2 : (i : Int) + (j : Int) < (L : Int) := by omega
          have j3 : (j : Int) < (N : Int) := by omega
          clear hX ka1 ka2 hown hbel hN hLd'
          by_cases hX0 : X = 0
          · have HSK := Lib.hid (hskip hX0)
            subst hX0
            clear hskip
            go_wp2
            go_roundw
            case rel => exact ⟨j + 1, by omega, by go_num, by rw [← HSK.out]; exact HO.out, HB.out⟩
            case measure => simp only [intOf]; omega
          · obtain ⟨n1, n2⟩ := ne_facts hX0
            clear hskip
            have ho := HO.out
            rw [← Pl.T2_tab_zero] at ho
            have HO2 := Lib.hid ho
            clear ho HO
            go_wp2
            go_loopw [11] (fun k wr => ∃ k0 : Nat, i + j + k0 ≤ L ∧ k = .int .i64 k0 ∧ OwnR wr w.heap.size wr.heap.size (.slice (some ⟨g, 0, none⟩) (d + 1) cv) (Pl.tab m d (Pl.T2 d (Pl.pc t) (Pl.pc t') i j k0 0)) ∧ Below w.heap.size w wr) (fun k _ => L - (intOf k).toNat)
            case atStart => exact ⟨0, by omega, rfl, HO2.out, HB.out⟩
            case round =>
              clear HO2 HB a1 a2
              obtain ⟨k, hk, rfl, hown, hbel⟩ := hrel
              have HB := Lib.hid hbel
              have HO := Lib.hid hown
              have hLd' := HL.out
              by_cases hkt : i + j + k < L
              · obtain ⟨bb, offb, A2, ck, rfl, hbb, kb1, -, hri⟩ := HR'.out.at k (by rw [HS'.out.len]; omega)
                obtain ⟨bk, offk, rfl, -⟩ := hri.at 0 (by rw [HS'.out.row k (by omega)]; omega)
                have HRI := Lib.hid hri
                rw [HS'.out.row k (by omega)] at kb1
                obtain ⟨M, hM⟩ : ∃ M, d - k + 1 = M := ⟨_, rfl⟩
                rw [hM] at kb1
                have b1 := (hbel.cell (p := ⟨bb, offb + k, none⟩) hbb).trans kb1
                obtain ⟨br, cr, g1, g2, g3, g4, hcel⟩ := HO.out.numB (i + k) j (d - (i + k) + 1) (by rw [Pl.tab_length]; omega) (by rw [Pl.tab_row m d _ (i + k) (by omega), Ser.cut_length]) (by omega)
                obtain ⟨c4, -⟩ := hcel wr (Below.refl _ _)
                obtain ⟨Q, hQ⟩ : ∃ Q, d - (i + k) + 1 = Q := ⟨_, rfl⟩
                rw [hQ] at c4
                obtain ⟨s, hsik⟩ : ∃ s, i + k = s := ⟨_, rfl⟩
                rw [hsik] at c4
                have q1 : (i : Int) + (k : Int) = (s : Int) := by omega
                have q2 : (s : Int) < (d : Int) + 1 := by omega
                have q3 : (0 : Int) ≤ (s : Int) := by omega
                have q4 : (0 : Int) ≤ (k : Int) := by omega
                have q5 : (k : Int) < (L' : Int) := by have := HL'.out; omega
                have q6 : (i : Int) + (j : Int) + (k : Int) < (L : Int) := by omega
                have HQ := Lib.hid hQ
                have HMM := Lib.hid hM
                have HIK := Lib.hid hsik
                clear hown hbel hcel hQ hM hsik kb1 hLd' hri
                go_wp2
                go_quiet (fail)
                go_wp2
                go_loopw [14] (fun l wr => ∃ l0 : Nat, i + j + k + l0 ≤ L ∧ l = .int .i64 l0 ∧ OwnR wr w.heap.size wr.heap.size (.slice (some ⟨g, 0, none⟩) (d + 1) cv) (Pl.tab m d (Pl.T2 d (Pl.pc t) (Pl.pc t') i j k l0)) ∧ wr.cell? ⟨g, s, none⟩ = some (.slice (some ⟨br, 0, none⟩) Q cr) ∧ Below w.heap.size w wr) (fun l _ => L - (intOf l).toNat)
                case atStart => exact ⟨0, by omega, rfl, HO.out.keep (below_drewN (Below.refl _ _) _), c4, below_drewN HB.out _⟩
                case round =>
                  clear HO HB c4 b1
                  obtain ⟨l, hl, rfl, hown, hc4, hbel⟩ := hrel
                  have HB := Lib.hid hbel
                  have HO := Lib.hid hown
                  have HC4 := Lib.hid hc4
                  have hLd' := HL.out
                  by_cases hlt4 : i + j + k + l < L
                  · obtain ⟨b3, o3, e3, hb3, kc⟩ := HRI.out.at l (by rw [HS'.out.row k (by omega)]; omega)
                    injection e3 with e3
                    injection e3 with e3a e3b
                    subst e3a e3b
                    have a1 := (hbel.cell (p := ⟨ba, offa + i, none⟩) hba).trans KA1.out
                    have a2 := (hbel.cell (p := ⟨bi, offi + j, none⟩) hbi).trans KA2.out
                    have b2 := (hbel.cell (p := ⟨bk, offk + l, none⟩) hb3).trans kc
                    change wr.cell? _ = some (.int .i64 (Pl.pc t' k l)) at b2
                    obtain ⟨b4, c3, h1, h2, h3, h4, hcel⟩ := HO.out.numB (i + k) (j + l) (d - (i + k) + 1) (by rw [Pl.tab_length]; omega) (by rw [Pl.tab_row m d _ (i + k) (by omega), Ser.cut_length]) (by omega)
                    obtain ⟨c4, c5, c6, c7⟩ := hcel wr.drew (below_drew0 wr)
                    have hst := Pl.T2_step m d (Pl.pc t) (Pl.pc t') i j k l (by omega)
                    have hzb := (HS.out.tab (Pl.T2 d (Pl.pc t) (Pl.pc t') i j k l)).pc (i + k) (j + l)
                    have hyb := HS'.out.pc k l
                    obtain ⟨u, hu⟩ : ∃ u, j + l = u := ⟨_, rfl⟩
                    rw [HQ.out, HIK.out] at c4
                    rw [HIK.out] at hst hzb c5 c7
                    rw [hu] at hst hzb c5 c6 c7
                    obtain ⟨Z, hZ⟩ : ∃ Z, Pl.pc (Pl.tab m d (Pl.T2 d (Pl.pc t) (Pl.pc t') i j k l)) s u = Z := ⟨_, rfl⟩
                    obtain ⟨Y, hY⟩ : ∃ Y, Pl.pc t' k l = Y := ⟨_, rfl⟩
                    rw [hZ] at hst hzb c5
                    rw [hY] at hst hyb b2
                    rw [HX.out] at hst
                    have e4 : some (Value.slice (some ⟨br, 0, none⟩) Q cr) = some (Value.slice (some ⟨b4, 0, none⟩) Q c3) := hc4.symm.trans c4
                    injection e4 with e4
                    injection e4 with e4a e4b e4c
                    injection e4a with e4a
                    injection e4a with e4a
                    subst e4a e4c
                    have h8 := c7 ((Z + X * Y) % m)
                    rw [hst] at h8
                    have hpr := Pl.prod_bdG r1 (by omega) hyb.1 (by omega)
                    have HO2 := Lib.hid (h8.more (show wr.heap.size ≤ (wr.drew.setCell ⟨br, u, none⟩ (.int .i64 ((Z + X * Y) % m))).heap.size by show wr.heap.size ≤ (wr.heap.modify _ _).size; simp))
                    have HB2 := Lib.hid (hbel.drew.setCell (p := ⟨br, u, none⟩) g2 (.int .i64 ((Z + X * Y) % m)))
                    have HC5 : Hid ((wr.drew.setCell ⟨br, u, none⟩ (.int .i64 ((Z + X * Y) % m))).cell? ⟨g, s, none⟩ = some (.slice (some ⟨br, 0, none⟩) Q cr)) :=
                      Lib.hid ((World.cell?_of_block (w := wr.drew) (Below.heap_setCell wr.drew ⟨br, u, none⟩ _ g (fun e => g4 e.symm))).trans hc4)
                    have p1 : IntKind.i64.wrap (X * Y) = X * Y := by rw [IntKind.wrap_i64]; omega
                    have p2 : IntKind.i64.wrap (Z + X * Y) = Z + X * Y := by rw [IntKind.wrap_i64]; omega
                    have p3 : 0 ≤ Z + X * Y := by omega
                    have p5 : (0 : Int) ≤ (j : Int) + (l : Int) := by omega
                    have p6 : (j : Int) + (l : Int) < (Q : Int) := by have := HQ.out; have := HIK.out; omega
                    have p7 : (0 : Int) ≤ (l : Int) := by omega
                    have p8 : (l : Int) < (M : Int) := by have := HMM.out; omega
                    have p9 : (i : Int) + (j : Int) + (k : Int) + (l : Int) < (L : Int) := by omega
                    have p10 : IntKind.i64.wrap ((j : Int) + (l : Int)) = (j : Int) + (l : Int) := by rw [IntKind.wrap_i64]; omega
                    have p11 : ((j : Int) + (l : Int)).toNat = u := by omega
                    clear hcel c4 c7 h8 hst hzb hyb hZ hY hown hbel hc4 hLd' kc hpr hu e4b h1 h2 h3 h4
                    go_wp2
                    go_still_tail 26, (by kernel_rfl)
                    change wpList _ _ _ _ _ wr.drew
                    go_wp2
                    go_roundw
                    case rel => exact ⟨l + 1, by omega, by go_num, HO2.out, HC5.out, HB2.out⟩
                    case measure => simp only [intOf]; omega
                  · have hlL : i + j + k + l = L := by omega
                    have ho := HO.out
                    rw [Pl.T2_rowend m d _ _ i j k l (by omega)] at ho
                    have HO2 := Lib.hid ho
                    have p9 : ¬ ((i : Int) + (j : Int) + (k : Int) + (l : Int) < (L : Int)) := by omega
                    clear hown hbel hc4 hLd' ho hlL
                    go_wp2
                    go_roundw
                    case rel => exact ⟨k + 1, by omega, by go_num, HO2.out, HB.out⟩
                    case measure => simp only [intOf]; omega
              · have hkL : i + j + k = L := by omega
                have ho := HO.out
                rw [Pl.T2_end m d _ _ i j k (by omega)] at ho
                have HO2 := Lib.hid ho
                have p9 : ¬ ((i : Int) + (j : Int) + (k : Int) < (L : Int)) := by omega
                clear hown hbel hLd' ho hkL
                go_wp2
                go_roundw
                case rel => exact ⟨j + 1, by omega, by go_num, HO2.out, HB.out⟩
                case measure => simp only [intOf]; omega
        · have hjL : i + j = d + 1 := by omega
          have ho := HO.out
          rw [Pl.S2_next m d _ _ i j hjL] at ho
          have HO2 := Lib.hid ho
          have p9 : ¬ ((i : Int) + (j : Int) < (L : Int)) := by omega
          clear hown hbel hLd' ho hjL
          go_wp2
          go_roundw
          case rel => exact ⟨i + 1, by omega, by go_num, HO2.out, HB.out⟩
          case measure => simp only [intOf]; omega
    · obtain rfl : i = d + 1 := by have := HL.out; omega
      have ho := HO.out
      rw [Pl.S2_last] at ho
      have HF := Lib.hid ho
      clear ho
      go_wp2
      go_ret
      exact ⟨_, rfl, HF.out, HB.out⟩
theorem cut_rowG {m : Int} {d : Nat} {t : List (List Int)} (hs : Pl.OkG m d t) (e q : Nat) (he : e ≤ d) (hq : q ≤ e) : Ser.cut m (e - q) (Pl.pc t q) = (Pl.rw' t q).take (e - q + 1) := by
  refine Ser.list_ext (by rw [Ser.cut_length, List.length_take, hs.row q (by omega)]; omega) (fun i hi => ?_)
  rw [Ser.cut_length] at hi
  rw [Ser.co_cut (by omega), Int.emod_eq_of_lt (hs.pc q i).1 (hs.pc q i).2]
  unfold Pl.pc Ser.co
  rw [List.getElem?_take_of_lt (by omega)]
set_option maxHeartbeats 2000000 in
set_option maxRecDepth 100000 in
theorem l03Cut_anyG (m : Int) (d : Nat) (A : Option Addr) (c : Nat) (t : List (List Int)) (e : Nat) (w : World) (hs : Pl.OkG m d t) (hr : RP w A t) (he : e ≤ d) :
    Calls Try.prog 95 #[.slice A t.length c, .int .i64 e] w fun e' w' => ∃ v, e' = .returned v ∧ OwnR w' w.heap.size w'.heap.size v (Pl.tab m e (Pl.pc t)) ∧ Below w.heap.size w w' := by
  have HR := Lib.hid hr
  have HS := Lib.hid hs
  have hl := hs.len
  have hd2 := hs.d2
  obtain ⟨L, hL⟩ : ∃ L, t.length = L := ⟨_, rfl⟩
  have HL := Lib.hid (hL.symm.trans hl)
  have hLb : L ≤ 11 := by omega
  have HE := Lib.hid he
  have heb : e ≤ 10 := by omega
  rw [hL]
  clear hr hs hL hl he
  go_enter Try.func95, Try.ntmps95
  go_wp2
  go_loopw [5, 6] (fun r i wr => ∃ q : Nat, q ≤ e + 1 ∧ i = .int .i64 q ∧ OwnR wr w.heap.size wr.heap.size r ((Pl.tab m e (Pl.pc t)).take q) ∧ Below w.heap.size w wr) (fun _ i _ => e + 1 - (intOf i).toNat)
  case atStart => exact ⟨0, Nat.zero_le _, rfl, by simpa using OwnR.none0 w, below_one _ _⟩
  case round =>
    obtain ⟨q, hq, rfl, hown, hbel⟩ := hrel
    have HB := Lib.hid hbel
    have HO := Lib.hid hown
    have hsz := hbel.size
    clear hown
    by_cases hlt : q < e + 1
    · have hLd := HL.out
      have hed := HE.out
      obtain ⟨b, off, A1, c1, rfl, hb, hc, hcap, hri⟩ := HR.out.at q (by rw [HS.out.len]; omega)
      have e1 := (hbel.cell (p := ⟨b, off + q, none⟩) hb).trans hc
      have hrl := HS.out.row q (by omega)
      obtain ⟨row, hrow⟩ : ∃ row, (Pl.rw' t q).take (e - q + 1) = row := ⟨_, rfl⟩
      have hrowl : row.length = e - q + 1 := by rw [← hrow, List.length_take, hrl]; omega
      have hst : (Pl.tab m e (Pl.pc t)).take (q + 1) = (Pl.tab m e (Pl.pc t)).take q ++ [row] := by rw [Pl.tab_take_succ m e _ q (by omega), cut_rowG HS.out e q hed (by omega), hrow]
      have HA := Lib.hid (l01Own_any A1 c1 row wr (by intro h; rw [h] at hrowl; simp at hrowl) (by omega) (by rw [← hrow]; exact (hri.below hbel).take _))
      have HLEN := Lib.hid (show ((Pl.tab m e (Pl.pc t)).take q).length ≤ 1000000000000 by rw [List.length_take, Pl.tab_length]; omega)
      obtain ⟨M, hM⟩ : ∃ M, row.length = M := ⟨_, rfl⟩
      obtain ⟨N, hN⟩ : ∃ N, (Pl.rw' t q).length = N := ⟨_, rfl⟩
      rw [hM] at HA
      rw [hN] at e1 hcap hrl
      obtain ⟨b1, off1, hA1⟩ : ∃ b1 off1, A1 = some ⟨b1, off1, none⟩ := by
        obtain ⟨b1, off1, h1, _⟩ := hri.at 0 (by rw [hN]; omega)
        exact ⟨b1, off1, h1⟩
      subst hA1
      have HST := Lib.hid hst
      have HMM := Lib.hid hM
      have j0 : (0 : Int) ≤ (q : Int) := by omega
      have j1 : (q : Int) < (L : Int) := by omega
      have j2 : (q : Int) ≤ (e : Int) := by omega
      have j3 : (e : Int) - (q : Int) + 1 = (M : Int) := by omega
      have j4 : M ≤ c1 := by omega
      have j5 : (M : Int) ≤ (c1 : Int) := by omega
      have j6 : M ≤ 11 := by omega
      clear hst hrow hri hc hLd hbel hrowl hM hN hrl hcap hed
      go_wp2_with fail
      refine HA.out.mono ?_
      rintro e' w5 ⟨u, rfl, hou, hb5⟩
      obtain ⟨Au, cu, rfl, -⟩ := hou.form
      go_wp2_with (at_builtin; refine wp_pushU _ _ _ (by rfl) (by rfl) Try.underlying36 w.heap.size wr.heap.size _ _ (by rfl) (HO.out.keep hb5) hb5.size (.slice Au row.length cu) row (hou.more hsz) (fun g hg => (hou.lt g hg).1) w5.heap.size rfl (by rfl) HLEN.out (Nat.le_trans hsz hb5.size) ?_; intro v' w1 ho1 hpb)
      have HB1 := Lib.hid ((HB.out.trans (hb5.mono hsz)).trans hpb)
      have HO1 := Lib.hid ho1
      clear ho1 hpb hou hb5
      go_wp2
      go_roundw
      case rel => exact ⟨q + 1, by omega, by go_num, by rw [HST.out]; exact HO1.out, HB1.out⟩
      case measure => simp only [intOf]; omega
    · obtain rfl : q = e + 1 := by omega
      have ho := HO.out
      rw [Pl.tab_take_all] at ho
      have HF := Lib.hid ho
      clear ho
      go_wp2
      go_ret
      exact ⟨_, rfl, HF.out, HB.out⟩
end Go.Proofs.Ytakdmnecllcmnaa

/- Plain theory of substituting series into tables: no program in sight. -/
namespace Go.Proofs.Ytakdmnecllcmnaa
namespace Ser

theorem psum_zero : ∀ n, psum (fun _ => (0 : Int)) n = 0 := by
  intro n
  induction n with
  | zero => rfl
  | succ n ih => rw [psum, ih]; rfl
theorem psum_add (f g : Nat → Int) : ∀ n, psum (fun i => f i + g i) n = psum f n + psum g n := by
  intro n
  induction n with
  | zero => rfl
  | succ n ih => rw [psum, psum, psum, ih]; omega
theorem psum_mul (c : Int) (f : Nat → Int) : ∀ n, psum (fun i => c * f i) n = c * psum f n := by
  intro n
  induction n with
  | zero => simp [psum]
  | succ n ih => rw [psum, psum, ih, Int.mul_add]
theorem psum_mul' (c : Int) (f : Nat → Int) (n : Nat) : psum (fun i => f i * c) n = psum f n * c := by
  rw [Int.mul_comm _ c, ← psum_mul]
  exact psum_ext _ (fun i _ => Int.mul_comm _ _)
theorem psum_swap (f : Nat → Nat → Int) (n : Nat) : ∀ k, psum (fun i => psum (f i) n) k = psum (fun j => psum (fun i => f i j) k) n := by
  intro k
  induction k with
  | zero =>
    have : (fun j : Nat => psum (fun i => f i j) 0) = fun _ => 0 := rfl
    rw [this, psum_zero]; rfl
  | succ k ih =>
    rw [psum, ih]
    have : (fun j => psum (fun i => f i j) (k + 1)) = fun j => psum (fun i => f i j) k + f k j := rfl
    rw [this, psum_add]
theorem psum_congr {m : Int} {f g : Nat → Int} : ∀ n, (∀ i, i < n → f i % m = g i % m) → psum f n % m = psum g n % m := by
  intro n
  induction n with
  | zero => intro _; rfl
  | succ n ih => intro h; rw [psum, psum]; exact add_cong (ih (fun i hi => h i (by omega))) (h n (by omega))
theorem psum_low (f : Nat → Int) (k : Nat) (h : ∀ i, i < k → f i = 0) : psum f k = 0 := by
  rw [psum_ext (g := fun _ => 0) k h, psum_zero]
theorem psum_mon (a : Nat → Int) (j : Nat) : ∀ N, psum (fun i => a i * mon i 1 j) N = if j < N then a j else 0 := by
  intro N
  induction N with
  | zero => simp [psum]
  | succ N ih =>
    rw [psum, ih]
    unfold mon
    by_cases h : j < N
    · rw [if_pos h, if_neg (by omega), if_pos (by omega)]; omega
    · by_cases h2 : j = N
      · rw [if_neg h, if_pos h2, if_pos (by omega), h2]; omega
      · rw [if_neg h, if_neg h2, if_neg (by omega)]; omega
theorem comp_psum {f : Nat → Int} (hf : f 0 = 0) (a : Nat → Int) (n : Nat) : ∀ N, comp (fun j => psum (fun i => a i * mon i 1 j) N) f n = psum (fun i => a i * pw f i n) N := by
  intro N
  induction N with
  | zero =>
    have e : (fun j => psum (fun i => a i * mon i 1 j) 0) = fun _ => 0 := rfl
    rw [e]
    have := comp_smul hf 0 n (fun _ => 0)
    simpa [psum] using this
  | succ N ih =>
    have e : (fun j => psum (fun i => a i * mon i 1 j) (N + 1)) = fun j => psum (fun i => a i * mon i 1 j) N + a N * mon N 1 j := rfl
    rw [e, comp_add hf, ih, comp_smul hf, comp_mon hf, psum]
/-- a composition is a sum of powers -/
theorem comp_pw {f : Nat → Int} (hf : f 0 = 0) (a : Nat → Int) {n N : Nat} (h : n < N) : comp a f n = psum (fun i => a i * pw f i n) N := by
  rw [← comp_psum hf a n N]
  exact comp_ext hf n (fun i hi => by rw [psum_mon, if_pos (by omega)])
theorem pw_congr {m : Int} {n : Nat} {f g : Nat → Int} (h : Eq m n f g) : ∀ k, Eq m n (pw f k) (pw g k) := by
  intro k
  induction k with
  | zero => exact Eq.refl _ _ _
  | succ k ih => exact Eq.mul ih h
/-- the powers of a list -/
def pwL (m : Int) (d : Nat) (a : List Int) : Nat → List Int
  | 0 => one m d
  | k + 1 => mulL m d (pwL m d a k) a
theorem pwL_length (m : Int) (d : Nat) (a : List Int) (k : Nat) : (pwL m d a k).length = d + 1 := by cases k <;> exact cut_length _ _ _
theorem pwL_cut (m : Int) (d : Nat) (a : List Int) : ∀ k, pwL m d a k = cut m d (pw (co a) k) := by
  intro k
  induction k with
  | zero => rfl
  | succ k ih =>
    show cut m d (mul (co (pwL m d a k)) (co a)) = _
    refine cut_congr ?_
    rw [ih]
    exact Eq.mul (co_cut_eq _ _ _) (Eq.refl _ _ _)
theorem cmpL_cut {m : Int} (hm : 0 < m) {d : Nat} {a f : List Int} (hf : co f 0 = 0) (ha : Red m a) : cmpL m d a f = cut m d (comp (co a) (co f)) := by
  refine red_unique (d := d) (cmpL_length _ _ _ _) (cut_length _ _ _) (cmpL_red hm d ha f) (cut_red hm d _) ?_
  exact (cmpL_eq hf).trans (co_cut_eq _ _ _).symm
end Ser

namespace Pl
open Ser (psum cv pw)
/-- the coefficients of F(a(x), b(y)), and of F(a(t), b(t)) -/
def subB (F : Nat → Nat → Int) (a b : Nat → Int) (N p q : Nat) : Int := psum (fun i => psum (fun j => F i j * (pw a i p * pw b j q)) N) N
def putF (F : Nat → Nat → Int) (a b : Nat → Int) (N n : Nat) : Int := psum (fun i => psum (fun j => F i j * cv n (pw a i) (pw b j)) N) N
/-- the program's four steps -/
theorem steps {m : Int} {d : Nat} {F : Nat → Nat → Int} {a b : Nat → Int} (ha : a 0 = 0) (hb : b 0 = 0) :
    tab m d (fun p q => Ser.comp (pc (tab m d fun q' i => Ser.comp (F i) b q') q) a p) = tab m d (subB F a b (d + 1)) := by
  refine tab_congr (fun p q h => ?_)
  rw [Ser.comp_congr ha ha p _ (fun i => Ser.comp (F i) b q) (fun i hi => by rw [pc_tab (by omega), Int.emod_emod]) (Ser.Eq.refl _ _ _)]
  rw [Ser.comp_pw ha _ (N := d + 1) (by omega)]
  congr 1
  unfold subB
  refine Ser.psum_ext _ (fun i _ => ?_)
  rw [Ser.comp_pw hb _ (N := d + 1) (by omega), ← Ser.psum_mul']
  refine Ser.psum_ext _ (fun j _ => ?_)
  rw [Int.mul_assoc, Int.mul_comm (pw b j q)]
theorem diag_put (F : Nat → Nat → Int) (a b : Nat → Int) (N n : Nat) : psum (fun p => subB F a b N p (n - p)) (n + 1) = putF F a b N n := by
  unfold subB putF
  rw [Ser.psum_swap]
  refine Ser.psum_ext _ (fun i _ => ?_)
  rw [Ser.psum_swap]
  refine Ser.psum_ext _ (fun j _ => ?_)
  rw [Ser.psum_mul, Ser.cv_psum]
def putL (m : Int) (d : Nat) (F : Nat → Nat → Int) (a b : List Int) : List Int := Ser.cut m d (putF F (Ser.co a) (Ser.co b) (d + 1))
theorem putL_length (m : Int) (d : Nat) (F : Nat → Nat → Int) (a b : List Int) : (putL m d F a b).length = d + 1 := Ser.cut_length _ _ _
def botT (m : Int) (d : Nat) (F : Nat → Nat → Int) (a b : List Int) : List (List Int) := tab m d (subB F (Ser.co a) (Ser.co b) (d + 1))
/-- the program's diagonal -/
theorem diag_cut (m : Int) (d : Nat) (F : Nat → Nat → Int) (a b : List Int) : Ser.cut m d (fun n => psum (fun p => pc (botT m d F a b) p (n - p)) (n + 1)) = putL m d F a b := by
  refine Ser.cut_congr (fun n hn => ?_)
  rw [← diag_put]
  refine Ser.psum_congr _ (fun p hp => ?_)
  unfold botT
  rw [pc_tab (by omega), Int.emod_emod]

/-! sums over the terms of a table, row by row -/
def acc (d : Nat) (g : Nat → Nat → Int) (i J : Nat) : Int := psum (fun i' => psum (g i') (d + 1 - i')) i + psum (g i) J
theorem acc_zero (d : Nat) (g : Nat → Nat → Int) : acc d g 0 0 = 0 := rfl
theorem acc_succ (d : Nat) (g : Nat → Nat → Int) (i J : Nat) : acc d g i (J + 1) = acc d g i J + g i J := by unfold acc; rw [psum]; omega
theorem acc_next (d : Nat) (g : Nat → Nat → Int) (i J : Nat) (h : i + J = d + 1) : acc d g i J = acc d g (i + 1) 0 := by
  unfold acc
  show _ = psum (fun i' => psum (g i') (d + 1 - i')) i + psum (g i) (d + 1 - i) + 0
  rw [show d + 1 - i = J by omega]; omega
theorem acc_last (d : Nat) (g : Nat → Nat → Int) (h : ∀ i j, d < i + j → g i j = 0) : acc d g (d + 1) 0 = psum (fun i => psum (g i) (d + 1)) (d + 1) := by
  unfold acc
  rw [psum, Int.add_zero]
  refine Ser.psum_ext _ (fun i hi => ?_)
  exact (psum_cut _ (d + 1 - i) (d + 1) (by omega) (fun j h1 _ => h i j (by omega))).symm
/-- the model's sum for f(a(t), b(t)) -/
def putS (m : Int) (d : Nat) (F : Nat → Nat → Int) (a b : List Int) (i J : Nat) : List Int := Ser.cut m d fun n => acc d (fun i j => F i j * cv n (pw (Ser.co a) i) (pw (Ser.co b) j)) i J
theorem putS_length (m : Int) (d : Nat) (F : Nat → Nat → Int) (a b : List Int) (i J : Nat) : (putS m d F a b i J).length = d + 1 := Ser.cut_length _ _ _
theorem putS_zero (m : Int) (d : Nat) (F : Nat → Nat → Int) (a b : List Int) : putS m d F a b 0 0 = List.replicate (d + 1) 0 := Ser.cut_zero m d
theorem putS_step (m : Int) (d : Nat) (F : Nat → Nat → Int) (a b : List Int) (i J : Nat) :
    Ser.cut m d (fun n => Ser.co (putS m d F a b i J) n + Ser.co (Ser.cut m d fun n => Ser.co (Ser.mulL m d (Ser.pwL m d a i) (Ser.pwL m d b J)) n * F i J) n) = putS m d F a b i (J + 1) := by
  refine Ser.cut_congr (fun n hn => ?_)
  rw [acc_succ]
  unfold putS
  rw [Ser.co_cut hn, Ser.co_cut hn]
  refine Ser.add_cong (Int.emod_emod _ _) ?_
  rw [Int.emod_emod, Int.mul_comm]
  refine Ser.mul_cong rfl ?_
  unfold Ser.mulL
  rw [Ser.co_cut hn, Int.emod_emod, Ser.pwL_cut, Ser.pwL_cut, Ser.mul_at]
  exact Ser.cv_congr n ((Ser.co_cut_eq _ _ _).less hn) ((Ser.co_cut_eq _ _ _).less hn)
theorem putS_skip (m : Int) (d : Nat) (F : Nat → Nat → Int) (a b : List Int) (i J : Nat) (h : F i J = 0) : putS m d F a b i (J + 1) = putS m d F a b i J := by
  refine Ser.cut_congr (fun n hn => ?_)
  rw [acc_succ, h, Int.zero_mul, Int.add_zero]
theorem putS_next (m : Int) (d : Nat) (F : Nat → Nat → Int) (a b : List Int) (i J : Nat) (h : i + J = d + 1) : putS m d F a b i J = putS m d F a b (i + 1) 0 :=
  Ser.cut_congr (fun n hn => by rw [acc_next _ _ _ _ h])
theorem putS_last (m : Int) (d : Nat) (F : Nat → Nat → Int) (a b : List Int) (hF : ∀ i j, d < i + j → F i j = 0) : putS m d F a b (d + 1) 0 = putL m d F a b :=
  Ser.cut_congr (fun n hn => by
    rw [acc_last _ _ (fun i j h => by rw [hF i j h, Int.zero_mul])]; rfl)

/-! the model's table for f(a(x), b(y)) -/
def botG (F : Nat → Nat → Int) (a b : Nat → Int) (p q i j : Nat) : Int := F i j * (pw a i p * pw b j q)
def botS (d : Nat) (F : Nat → Nat → Int) (a b : Nat → Int) (i J p q : Nat) : Int := acc d (botG F a b p q) i J
def botK (d : Nat) (F : Nat → Nat → Int) (a b : Nat → Int) (i J k l p q : Nat) : Int := botS d F a b i J p q + if p < k ∨ (p = k ∧ q < l) then botG F a b p q i J else 0
theorem botG_low1 {F : Nat → Nat → Int} {a b : Nat → Int} (ha : a 0 = 0) {p q i j : Nat} (h : p < i) : botG F a b p q i j = 0 := by
  unfold botG; rw [Ser.pw_low ha i p h]; simp
theorem botG_low2 {F : Nat → Nat → Int} {a b : Nat → Int} (hb : b 0 = 0) {p q i j : Nat} (h : q < j) : botG F a b p q i j = 0 := by
  unfold botG; rw [Ser.pw_low hb j q h]; simp
theorem botS_zero (m : Int) (d : Nat) (F : Nat → Nat → Int) (a b : Nat → Int) : tab m d (botS d F a b 0 0) = tab m d fun _ _ => 0 := rfl
theorem botK_begin (m : Int) (d : Nat) (F : Nat → Nat → Int) {a b : Nat → Int} (ha : a 0 = 0) (hb : b 0 = 0) (i J : Nat) : tab m d (botK d F a b i J i J) = tab m d (botS d F a b i J) :=
  tab_congr (Eq.of m d (fun p q _ => by
    unfold botK
    split
    · rename_i h
      rcases h with h | h
      · rw [botG_low1 ha h, Int.add_zero]
      · rw [botG_low2 hb h.2, Int.add_zero]
    · rw [Int.add_zero]))
theorem botK_row (m : Int) (d : Nat) (F : Nat → Nat → Int) {a b : Nat → Int} (hb : b 0 = 0) (i J k l : Nat) (h : d < k + l) : tab m d (botK d F a b i J k l) = tab m d (botK d F a b i J (k + 1) J) :=
  tab_congr (Eq.of m d (fun p q hpq => by
    unfold botK
    by_cases h1 : p < k ∨ (p = k ∧ q < l)
    · rw [if_pos h1, if_pos (by omega)]
    · rw [if_neg h1]
      split
      · rename_i h2
        rw [botG_low2 hb (by omega)]
      · rfl))
theorem botK_end (m : Int) (d : Nat) (F : Nat → Nat → Int) (a b : Nat → Int) (i J k l : Nat) (h : d < k) : tab m d (botK d F a b i J k l) = tab m d (botS d F a b i (J + 1)) :=
  tab_congr (Eq.of m d (fun p q hpq => by
    unfold botK botS
    rw [if_pos (by omega), acc_succ]))
theorem botK_step (m : Int) (d : Nat) (F : Nat → Nat → Int) (a b : List Int) (i J k l : Nat) (h : k + l ≤ d) :
    (tab m d (botK d F (Ser.co a) (Ser.co b) i J k l)).set k ((rw' (tab m d (botK d F (Ser.co a) (Ser.co b) i J k l)) k).set l ((pc (tab m d (botK d F (Ser.co a) (Ser.co b) i J k l)) k l + (F i J * Ser.co (Ser.pwL m d a i) k) % m * Ser.co (Ser.pwL m d b J) l) % m)) = tab m d (botK d F (Ser.co a) (Ser.co b) i J k (l + 1)) := by
  refine tab_put h ?_ (fun p q hpq hne => ?_)
  · rw [pc_tab h]
    unfold botK
    rw [if_pos (by omega), if_neg (by omega), Int.add_zero]
    refine Ser.add_cong (Int.emod_emod _ _).symm ?_
    rw [Ser.pwL_cut, Ser.pwL_cut, Ser.co_cut (by omega), Ser.co_cut (by omega)]
    unfold botG
    rw [← Int.mul_assoc]
    refine Ser.mul_cong ?_ (Int.emod_emod _ _).symm
    rw [Int.emod_emod]
    exact Ser.mul_cong rfl (Int.emod_emod _ _).symm
  · unfold botK
    by_cases h1 : p < k ∨ (p = k ∧ q < l)
    · rw [if_pos h1, if_pos (by omega)]
    · rw [if_neg h1, if_neg (by omega)]
theorem botS_skip (m : Int) (d : Nat) (F : Nat → Nat → Int) (a b : Nat → Int) (i J : Nat) (h : F i J = 0) : tab m d (botS d F a b i (J + 1)) = tab m d (botS d F a b i J) :=
  tab_congr (Eq.of m d (fun p q hpq => by
    unfold botS
    rw [acc_succ]
    unfold botG
    rw [h, Int.zero_mul, Int.add_zero]))
theorem botS_next (m : Int) (d : Nat) (F : Nat → Nat → Int) (a b : Nat → Int) (i J : Nat) (h : i + J = d + 1) : tab m d (botS d F a b i J) = tab m d (botS d F a b (i + 1) 0) :=
  tab_congr (Eq.of m d (fun p q hpq => by unfold botS; rw [acc_next _ _ _ _ h]))
theorem botS_last (m : Int) (d : Nat) (F : Nat → Nat → Int) (a b : List Int) (hF : ∀ i j, d < i + j → F i j = 0) : tab m d (botS d F (Ser.co a) (Ser.co b) (d + 1) 0) = botT m d F a b :=
  tab_congr (Eq.of m d (fun p q hpq => by
    unfold botS
    rw [acc_last _ _ (fun i j h => by unfold botG; rw [hF i j h, Int.zero_mul])]; rfl))
end Pl
end Go.Proofs.Ytakdmnecllcmnaa

/- Plain theory of laws: powers of a table, Horner's rule for tables, faults, inverses: no program in sight. -/
namespace Go.Proofs.Ytakdmnecllcmnaa
namespace Pl
open Ser (psum cv pw)

theorem mul2_congr {m : Int} {a a' b b' : Nat → Nat → Int} {d : Nat} (h : Eq m d a a') (k : Eq m d b b') : Eq m d (mul2 a b) (mul2 a' b') := by
  intro p q hpq
  refine Ser.psum_congr _ (fun i hi => Ser.psum_congr _ (fun j hj => Ser.mul_cong (h i j (by omega)) (k _ _ (by omega))))
theorem mul2_add (a a' b : Nat → Nat → Int) (p q : Nat) : mul2 (fun i j => a i j + a' i j) b p q = mul2 a b p q + mul2 a' b p q := by
  unfold mul2
  rw [← Ser.psum_add]
  refine Ser.psum_ext _ (fun i _ => ?_)
  rw [← Ser.psum_add]
  exact Ser.psum_ext _ (fun j _ => Int.add_mul _ _ _)
theorem mul2_smul (c : Int) (a b : Nat → Nat → Int) (p q : Nat) : mul2 (fun i j => c * a i j) b p q = c * mul2 a b p q := by
  unfold mul2
  rw [← Ser.psum_mul]
  refine Ser.psum_ext _ (fun i _ => ?_)
  rw [← Ser.psum_mul]
  exact Ser.psum_ext _ (fun j _ => Int.mul_assoc _ _ _)
theorem mul2_turn (a b : Nat → Nat → Int) (p q : Nat) : mul2 a b q p = mul2 (fun i j => a j i) (fun i j => b j i) p q := by
  unfold mul2
  exact Ser.psum_swap _ _ _
/-- a number alone -/
def one2 (c : Int) : Nat → Nat → Int := fun p q => if p = 0 ∧ q = 0 then c else 0
/-- the powers of a table, and their list of tables -/
def pw2 (F : Nat → Nat → Int) : Nat → Nat → Nat → Int
  | 0 => one2 1
  | k + 1 => mul2 (pw2 F k) F
def pwT (m : Int) (d : Nat) (F : Nat → Nat → Int) : Nat → List (List Int)
  | 0 => tab m d (one2 1)
  | k + 1 => tab m d (mul2 (pc (pwT m d F k)) F)
theorem pwT_tab (m : Int) (d : Nat) (F : Nat → Nat → Int) : ∀ k, pwT m d F k = tab m d (pw2 F k) := by
  intro k
  induction k with
  | zero => rfl
  | succ k ih =>
    show tab m d (mul2 (pc (pwT m d F k)) F) = tab m d (mul2 (pw2 F k) F)
    rw [ih]
    exact tab_congr (mul2_congr (pc_tab_eq _ _ _) (Eq.refl _ _ _))
theorem pwT_length (m : Int) (d : Nat) (F : Nat → Nat → Int) (k : Nat) : (pwT m d F k).length = d + 1 := by cases k <;> exact tab_length _ _ _
/-- symmetric up to the degree -/
def Sym (d : Nat) (F : Nat → Nat → Int) : Prop := ∀ i j, i + j ≤ d → F i j = F j i
theorem pw2_sym {d : Nat} {F : Nat → Nat → Int} (h : Sym d F) : ∀ k, Sym d (pw2 F k) := by
  intro k
  induction k with
  | zero =>
    intro i j _
    show one2 1 i j = one2 1 j i
    unfold one2
    by_cases c : i = 0 ∧ j = 0
    · rw [if_pos c, if_pos ⟨c.2, c.1⟩]
    · rw [if_neg c, if_neg (fun e => c ⟨e.2, e.1⟩)]
  | succ k ih =>
    intro i j hij
    show mul2 (pw2 F k) F i j = mul2 (pw2 F k) F j i
    rw [mul2_turn (pw2 F k) F i j]
    refine Ser.psum_ext _ (fun a ha => Ser.psum_ext _ (fun b hb => ?_))
    rw [ih a b (by omega), h (i - a) (j - b) (by omega)]
/-- Horner's table when the last k of a list's coefficients have been taken in -/
def horq (m : Int) (d : Nat) (l : List Int) (F : Nat → Nat → Int) : Nat → List (List Int)
  | 0 => tab m d fun _ _ => 0
  | k + 1 => tab m d fun p q => mul2 (pc (horq m d l F k)) F p q + (if p = 0 ∧ q = 0 then Ser.co l (l.length - 1 - k) else 0)
theorem horq_length (m : Int) (d : Nat) (l : List Int) (F : Nat → Nat → Int) (k : Nat) : (horq m d l F k).length = d + 1 := by
  cases k <;> exact tab_length _ _ _
theorem horq_ok {m : Int} {d : Nat} (m1 : 2 ≤ m) (m2 : m ≤ 10000) (d1 : 1 ≤ d) (d2 : d ≤ 10) (l : List Int) (F : Nat → Nat → Int) (k : Nat) : Ok m d (horq m d l F k) := by
  cases k <;> (unfold horq; exact Ok.of_tab m1 m2 d1 d2 _)
theorem horq_step {m : Int} {d : Nat} (l : List Int) (F : Nat → Nat → Int) (k : Nat) :
    (tab m d (mul2 (pc (horq m d l F k)) F)).set 0 ((rw' (tab m d (mul2 (pc (horq m d l F k)) F)) 0).set 0 ((pc (tab m d (mul2 (pc (horq m d l F k)) F)) 0 0 + Ser.co l (l.length - 1 - k)) % m)) = horq m d l F (k + 1) := by
  rw [pc_tab (Nat.zero_le _)]
  refine tab_put (Nat.zero_le _) ?_ (fun p q _ hne => ?_)
  · rw [if_pos ⟨rfl, rfl⟩, Int.emod_add_emod]
  · rw [if_neg hne, Int.add_zero]
theorem mul2_psum (g : Nat → Nat → Nat → Int) (F : Nat → Nat → Int) (p q : Nat) : ∀ n, mul2 (fun i j => psum (fun k => g k i j) n) F p q = psum (fun k => mul2 (g k) F p q) n := by
  intro n
  induction n with
  | zero =>
    have : (fun i j : Nat => psum (fun k => g k i j) 0) = fun i j => 0 * F i j := by funext i j; rw [Int.zero_mul]; rfl
    rw [this, mul2_smul, Int.zero_mul]; rfl
  | succ n ih =>
    have : (fun i j => psum (fun k => g k i j) (n + 1)) = fun i j => psum (fun k => g k i j) n + g n i j := rfl
    rw [this, mul2_add, ih, psum]
theorem horq_pw {m : Int} {d : Nat} (l : List Int) (F : Nat → Nat → Int) : ∀ k, k ≤ l.length → Eq m d (pc (horq m d l F k)) (fun p q => psum (fun i => Ser.co l (l.length - k + i) * pw2 F i p q) k) := by
  intro k
  induction k with
  | zero => intro _ p q h; rw [show horq m d l F 0 = tab m d fun _ _ => 0 from rfl, pc_tab h, Int.emod_emod]; rfl
  | succ k ih =>
    intro hk p q h
    rw [show horq m d l F (k + 1) = tab m d fun p q => mul2 (pc (horq m d l F k)) F p q + (if p = 0 ∧ q = 0 then Ser.co l (l.length - 1 - k) else 0) from rfl, pc_tab h, Int.emod_emod]
    dsimp only
    rw [Ser.psum_left, Int.add_comm (Ser.co l _ * _)]
    refine Ser.add_cong ?_ ?_
    · rw [mul2_congr (ih (by omega)) (Eq.refl _ _ _) p q h, mul2_psum]
      congr 1
      refine Ser.psum_ext _ (fun i hi => ?_)
      rw [mul2_smul, show l.length - k + i = l.length - (k + 1) + (i + 1) by omega]; rfl
    · rw [show l.length - 1 - k = l.length - (k + 1) + 0 by omega]
      show _ = (_ * one2 1 p q) % m
      unfold one2
      split <;> simp
/-- the coefficient at x^a y^b z^c of F(F(x, y), z) -/
def brS (m : Int) (d : Nat) (F : Nat → Nat → Int) (a b c : Nat) : Int := psum (fun i => F i c * pc (pwT m d F i) a b) (d + 1 - c)
def br (m : Int) (d : Nat) (F : Nat → Nat → Int) (a b c : Nat) : Int := brS m d F a b c % m
theorem horq_br {m : Int} {d : Nat} (l : List Int) (F : Nat → Nat → Int) (c : Nat) (hl : l.length = d + 1 - c) (h : ∀ i, i < l.length → Ser.co l i = F i c) (a b : Nat) (hab : a + b ≤ d) : pc (horq m d l F l.length) a b = br m d F a b c := by
  have hr : pc (horq m d l F l.length) a b = pc (horq m d l F l.length) a b % m := by
    have e : ∀ k, ∃ g, horq m d l F k = tab m d g := fun k => by cases k <;> exact ⟨_, rfl⟩
    obtain ⟨g, hg⟩ := e l.length
    rw [hg, pc_tab hab, Int.emod_emod]
  rw [hr, horq_pw l F l.length (Nat.le_refl _) a b hab]
  unfold br brS
  rw [hl]
  refine Ser.psum_congr _ (fun i hi => ?_)
  rw [Nat.sub_self, Nat.zero_add, h i (by omega), pwT_tab]
  exact Ser.mul_cong rfl (by rw [pc_tab hab, Int.emod_emod])
theorem horq_br' {m : Int} {d : Nat} (l : List Int) {F : Nat → Nat → Int} (hs : Sym d F) (c : Nat) (hl : l.length = d + 1 - c) (h : ∀ i, i < l.length → Ser.co l i = F c i) (a b : Nat) (hab : a + b ≤ d) : pc (horq m d l F l.length) b a = br m d F a b c := by
  rw [horq_br l F c hl (fun i hi => by rw [h i hi, hs c i (by omega)]) b a (by omega)]
  unfold br brS
  refine Ser.psum_congr _ (fun i hi => ?_)
  rw [pwT_tab, pc_tab (by omega), pc_tab hab, pw2_sym hs i b a (by omega)]

/-! the first of something -/
def srch (p : Nat → Option (List Int)) : Nat → Nat → Option (List Int)
  | 0, _ => none
  | n + 1, k => match p k with
    | some x => some x
    | none => srch p n (k + 1)
def orE (a b : Option (List Int)) : Option (List Int) := match a with
  | some x => some x
  | none => b
theorem srch_hit {p : Nat → Option (List Int)} {k : Nat} {x : List Int} (n : Nat) (h : p k = some x) : srch p (n + 1) k = some x := by rw [srch, h]
theorem srch_miss {p : Nat → Option (List Int)} {k : Nat} (n : Nat) (h : p k = none) : srch p (n + 1) k = srch p n (k + 1) := by rw [srch, h]
theorem srch_step (p : Nat → Option (List Int)) (n k : Nat) : srch p (n + 1) k = orE (p k) (srch p n (k + 1)) := by rw [srch]; unfold orE; split <;> simp_all
theorem orE_none (b : Option (List Int)) : orE none b = b := rfl
theorem orE_some (x : List Int) (b : Option (List Int)) : orE (some x) b = some x := rfl
theorem srch_none {p : Nat → Option (List Int)} : ∀ n k, srch p n k = none → ∀ i, k ≤ i → i < k + n → p i = none := by
  intro n
  induction n with
  | zero => intro k _ i h1 h2; omega
  | succ n ih =>
    intro k h i h1 h2
    rw [srch_step] at h
    cases hp : p k with
    | some x => rw [hp] at h; exact absurd h (by simp [orE])
    | none =>
      rw [hp] at h
      by_cases hi : i = k
      · rw [hi]; exact hp
      · exact ih (k + 1) h i (by omega) (by omega)
def want (i : Nat) : Int := if i = 1 then 1 else 0
def fau0 (F : Nat → Nat → Int) (i : Nat) : Option (List Int) := if F i 0 = want i then none else some [0, (i : Int)]
def fau1j (F : Nat → Nat → Int) (i j : Nat) : Option (List Int) := if F i j = F j i then none else some [1, (i : Int), (j : Int)]
def fau1 (d : Nat) (F : Nat → Nat → Int) (i : Nat) : Option (List Int) := srch (fau1j F i) (d - i - i) (i + 1)
def fau2c (m : Int) (d : Nat) (F : Nat → Nat → Int) (a b c : Nat) : Option (List Int) := if br m d F a b c = br m d F c b a then none else some [2, (a : Int), (b : Int), (c : Int)]
def fau2b (m : Int) (d : Nat) (F : Nat → Nat → Int) (a b : Nat) : Option (List Int) := srch (fau2c m d F a b) (d + 1 - (a + b)) 0
def fau2 (m : Int) (d : Nat) (F : Nat → Nat → Int) (a : Nat) : Option (List Int) := srch (fau2b m d F a) (d + 1 - a) 0
def fauP (d : Nat) (F : Nat → Nat → Int) : Option (List Int) := srch (fau0 F) (d + 1) 0
def fauS (d : Nat) (F : Nat → Nat → Int) : Option (List Int) := srch (fau1 d F) (d + 1) 0
def fauT (m : Int) (d : Nat) (F : Nat → Nat → Int) : Option (List Int) := srch (fau2 m d F) (d + 1) 0
def fau (m : Int) (d : Nat) (F : Nat → Nat → Int) : Option (List Int) := orE (fauP d F) (orE (fauS d F) (fauT m d F))
theorem fauP_none {d : Nat} {F : Nat → Nat → Int} (h : fauP d F = none) (i : Nat) (hi : i ≤ d) : F i 0 = want i := by
  have := srch_none _ _ h i (Nat.zero_le _) (by omega)
  unfold fau0 at this
  by_cases c : F i 0 = want i
  · exact c
  · rw [if_neg c] at this; exact absurd this (by simp)
theorem fauS_none {d : Nat} {F : Nat → Nat → Int} (h : fauS d F = none) : Sym d F := by
  have key : ∀ i j, i < j → i + j ≤ d → F i j = F j i := by
    intro i j h1 h2
    have := srch_none _ _ (srch_none _ _ h i (Nat.zero_le _) (by omega)) j (by omega) (by omega)
    unfold fau1j at this
    by_cases c : F i j = F j i
    · exact c
    · rw [if_neg c] at this; exact absurd this (by simp)
  intro i j hij
  by_cases h1 : i < j
  · exact key i j h1 hij
  · by_cases h2 : j < i
    · exact (key j i h2 (by omega)).symm
    · rw [show i = j by omega]

/-! the inverse of a law -/
/-- the first variable's terms are t alone, the second's too -/
structure Norm (d : Nat) (F : Nat → Nat → Int) : Prop where
  x : ∀ i, i ≤ d → F i 0 = want i
  y : ∀ j, j ≤ d → F 0 j = want j
  over : ∀ i j, d < i + j → F i j = 0
theorem norm_of {d : Nat} {F : Nat → Nat → Int} (h : fauP d F = none) (h' : fauS d F = none) (ho : ∀ i j, d < i + j → F i j = 0) : Norm d F :=
  ⟨fauP_none h, fun j hj => by rw [fauS_none h' 0 j (by omega)]; exact fauP_none h j hj, ho⟩
/-- products and powers up to n ask for coefficients up to n -/
theorem pw_less {m : Int} {n : Nat} {g g' : Nat → Int} (h : ∀ i, i < n → g i % m = g' i % m) (k i : Nat) (hi : i < n) : pw g k i % m = pw g' k i % m :=
  Ser.pw_congr (m := m) (n := n - 1) (fun j hj => h j (by omega)) k i (by omega)
/-- what one coefficient more does to a sum of curves under a law -/
theorem put_last {m : Int} {d : Nat} {F : Nat → Nat → Int} (hF : Norm d F) {a g g' : Nat → Int} (ha : a 0 = 0) (hg : g 0 = 0) (hg' : g' 0 = 0) {n : Nat} (hn : 1 ≤ n) (hnd : n ≤ d) (h : ∀ i, i < n → g i % m = g' i % m) :
    (putF F a g (d + 1) n - putF F a g' (d + 1) n) % m = (g n - g' n) % m := by
  have e : ∀ u : Nat → Int, u 0 = 0 → putF F a u (d + 1) n = psum (fun j => F 0 j * pw u j n) (d + 1) + psum (fun i => psum (fun j => F (i + 1) j * cv n (pw a (i + 1)) (pw u j)) (d + 1)) d := by
    intro u _
    unfold putF
    rw [Ser.psum_left]
    congr 1
    refine Ser.psum_ext _ (fun j _ => ?_)
    rw [show pw a 0 = Ser.mon 0 1 from rfl, Ser.cv_const, Int.one_mul]
  have e0 : ∀ u : Nat → Int, psum (fun j => F 0 j * pw u j n) (d + 1) = u n := by
    intro u
    rw [Ser.psum_ext (g := fun j => u n * Ser.mon j 1 1) (d + 1) (fun j hj => by
      rw [hF.y j (by omega)]
      unfold want Ser.mon
      by_cases c : j = 1
      · rw [if_pos c, if_pos c.symm, c, Int.one_mul, Int.mul_one]
        show Ser.cv n (Ser.mon 0 1) u = u n
        rw [Ser.cv_const, Int.one_mul]
      · rw [if_neg c, if_neg (fun h => c h.symm), Int.zero_mul, Int.mul_zero])]
    rw [Ser.psum_mon (fun _ => u n) 1 (d + 1), if_pos (by omega)]
  rw [e g hg, e g' hg', e0, e0]
  have hz : ∀ (i : Nat), pw a (i + 1) 0 = 0 := fun i => Ser.pw_low ha (i + 1) 0 (by omega)
  have hc : psum (fun i => psum (fun j => F (i + 1) j * cv n (pw a (i + 1)) (pw g j)) (d + 1)) d % m = psum (fun i => psum (fun j => F (i + 1) j * cv n (pw a (i + 1)) (pw g' j)) (d + 1)) d % m :=
    Ser.psum_congr _ (fun i _ => Ser.psum_congr _ (fun j _ => Ser.mul_cong rfl (Ser.cv_congr_curve (by rw [hz, Int.zero_emod]) (by rw [hz, Int.zero_emod]) (Ser.Eq.refl _ _ _) (fun k hk => pw_less h j k hk))))
  have := Ser.sub_cong (m := m) (x := g n + _) (y := g n + _) (Ser.add_cong rfl hc) (rfl : (g' n + psum (fun i => psum (fun j => F (i + 1) j * cv n (pw a (i + 1)) (pw g' j)) (d + 1)) d) % m = _)
  rw [this]
  congr 1
  omega
theorem put_congr {m : Int} {F : Nat → Nat → Int} {a a' g g' : Nat → Int} {N n : Nat} (h : Ser.Eq m n a a') (h' : Ser.Eq m n g g') : putF F a g N n % m = putF F a' g' N n % m :=
  Ser.psum_congr _ (fun i _ => Ser.psum_congr _ (fun j _ => Ser.mul_cong rfl (Ser.cv_congr n (Ser.pw_congr h i) (Ser.pw_congr h' j))))
theorem put_zero {d : Nat} {F : Nat → Nat → Int} (hF : Norm d F) {a g : Nat → Int} (ha : a 0 = 0) (hg : g 0 = 0) : putF F a g (d + 1) 0 = 0 := by
  unfold putF
  refine Ser.psum_low _ _ (fun i hi => Ser.psum_low _ _ (fun j hj => ?_))
  rw [Ser.cv_zero]
  by_cases c : i = 0 ∧ j = 0
  · rw [c.1, c.2, hF.x 0 (Nat.zero_le _)]; simp [want]
  · by_cases c1 : i = 0
    · rw [Ser.pw_low hg j 0 (by omega)]; simp
    · rw [Ser.pw_low ha i 0 (by omega)]; simp
/-- the line t -/
def lin (m : Int) (d : Nat) (c : Int) : List Int := Ser.cut m d (Ser.mon 1 c)
/-- the model's inverse after n numbers -/
def invS (m : Int) (d : Nat) (F : Nat → Nat → Int) : Nat → List Int
  | 0 => List.replicate (d + 1) 0
  | n + 1 => (invS m d F n).set (n + 1) ((m - Ser.co (putL m d F (lin m d 1) (invS m d F n)) (n + 1)) % m)
/-- the program's -/
def invP (m : Int) (d : Nat) (F : Nat → Nat → Int) : Nat → List Int
  | 0 => lin m d 0
  | n + 1 => Ser.cut m d fun i => Ser.co (invP m d F n) i + Ser.co (Ser.cut m d fun j => Ser.co (putL m d F (lin m d 1) (invP m d F n)) j * -1) i
theorem invS_length (m : Int) (d : Nat) (F : Nat → Nat → Int) (n : Nat) : (invS m d F n).length = d + 1 := by
  induction n with
  | zero => simp [invS]
  | succ n ih => rw [invS, List.length_set, ih]
theorem invP_length (m : Int) (d : Nat) (F : Nat → Nat → Int) (n : Nat) : (invP m d F n).length = d + 1 := by cases n <;> exact Ser.cut_length _ _ _
theorem invS_red {m : Int} (hm : 0 < m) (d : Nat) (F : Nat → Nat → Int) (n : Nat) : Ser.Red m (invS m d F n) := by
  induction n with
  | zero => intro i; rw [invS, Ser.co_zeros]; omega
  | succ n ih =>
    intro i
    rw [invS]
    by_cases c : n + 1 < d + 1
    · rw [Ser.co_set (by rw [invS_length]; exact c)]
      split
      · exact ⟨Int.emod_nonneg _ (by omega), Int.emod_lt_of_pos _ hm⟩
      · exact ih i
    · rw [List.set_eq_of_length_le (by rw [invS_length]; omega)]; exact ih i
theorem invP_red {m : Int} (hm : 0 < m) (d : Nat) (F : Nat → Nat → Int) (n : Nat) : Ser.Red m (invP m d F n) := by cases n <;> exact Ser.cut_red hm _ _
theorem invS_co (m : Int) (d : Nat) (F : Nat → Nat → Int) (n i : Nat) (hn : n < d) : Ser.co (invS m d F (n + 1)) i = if i = n + 1 then (m - Ser.co (putL m d F (lin m d 1) (invS m d F n)) (n + 1)) % m else Ser.co (invS m d F n) i := by
  rw [invS, Ser.co_set (by rw [invS_length]; omega)]
theorem invS_curve (m : Int) (d : Nat) (F : Nat → Nat → Int) : ∀ n, n ≤ d → Ser.co (invS m d F n) 0 = 0 := by
  intro n
  induction n with
  | zero => intro _; rw [invS, Ser.co_zeros]
  | succ n ih => intro hn; rw [invS_co _ _ _ _ _ (by omega), if_neg (by omega), ih (by omega)]
theorem invS_over (m : Int) (d : Nat) (F : Nat → Nat → Int) : ∀ n i, n ≤ d → n < i → Ser.co (invS m d F n) i = 0 := by
  intro n
  induction n with
  | zero => intro i _ _; rw [invS, Ser.co_zeros]
  | succ n ih => intro i hn hi; rw [invS_co _ _ _ _ _ (by omega), if_neg (by omega), ih i (by omega) (by omega)]
theorem invS_pre (m : Int) (d : Nat) (F : Nat → Nat → Int) (n k i : Nat) (h : i ≤ n) (hk : n + k ≤ d) : Ser.co (invS m d F (n + k)) i = Ser.co (invS m d F n) i := by
  induction k with
  | zero => rfl
  | succ k ih => rw [← Nat.add_assoc, invS_co _ _ _ _ _ (by omega), if_neg (by omega), ih (by omega)]
theorem lin_curve (m : Int) (d : Nat) (c : Int) : Ser.co (lin m d c) 0 = 0 := by
  unfold lin; rw [Ser.co_cut (Nat.zero_le _)]; simp [Ser.mon]
theorem put_cut {m : Int} {d : Nat} {F : Nat → Nat → Int} {a b : List Int} {n : Nat} (h : n ≤ d) : Ser.co (putL m d F a b) n = putF F (Ser.co a) (Ser.co b) (d + 1) n % m := Ser.co_cut h
/-- the model's inverse is one -/
theorem invS_inv {m : Int} {d : Nat} {F : Nat → Nat → Int} (hF : Norm d F) : ∀ n, n ≤ d → ∀ i, i ≤ n → putF F (Ser.co (lin m d 1)) (Ser.co (invS m d F n)) (d + 1) i % m = 0 := by
  intro n
  induction n with
  | zero =>
    intro _ i hi
    obtain rfl : i = 0 := by omega
    rw [put_zero hF (lin_curve m d 1) (invS_curve m d F 0 (Nat.zero_le _)), Int.zero_emod]
  | succ n ih =>
    intro hn i hi
    by_cases c : i ≤ n
    · rw [put_congr (Ser.Eq.refl m i _) (Ser.Eq.of m i (fun j hj => invS_pre m d F n 1 j (by omega) (by omega)))]
      exact ih (by omega) i c
    · obtain rfl : i = n + 1 := by omega
      have := put_last (m := m) hF (a := Ser.co (lin m d 1)) (lin_curve m d 1) (invS_curve m d F (n + 1) hn) (invS_curve m d F n (by omega)) (n := n + 1) (by omega) hn (fun j hj => by rw [invS_pre m d F n 1 j (by omega) (by omega)])
      rw [invS_co m d F n (n + 1) (by omega), if_pos rfl, invS_over m d F n (n + 1) (by omega) (by omega), put_cut hn] at this
      revert this
      generalize putF F (Ser.co (lin m d 1)) (Ser.co (invS m d F (n + 1))) (d + 1) (n + 1) = X
      generalize putF F (Ser.co (lin m d 1)) (Ser.co (invS m d F n)) (d + 1) (n + 1) = Y
      intro h
      rw [Int.sub_zero, Int.emod_emod] at h
      have h2 := Ser.add_cong (m := m) h (rfl : Y % m = Y % m)
      rw [Int.sub_add_cancel] at h2
      rw [h2]
      have h3 : (m - Y % m + Y) % m = (m - Y + Y) % m := Ser.add_cong (Ser.sub_cong rfl (Int.emod_emod _ _)) rfl
      rw [h3, Int.sub_add_cancel, Int.emod_self]
theorem invP_co {m : Int} {d : Nat} {F : Nat → Nat → Int} (n i : Nat) (hi : i ≤ d) : Ser.co (invP m d F (n + 1)) i % m = (Ser.co (invP m d F n) i - putF F (Ser.co (lin m d 1)) (Ser.co (invP m d F n)) (d + 1) i) % m := by
  rw [invP, Ser.co_cut hi, Ser.co_cut hi, Int.emod_emod, Int.sub_eq_add_neg]
  refine Ser.add_cong rfl ?_
  rw [Int.emod_emod, put_cut hi, Int.mul_neg, Int.mul_one, show -(putF F (Ser.co (lin m d 1)) (Ser.co (invP m d F n)) (d + 1) i % m) = 0 - putF F (Ser.co (lin m d 1)) (Ser.co (invP m d F n)) (d + 1) i % m by omega, show -putF F (Ser.co (lin m d 1)) (Ser.co (invP m d F n)) (d + 1) i = 0 - putF F (Ser.co (lin m d 1)) (Ser.co (invP m d F n)) (d + 1) i by omega]
  exact Ser.sub_cong rfl (Int.emod_emod _ _)
theorem invP_curve {m : Int} (hm : 0 < m) {d : Nat} {F : Nat → Nat → Int} (hF : Norm d F) : ∀ n, Ser.co (invP m d F n) 0 = 0 := by
  intro n
  induction n with
  | zero => exact lin_curve m d 0
  | succ n ih =>
    have h := invP_co (m := m) (F := F) n 0 (Nat.zero_le d)
    rw [put_zero hF (lin_curve m d 1) ih, ih] at h
    have hr := invP_red hm d F (n + 1) 0
    rw [Int.emod_eq_of_lt hr.1 hr.2] at h
    simpa using h
theorem invP_agrees {m : Int} (hm : 0 < m) {d : Nat} {F : Nat → Nat → Int} (hF : Norm d F) : ∀ n, n ≤ d → ∀ i, i ≤ n → Ser.co (invP m d F n) i % m = Ser.co (invS m d F d) i % m := by
  intro n
  induction n with
  | zero =>
    intro _ i hi
    obtain rfl : i = 0 := by omega
    rw [invP_curve hm hF, invS_curve m d F d (Nat.le_refl _)]
  | succ n ih =>
    intro hn i hi
    rw [invP_co n i (by omega)]
    have hz := invS_inv (m := m) hF d (Nat.le_refl _) i (by omega)
    by_cases c : i ≤ n
    · have := put_congr (F := F) (N := d + 1) (Ser.Eq.refl m i (Ser.co (lin m d 1))) (fun j hj => ih (by omega) j (by omega) : Ser.Eq m i (Ser.co (invP m d F n)) (Ser.co (invS m d F d)))
      rw [hz] at this
      rw [Ser.sub_cong (ih (by omega) i c) (this.trans (Int.zero_emod m).symm), Int.sub_zero]
    · obtain rfl : i = n + 1 := by omega
      have := put_last (m := m) hF (a := Ser.co (lin m d 1)) (lin_curve m d 1) (invP_curve hm hF n) (invS_curve m d F d (Nat.le_refl _)) (n := n + 1) (by omega) hn (fun j hj => ih (by omega) j (by omega))
      revert this hz
      generalize putF F (Ser.co (lin m d 1)) (Ser.co (invP m d F n)) (d + 1) (n + 1) = X
      generalize putF F (Ser.co (lin m d 1)) (Ser.co (invS m d F d)) (d + 1) (n + 1) = Y
      intro hz h
      have h1 : X % m = (Ser.co (invP m d F n) (n + 1) - Ser.co (invS m d F d) (n + 1)) % m := by
        rw [← h]
        have := Ser.sub_cong (m := m) (rfl : X % m = X % m) (hz.trans (Int.zero_emod m).symm)
        rw [this, Int.sub_zero]
      rw [Ser.sub_cong rfl h1]
      congr 1
      omega
theorem inv_same {m : Int} (hm : 0 < m) {d : Nat} {F : Nat → Nat → Int} (hF : Norm d F) : invP m d F d = invS m d F d :=
  Ser.red_unique (invP_length m d F d) (invS_length m d F d) (invP_red hm d F d) (invS_red hm d F d) (fun i hi => invP_agrees hm hF d (Nat.le_refl _) i hi)
end Pl
end Go.Proofs.Ytakdmnecllcmnaa

/- Plain facts: tables under their product are a commutative ring; Horner's tables of any list; quotients: no program in sight. -/
namespace Go.Proofs.Ytakdmnecllcmnaa
namespace Ser

theorem psum_rev' (f : Nat → Int) (n : Nat) : psum (fun i => f (n - i)) (n + 1) = psum f (n + 1) := by
  have h1 := cv_psum n (fun _ => 1) f
  have h2 := cv_psum n f (fun _ => 1)
  rw [cv_comm, h2] at h1
  rw [psum_ext (f := fun i => f i * 1) (g := f) _ (fun i _ => Int.mul_one _), psum_ext (f := fun i => 1 * f (n - i)) (g := fun i => f (n - i)) _ (fun i _ => Int.one_mul _)] at h1
  exact h1.symm
theorem psum_tri : ∀ (p : Nat) (g : Nat → Nat → Nat → Int), psum (fun k => psum (fun i => g i (k - i) (p - k)) (k + 1)) (p + 1) = psum (fun i => psum (fun j => g i j (p - i - j)) (p - i + 1)) (p + 1) := by
  intro p
  induction p with
  | zero => intro g; rfl
  | succ p ih =>
    intro g
    have e1 : psum (fun k => psum (fun i => g i (k - i) (p + 1 - k)) (k + 1)) (p + 1 + 1) = psum (fun k => g 0 k (p + 1 - k)) (p + 1 + 1) + psum (fun k => psum (fun i => g (i + 1) (k - i) (p - k)) (k + 1)) (p + 1) := by
      rw [psum_ext (g := fun k => g 0 k (p + 1 - k) + psum (fun i => g (i + 1) (k - (i + 1)) (p + 1 - k)) k) _ (fun k _ => by rw [psum_left]; rfl), psum_add]
      congr 1
      rw [psum_left]
      show 0 + _ = _
      rw [Int.zero_add]
      exact psum_ext _ (fun k _ => psum_ext _ (fun i _ => by rw [show k + 1 - (i + 1) = k - i by omega, show p + 1 - (k + 1) = p - k by omega]))
    have e2 : psum (fun i => psum (fun j => g i j (p + 1 - i - j)) (p + 1 - i + 1)) (p + 1 + 1) = psum (fun k => g 0 k (p + 1 - k)) (p + 1 + 1) + psum (fun i => psum (fun j => g (i + 1) j (p - i - j)) (p - i + 1)) (p + 1) := by
      rw [psum_left]
      congr 1
      exact psum_ext _ (fun i _ => by
        rw [show p + 1 - (i + 1) + 1 = p - i + 1 by omega]
        exact psum_ext _ (fun j _ => by rw [show p + 1 - (i + 1) - j = p - i - j by omega]))
    rw [e1, e2, ih (fun i j k => g (i + 1) j k)]
end Ser

namespace Pl
open Ser (psum)

theorem mul2_comm (a b : Nat → Nat → Int) : mul2 a b = mul2 b a := by
  funext p q
  unfold mul2
  rw [← Ser.psum_rev' (fun k => psum (fun l => a k l * b (p - k) (q - l)) (q + 1)) p]
  refine Ser.psum_ext _ (fun k hk => ?_)
  rw [← Ser.psum_rev' (fun l => a (p - k) l * b (p - (p - k)) (q - l)) q]
  refine Ser.psum_ext _ (fun l hl => ?_)
  rw [show p - (p - k) = k by omega, show q - (q - l) = l by omega, Int.mul_comm]
theorem mul2_assoc (a b c : Nat → Nat → Int) : mul2 (mul2 a b) c = mul2 a (mul2 b c) := by
  funext p q
  have e1 : mul2 (mul2 a b) c p q = psum (fun k => psum (fun i => psum (fun l => psum (fun j => a i j * b (k - i) (l - j) * c (p - k) (q - l)) (l + 1)) (q + 1)) (k + 1)) (p + 1) := by
    unfold mul2
    refine Ser.psum_ext _ (fun k _ => ?_)
    rw [Ser.psum_swap]
    refine Ser.psum_ext _ (fun l _ => ?_)
    rw [← Ser.psum_mul']
    refine Ser.psum_ext _ (fun i _ => ?_)
    rw [← Ser.psum_mul']
  have e2 : mul2 a (mul2 b c) p q = psum (fun i => psum (fun k => psum (fun j => psum (fun l => a i j * b k l * c (p - i - k) (q - j - l)) (q - j + 1)) (q + 1)) (p - i + 1)) (p + 1) := by
    unfold mul2
    refine Ser.psum_ext _ (fun i _ => ?_)
    rw [Ser.psum_swap]
    refine Ser.psum_ext _ (fun j _ => ?_)
    rw [← Ser.psum_mul]
    refine Ser.psum_ext _ (fun k _ => ?_)
    rw [← Ser.psum_mul]
    exact Ser.psum_ext _ (fun l _ => (Int.mul_assoc _ _ _).symm)
  rw [e1, e2, Ser.psum_tri p (fun i k k' => psum (fun l => psum (fun j => a i j * b k (l - j) * c k' (q - l)) (l + 1)) (q + 1))]
  refine Ser.psum_ext _ (fun i _ => Ser.psum_ext _ (fun k _ => ?_))
  exact Ser.psum_tri q (fun j l l' => a i j * b k l * c (p - i - k) l')
theorem mul2_lc (a b c : Nat → Nat → Int) : mul2 a (mul2 b c) = mul2 b (mul2 a c) := by rw [← mul2_assoc, mul2_comm a b, mul2_assoc]
/-- sums and multiples -/
def pl (a b : Nat → Nat → Int) : Nat → Nat → Int := fun i j => a i j + b i j
def sm (c : Int) (a : Nat → Nat → Int) : Nat → Nat → Int := fun i j => c * a i j
theorem pl_mul2 (a b c : Nat → Nat → Int) : mul2 (pl a b) c = pl (mul2 a c) (mul2 b c) := by funext p q; exact mul2_add a b c p q
theorem mul2_pl (a b c : Nat → Nat → Int) : mul2 a (pl b c) = pl (mul2 a b) (mul2 a c) := by rw [mul2_comm, pl_mul2, mul2_comm b, mul2_comm c]
theorem sm_mul2 (c : Int) (a b : Nat → Nat → Int) : mul2 (sm c a) b = sm c (mul2 a b) := by funext p q; exact mul2_smul c a b p q
theorem mul2_sm (c : Int) (a b : Nat → Nat → Int) : mul2 a (sm c b) = sm c (mul2 a b) := by rw [mul2_comm, sm_mul2, mul2_comm b]
theorem one2_mul2 (c : Int) (b : Nat → Nat → Int) : mul2 (one2 c) b = sm c b := by
  funext p q
  unfold mul2
  rw [Ser.psum_left, Ser.psum_left]
  have z1 : psum (fun i => one2 c 0 (i + 1) * b (p - 0) (q - (i + 1))) q = 0 := Ser.psum_low _ _ (fun i _ => by unfold one2; rw [if_neg (by omega), Int.zero_mul])
  have z2 : psum (fun i => psum (fun l => one2 c (i + 1) l * b (p - (i + 1)) (q - l)) (q + 1)) p = 0 := Ser.psum_low _ _ (fun i _ => Ser.psum_low _ _ (fun l _ => by unfold one2; rw [if_neg (by omega), Int.zero_mul]))
  rw [z1, z2]
  show one2 c 0 0 * b p q + 0 + 0 = c * b p q
  have : one2 c 0 0 = c := if_pos ⟨rfl, rfl⟩
  rw [this, Int.add_zero, Int.add_zero]
theorem mul2_one2 (c : Int) (b : Nat → Nat → Int) : mul2 b (one2 c) = sm c b := by rw [mul2_comm, one2_mul2]
theorem sm_one2 (c e : Int) : sm c (one2 e) = one2 (c * e) := by
  funext i j
  unfold sm one2
  split
  · rfl
  · exact Int.mul_zero c
theorem sm_sm (c e : Int) (a : Nat → Nat → Int) : sm c (sm e a) = sm (c * e) a := by funext i j; exact (Int.mul_assoc _ _ _).symm
theorem sm_pl (c : Int) (a b : Nat → Nat → Int) : sm c (pl a b) = pl (sm c a) (sm c b) := by funext i j; exact Int.mul_add _ _ _
theorem one_sm (a : Nat → Nat → Int) : sm 1 a = a := by funext i j; exact Int.one_mul _
theorem Eq.pl {m : Int} {d : Nat} {a a' b b' : Nat → Nat → Int} (h : Eq m d a a') (k : Eq m d b b') : Eq m d (pl a b) (pl a' b') := fun i j hij => Ser.add_cong (h i j hij) (k i j hij)
theorem Eq.sm {m : Int} {d : Nat} {a a' : Nat → Nat → Int} (c : Int) (h : Eq m d a a') : Eq m d (sm c a) (sm c a') := fun i j hij => Ser.mul_cong rfl (h i j hij)
theorem Eq.mul2 {m : Int} {d : Nat} {a a' b b' : Nat → Nat → Int} (h : Eq m d a a') (k : Eq m d b b') : Eq m d (mul2 a b) (mul2 a' b') := mul2_congr h k
/-- equal functions -/
theorem Eq.fn {m : Int} {d : Nat} {a b : Nat → Nat → Int} (h : a = b) : Eq m d a b := h ▸ Eq.refl m d a

/-! the value of a polynomial at a table, by Horner's rule: the list's first number is the constant -/
def polT (m : Int) (d : Nat) (F : Nat → Nat → Int) : List Int → List (List Int)
  | [] => tab m d fun _ _ => 0
  | c :: cs => tab m d fun p q => mul2 (pc (polT m d F cs)) F p q + (if p = 0 ∧ q = 0 then c else 0)
theorem polT_length (m : Int) (d : Nat) (F : Nat → Nat → Int) (cs : List Int) : (polT m d F cs).length = d + 1 := by cases cs <;> exact tab_length _ _ _
theorem polT_ok {m : Int} {d : Nat} (m1 : 2 ≤ m) (m2 : m ≤ 10000) (d1 : 1 ≤ d) (d2 : d ≤ 10) (F : Nat → Nat → Int) (cs : List Int) : Ok m d (polT m d F cs) := by cases cs <;> exact Ok.of_tab m1 m2 d1 d2 _
/-- a round -/
theorem polT_step {m : Int} {d : Nat} (F : Nat → Nat → Int) (c : Int) (cs : List Int) :
    (tab m d (mul2 (pc (polT m d F cs)) F)).set 0 ((rw' (tab m d (mul2 (pc (polT m d F cs)) F)) 0).set 0 ((pc (tab m d (mul2 (pc (polT m d F cs)) F)) 0 0 + c) % m)) = polT m d F (c :: cs) := by
  rw [pc_tab (Nat.zero_le _)]
  refine tab_put (Nat.zero_le _) ?_ (fun p q _ hne => ?_)
  · rw [if_pos ⟨rfl, rfl⟩, Int.emod_add_emod]
  · rw [if_neg hne, Int.add_zero]
/-- the same as a function of tables without remainders -/
def polF (F : Nat → Nat → Int) : List Int → Nat → Nat → Int
  | [] => fun _ _ => 0
  | c :: cs => pl (mul2 (polF F cs) F) (one2 c)
theorem polT_eq (m : Int) (d : Nat) (F : Nat → Nat → Int) : ∀ cs, Eq m d (pc (polT m d F cs)) (polF F cs) := by
  intro cs
  induction cs with
  | nil => exact pc_tab_eq m d _
  | cons c cs ih => exact (pc_tab_eq m d _).trans ((Eq.pl (mul2_congr ih (Eq.refl _ _ _)) (Eq.refl m d (one2 c))))
theorem polF_congr {m : Int} {d : Nat} {F G : Nat → Nat → Int} (h : Eq m d F G) : ∀ cs, Eq m d (polF F cs) (polF G cs) := by
  intro cs
  induction cs with
  | nil => exact Eq.refl _ _ _
  | cons c cs ih => exact (mul2_congr ih h).pl (Eq.refl _ _ _)
theorem polF_tab {m : Int} {d : Nat} {G : Nat → Nat → Int} (F : Nat → Nat → Int) (h : Eq m d F G) (cs : List Int) : Eq m d (pc (polT m d F cs)) (polF G cs) := (polT_eq m d F cs).trans (polF_congr h cs)
theorem zero_mul2 (F : Nat → Nat → Int) : mul2 (fun _ _ => 0) F = fun _ _ => 0 := by
  have : (fun _ _ => (0 : Int)) = sm 0 F := by funext i j; exact (Int.zero_mul _).symm
  rw [this, sm_mul2]
  funext i j
  exact (Int.zero_mul _).trans (Int.zero_mul _).symm
theorem zero_pl (a : Nat → Nat → Int) : pl (fun _ _ => 0) a = a := by funext i j; exact Int.zero_add _
theorem pl_zero (a : Nat → Nat → Int) : pl a (fun _ _ => 0) = a := by funext i j; exact Int.add_zero _
theorem polF_one (F : Nat → Nat → Int) (c : Int) : polF F [c] = one2 c := by show pl (mul2 (fun _ _ => 0) F) (one2 c) = _; rw [zero_mul2, zero_pl]
theorem polF_two (F : Nat → Nat → Int) (a b : Int) : polF F [a, b] = pl (sm b F) (one2 a) := by show pl (mul2 (polF F [b]) F) (one2 a) = _; rw [polF_one, one2_mul2]
theorem polF_three (F : Nat → Nat → Int) (a b c : Int) : polF F [a, b, c] = pl (pl (sm c (mul2 F F)) (sm b F)) (one2 a) := by
  show pl (mul2 (polF F [b, c]) F) (one2 a) = _
  rw [polF_two, pl_mul2, sm_mul2, one2_mul2]
theorem polF_four (F : Nat → Nat → Int) (a b c e : Int) : polF F [a, b, c, e] = pl (pl (pl (sm e (mul2 (mul2 F F) F)) (sm c (mul2 F F))) (sm b F)) (one2 a) := by
  show pl (mul2 (polF F [b, c, e]) F) (one2 a) = _
  rw [polF_three, pl_mul2, pl_mul2, sm_mul2, sm_mul2, one2_mul2]

/-! quotients -/
/-- the quotient's rounds: F the numerator's table, R 1 less the denominator -/
def ovT (m : Int) (d : Nat) (t : List (List Int)) (R : Nat → Nat → Int) : Nat → List (List Int)
  | 0 => t
  | k + 1 => tab m d fun i j => pc t i j + pc (tab m d (mul2 (pc (ovT m d t R k)) R)) i j
theorem ovT_ok {m : Int} {d : Nat} {t : List (List Int)} (h : Ok m d t) (R : Nat → Nat → Int) (k : Nat) : Ok m d (ovT m d t R k) := by
  cases k
  · exact h
  · exact h.tab _
theorem ovT_eq {m : Int} {d : Nat} (t : List (List Int)) (R : Nat → Nat → Int) (k : Nat) : Eq m d (pc (ovT m d t R (k + 1))) (pl (pc t) (mul2 (pc (ovT m d t R k)) R)) :=
  (pc_tab_eq m d _).trans (Eq.pl (Eq.refl _ _ _) (pc_tab_eq m d _))
/-- a product with a table without a constant asks one degree less of the other -/
theorem mul2_low {m : Int} {k : Nat} {a a' R : Nat → Nat → Int} (hR : R 0 0 % m = 0) (h : ∀ i j, i + j ≤ k → a i j % m = a' i j % m) (p q : Nat) (hpq : p + q ≤ k + 1) : mul2 a R p q % m = mul2 a' R p q % m := by
  refine Ser.psum_congr _ (fun i hi => Ser.psum_congr _ (fun j hj => ?_))
  by_cases h0 : i + j ≤ k
  · exact Ser.mul_cong (h i j h0) rfl
  · obtain rfl : i = p := by omega
    obtain rfl : j = q := by omega
    rw [Nat.sub_self, Nat.sub_self, Int.mul_emod, hR, Int.mul_emod (a' i j), hR]
    simp
theorem over_fix {m : Int} {d : Nat} {t T : List (List Int)} {R : Nat → Nat → Int} (ht : Ok m d t) (hT : Ok m d T) (hR : R 0 0 % m = 0) (h : Eq m d (pc T) (pl (pc t) (mul2 (pc T) R))) : ovT m d t R d = T := by
  have key : ∀ k, k ≤ d → ∀ i j, i + j ≤ k → pc (ovT m d t R k) i j % m = pc T i j % m := by
    intro k
    induction k with
    | zero =>
      intro _ i j hij
      obtain rfl : i = 0 := by omega
      obtain rfl : j = 0 := by omega
      rw [h 0 0 (by omega)]
      have e : mul2 (pc T) R 0 0 = pc T 0 0 * R 0 0 := by unfold mul2; simp [Ser.psum]
      show pc t 0 0 % m = (pc t 0 0 + mul2 (pc T) R 0 0) % m
      rw [e, Int.add_emod, Int.mul_emod, hR]
      simp
    | succ k ih =>
      intro hk i j hij
      rw [ovT_eq t R k i j (by omega), h i j (by omega)]
      exact Ser.add_cong rfl (mul2_low hR (fun i j h => ih (by omega) i j h) i j (by omega))
  exact Ok.ext (ovT_ok ht R d) hT (fun i j hij => key d (Nat.le_refl _) i j hij)
end Pl
end Go.Proofs.Ytakdmnecllcmnaa

/- Contracts of the model's typical laws: most, copies and powers of tables. -/
namespace Go.Proofs.Ytakdmnecllcmnaa
open Go.RowKit Go.WideShapes Go.ChangeShapes Go.ChangeAt

set_option maxHeartbeats 1000000 in
theorem l09Most_any (p d : Nat) (w : World) (hp : p = 2 ∨ p = 3 ∨ p = 5 ∨ p = 7) (hd1 : 1 ≤ d) (hd : d ≤ 10) :
    Calls Try.prog 49 #[.int .i64 p, .int .i64 d] w fun e w' => e = .returned (.tuple #[.int .i64 (needN p d), .int .i64 (p ^ needN p d : Nat)]) ∧ w = w' := by
  have HL := Lib.hid (fun k (h : p ^ k ≤ d) => pow_lt11 hp hd h)
  have HE := Lib.hid (fun k (hk : k ≤ 3) (h1 : k = 0 ∨ p ^ k ≤ d) (h2 : d < p ^ (k + 1)) => needN_is p (in4 hp) d (List.mem_range.2 (by omega)) k (List.mem_range.2 (by omega)) h1 h2)
  have hp7 : p ≤ 7 := by omega
  clear hp
  go_enter Try.func49, Try.ntmps49
  go_wp2
  go_loop [6, 7] (fun s6 s7 => ∃ k : Nat, k ≤ 3 ∧ p ^ k ≤ d ∧ s6 = .int .i64 k ∧ s7 = .int .i64 (p ^ k : Nat)) (fun s6 _ => 4 - (intOf s6).toNat)
  case atStart => exact ⟨0, by omega, by rw [Nat.pow_zero]; exact hd1, rfl, rfl⟩
  case round =>
    obtain ⟨k, hk, hk2, rfl, rfl⟩ := hrel
    have HK := Lib.hid hk2
    have HQ2 := Lib.hid (Nat.pow_succ p k)
    obtain ⟨q, hq⟩ : ∃ q, p ^ k = q := ⟨_, rfl⟩
    have HQ := Lib.hid hq
    rw [hq] at hk2 ⊢
    clear hq
    have hm : 0 ≤ (q : Int) * (p : Int) ∧ (q : Int) * (p : Int) ≤ 70 := by
      refine ⟨Int.mul_nonneg (by omega) (by omega), ?_⟩
      have := Int.mul_le_mul (show (q : Int) ≤ 10 by omega) (show (p : Int) ≤ 7 by omega) (by omega) (by omega)
      omega
    have HM := Lib.hid (show (q : Int) * (p : Int) = ((p ^ (k + 1) : Nat) : Int) by rw [HQ2.out, HQ.out, Int.natCast_mul])
    by_cases hlt : (q : Int) * (p : Int) ≤ (d : Int)
    · have hle : p ^ (k + 1) ≤ d := by have := HM.out; omega
      have h3 := HL.out (k + 1) hle
      have HLE := Lib.hid hle
      clear hle
      go_wp2
      go_round
      case rel => exact ⟨k + 1, by omega, HLE.out, by go_num, by rw [HM.out]⟩
      case measure => simp only [intOf]; omega
    · have HN := Lib.hid (HE.out k hk (.inr HK.out) (by have := HM.out; omega))
      go_wp2
      go_ret2
      exact ⟨ret_ii (by rw [HN.out]) (by rw [HN.out, ← HQ.out]; first | rfl | simp), rfl⟩
theorem row_self {m : Int} {d : Nat} {t : List (List Int)} (hs : Pl.OkG m d t) (q : Nat) (hq : q ≤ d) : Ser.cut m (d - q) (Pl.pc t q) = Pl.rw' t q := Ser.cut_self (hs.row q hq) (hs.red q)
set_option maxHeartbeats 2000000 in
set_option maxRecDepth 100000 in
theorem l01Own2_any (m : Int) (d : Nat) (A : Option Addr) (c : Nat) (t : List (List Int)) (w : World) (hs : Pl.OkG m d t) (hr : RP w A t) :
    Calls Try.prog 119 #[.slice A t.length c] w fun e' w' => ∃ v, e' = .returned v ∧ OwnR w' w.heap.size w'.heap.size v (Pl.tab m d (Pl.pc t)) ∧ Below w.heap.size w w' := by
  have HR := Lib.hid hr
  have HS := Lib.hid hs
  have hl := hs.len
  have hd2 := hs.d2
  obtain ⟨L, hL⟩ : ∃ L, t.length = L := ⟨_, rfl⟩
  have HL := Lib.hid (hL.symm.trans hl)
  have hLb : L ≤ 11 := by omega
  rw [hL]
  clear hr hs hL hl
  go_enter Try.func119, Try.ntmps119
  go_wp2
  go_loopw [3, 4] (fun r i wr => ∃ q : Nat, q ≤ L ∧ i = .int .i64 q ∧ OwnR wr w.heap.size wr.heap.size r ((Pl.tab m d (Pl.pc t)).take q) ∧ Below w.heap.size w wr) (fun _ i _ => L - (intOf i).toNat)
  case atStart => exact ⟨0, Nat.zero_le _, rfl, by simpa using OwnR.none0 w, below_one _ _⟩
  case round =>
    obtain ⟨q, hq, rfl, hown, hbel⟩ := hrel
    have HB := Lib.hid hbel
    have HO := Lib.hid hown
    have hsz := hbel.size
    clear hown
    by_cases hlt : q < L
    · have hLd := HL.out
      obtain ⟨b, off, A1, c1, rfl, hb, hc, hcap, hri⟩ := HR.out.at q (by rw [HS.out.len]; omega)
      have e1 := (hbel.cell (p := ⟨b, off + q, none⟩) hb).trans hc
      have hrl := HS.out.row q (by omega)
      obtain ⟨row, hrow⟩ : ∃ row, Pl.rw' t q = row := ⟨_, rfl⟩
      have hst : (Pl.tab m d (Pl.pc t)).take (q + 1) = (Pl.tab m d (Pl.pc t)).take q ++ [row] := by rw [Pl.tab_take_succ m d _ q (by omega), row_self HS.out q (by omega), hrow]
      rw [hrow] at hrl hri e1
      have HA := Lib.hid (l01Own_any A1 c1 row wr (by intro h; rw [h] at hrl; simp at hrl) (by omega) (hri.below hbel))
      have HLEN := Lib.hid (show ((Pl.tab m d (Pl.pc t)).take q).length ≤ 1000000000000 by rw [List.length_take, Pl.tab_length]; omega)
      obtain ⟨M, hM⟩ : ∃ M, row.length = M := ⟨_, rfl⟩
      rw [hM] at HA e1
      have HST := Lib.hid hst
      have j0 : (0 : Int) ≤ (q : Int) := by omega
      have j1 : (q : Int) < (L : Int) := by omega
      clear hst hri hc hLd hbel hM hrl hcap hrow
      go_wp2_with fail
      refine HA.out.mono ?_
      rintro e' w5 ⟨u, rfl, hou, hb5⟩
      obtain ⟨Au, cu, rfl, -⟩ := hou.form
      go_wp2_with (at_builtin; refine wp_pushU _ _ _ (by rfl) (by rfl) Try.underlying36 w.heap.size wr.heap.size _ _ (by rfl) (HO.out.keep hb5) hb5.size (.slice Au row.length cu) row (hou.more hsz) (fun g hg => (hou.lt g hg).1) w5.heap.size rfl (by rfl) HLEN.out (Nat.le_trans hsz hb5.size) ?_; intro v' w1 ho1 hpb)
      have HB1 := Lib.hid ((HB.out.trans (hb5.mono hsz)).trans hpb)
      have HO1 := Lib.hid ho1
      clear ho1 hpb hou hb5
      go_wp2
      go_roundw
      case rel => exact ⟨q + 1, by omega, by go_num, by rw [HST.out]; exact HO1.out, HB1.out⟩
      case measure => simp only [intOf]; omega
    · obtain rfl : q = L := by omega
      have ho := HO.out
      rw [HL.out, Pl.tab_take_all] at ho
      have HF := Lib.hid ho
      clear ho
      go_wp2
      go_ret
      exact ⟨_, rfl, HF.out, HB.out⟩
/-- powers of a table -/
def Pl.pwF (F : Nat → Nat → Int) : Nat → Nat → Nat → Int
  | 0 => Pl.one2 1
  | k + 1 => Pl.mul2 (Pl.pwF F k) F
theorem Pl.pwF_one (F : Nat → Nat → Int) : Pl.pwF F 1 = F := by
  show Pl.mul2 (Pl.one2 1) F = F
  rw [Pl.one2_mul2, Pl.one_sm]
theorem Pl.pwF_congr {m : Int} {d : Nat} {F G : Nat → Nat → Int} (h : Pl.Eq m d F G) : ∀ k, Pl.Eq m d (Pl.pwF F k) (Pl.pwF G k)
  | 0 => Pl.Eq.refl _ _ _
  | k + 1 => Pl.Eq.mul2 (Pl.pwF_congr h k) h
set_option maxHeartbeats 2000000 in
set_option maxRecDepth 100000 in
theorem l09Power_any (m : Int) (d : Nat) (A : Option Addr) (c : Nat) (t : List (List Int)) (K : Nat) (w : World) (hs : Pl.OkG m d t) (hK : 1 ≤ K) (hK2 : K ≤ 1000000) (hr : RP w A t) :
    Calls Try.prog 120 #[.int .i64 m, .slice A t.length c, .int .i64 K] w fun e w' => ∃ A1 c1, e = .returned (.slice A1 (d + 1) c1) ∧ RP w' A1 (Pl.tab m d (Pl.pwF (Pl.pc t) K)) ∧ Below w.heap.size w w' := by
  have HT := Lib.hid (fun (j : Nat) A1 c1 W0 (h1 : RP W0 A1 (Pl.tab m d (Pl.pwF (Pl.pc t) j))) (h2 : RP W0 A t) => by
    have := l03Times_anyG m d A1 c1 (Pl.tab m d (Pl.pwF (Pl.pc t) j)) A c t W0 (hs.tab _) hs h1 h2
    rw [Pl.tab_length, hs.len, Pl.tab_congr (Pl.Eq.mul2 (Pl.pc_tab_eq m d (Pl.pwF (Pl.pc t) j)) (Pl.Eq.refl m d (Pl.pc t)))] at this
    exact this)
  have H1 : RP w A (Pl.tab m d (Pl.pwF (Pl.pc t) 1)) := by rw [Pl.pwF_one, ← hs.self]; exact hr
  have HR1 := Lib.hid H1
  have HR := Lib.hid hr
  have hl := hs.len
  rw [hl]
  clear hs hr H1 hl
  go_enter Try.func120, Try.ntmps120
  go_wp2
  go_loopw [2, 7] (fun s2 s7 wr => ∃ (j : Nat) (A1 : Option Addr) (c1 : Nat), 1 ≤ j ∧ j ≤ K ∧ s2 = .int .i64 ((K : Int) - (j : Int) + 1) ∧ s7 = .slice A1 (d + 1) c1 ∧ RP wr A1 (Pl.tab m d (Pl.pwF (Pl.pc t) j)) ∧ Below w.heap.size w wr) (fun s2 _ _ => (intOf s2).toNat)
  case atStart => exact ⟨1, A, c, Nat.le_refl _, hK, by go_num, rfl, HR1.out, Below.refl _ _⟩
  case round =>
    obtain ⟨j, A1, c1, hj1, hj2, rfl, rfl, hrp, hb⟩ := hrel
    have HRP := Lib.hid hrp
    have HB := Lib.hid hb
    clear hrp hb
    by_cases hlt : j < K
    · have i1 : (K : Int) - (j : Int) + 1 > 1 := by omega
      go_wp2_with fail
      refine (HT.out j A1 c1 wr HRP.out (HR.out.below HB.out)).mono ?_
      rintro e w1 ⟨v, rfl, ho, hb1⟩
      obtain ⟨A2, c2, hv2, -⟩ := ho.len
      subst hv2
      rw [Pl.tab_length] at ho ⊢
      have hrp := ho.rp
      have hb2 := below_step HB.out hb1
      clear ho hb1
      go_wp2
      go_roundw
      case rel => exact ⟨j + 1, A2, c2, by omega, by omega, by go_num, rfl, hrp, hb2⟩
      case measure => simp only [intOf]; omega
    · obtain rfl : j = K := by omega
      have i1 : ¬ ((j : Int) - (j : Int) + 1 > 1) := by omega
      go_wp2
      go_ret
      exact ⟨A1, ⟨c1, rfl⟩, HRP.out, HB.out⟩

end Go.Proofs.Ytakdmnecllcmnaa

