/- Contracts of the model's AddSeries. -/
import Derived.Test.YtcnkpfikafaocaaSpc
namespace Go.Proofs.Ytcnkpfikafaocaa
open Go.RowKit Go.WideShapes Go.ChangeShapes Go.ChangeAt

theorem wrap_rem {x m : Int} (h1 : 0 ≤ x) (h2 : x ≤ 1000000000000000) : (IntKind.i64.wrap x).tmod m = x % m := by
  have : IntKind.i64.wrap x = x := by rw [IntKind.wrap_i64]; omega
  rw [this, Int.tmod_eq_emod_of_nonneg h1]

set_option maxHeartbeats 2000000 in
set_option maxRecDepth 100000 in
theorem l02Add_any (m : Int) (d : Nat) (A : Option Addr) (c : Nat) (l : List Int) (A' : Option Addr) (c' : Nat) (l' : List Int) (w : World) (hs : SerOk m d l) (hs' : SerOk m d l') (hr : RI w A l) (hr' : RI w A' l') :
    Calls Try.prog 66 #[.int .i64 m, .slice A l.length c, .slice A' l'.length c'] w fun e w' => ∃ v, e = .returned v ∧ OwnI w' w.heap.size v (addL m d l l') ∧ Below w.heap.size w w' := by
  have HS := Lib.hid hs
  have HS' := Lib.hid hs'
  have HR := Lib.hid hr
  have HR' := Lib.hid hr'
  have hm1 := hs.m1
  have hm2 := hs.m2
  have hd := hs.d2
  have hm0 : ¬ m = 0 := by omega
  have hll : l.length ≤ 11 := by have := hs.len; omega
  have hll' : l'.length ≤ 11 := by have := hs'.len; omega
  have E1 := Lib.hid hs.len
  have E2 := Lib.hid hs'.len
  clear hs hs' hr hr'
  go_enter Try.func66, Try.ntmps66
  go_wp2
  go_loopw [7, 8] (fun r i wr => ∃ k : Nat, k ≤ l.length ∧ i = .int .i64 k ∧ OwnI wr w.heap.size r ((addL m d l l').take k) ∧ Below w.heap.size w wr) (fun _ i _ => l.length - (intOf i).toNat)
  case atStart => exact ⟨0, Nat.zero_le _, rfl, OwnI.empty _, below_one _ _⟩
  case round =>
    obtain ⟨k, hk, rfl, hown, hbel⟩ := hrel
    have HB := Lib.hid hbel
    have HO := Lib.hid hown
    have hsz := hbel.size
    clear hown hbel
    by_cases hlt : k < l.length
    · obtain ⟨b, off, rfl, hb, hc⟩ := HR.out.at k hlt
      obtain ⟨b', off', rfl, hb', hc'⟩ := HR'.out.at k (by rw [E2.out, ← E1.out]; exact hlt)
      have c1 := (HB.out.cell (p := ⟨b, off + k, none⟩) hb).trans hc
      have c2 := (HB.out.cell (p := ⟨b', off' + k, none⟩) hb').trans hc'
      have r1 := HS.out.red k
      have r2 := HS'.out.red k
      have hst : (addL m d l l').take (k + 1) = (addL m d l l').take k ++ [(Ser.co l k + Ser.co l' k) % m] := Ser.cut_take_succ _ _ _ _ (by have := E1.out; omega)
      obtain ⟨X, hX⟩ : ∃ X, Ser.co l k = X := ⟨_, rfl⟩
      obtain ⟨Y, hY⟩ : ∃ Y, Ser.co l' k = Y := ⟨_, rfl⟩
      rw [hX] at hc c1 r1
      rw [hY] at hc' c2 r2
      rw [hX, hY] at hst
      have HST := Lib.hid hst
      have C1 := Lib.hid hc
      have C2 := Lib.hid hc'
      have j0 : (0 : Int) ≤ (k : Int) := by omega
      have j1 : (k : Int) < (l.length : Int) := by omega
      have j2 : (k : Int) < (l'.length : Int) := by have := E1.out; have := E2.out; omega
      obtain ⟨r1, r3⟩ := r1
      obtain ⟨r2, r4⟩ := r2
      have HQ := Lib.hid (wrap_rem (x := X + Y) (m := m) (by omega) (by omega))
      clear hX hY hst hc hc'
      go_wp2
      go_region_held3 (fun w' => w'.cell? ⟨b, off + k, none⟩ = some (.int .i64 X) ∧ w'.cell? ⟨b', off' + k, none⟩ = some (.int .i64 Y) ∧ ¬ m = 0) (first | exact ⟨((((HB.out.alloc hsz _).drew).trans hpb).cell hb).trans C1.out, ((((HB.out.alloc hsz _).drew).trans hpb).cell hb').trans C2.out, hm0⟩ | exact ⟨c1, c2, hm0⟩ | go_keep) ((refine step_push _ _ _ (by rfl) (by rfl) Try.underlying24 w.heap.size _ _ (by rfl) ((HO.out.alloc _).drew) wr.heap.size ((X + Y) % m) (by rfl) (by simp; exact HQ.out) (by have := take_cut_len m d (fun n => Ser.co l n + Ser.co l' n) k; unfold addL; omega) (by simp; omega) ?_; intro v' w1 ho1 hpb))
      all_goals
        have hb1 := (((HB.out.alloc hsz _).drew).trans hpb)
        have HB1 := Lib.hid hb1
        have HO1 := Lib.hid ho1
        clear hb1 ho1 hpb
        go_wp2
        go_roundw
        case rel => exact ⟨k + 1, by omega, by go_num, by rw [HST.out]; exact HO1.out, HB1.out⟩
        case measure => simp only [intOf]; omega
    · obtain rfl : k = l.length := by omega
      have ho := HO.out
      rw [List.take_of_length_le (by unfold addL; rw [Ser.cut_length, E1.out]; exact Nat.le_refl _)] at ho
      have HF := Lib.hid ho
      clear ho
      go_wp2
      go_ret
      exact ⟨_, rfl, HF.out, HB.out⟩

set_option maxHeartbeats 4000000 in
set_option maxRecDepth 100000 in
theorem sAddSeries_any (m : Int) (A : Option Addr) (c : Nat) (l : List Int) (m' : Int) (A' : Option Addr) (c' : Nat) (l' : List Int) (w : World) (hl : l.length ≤ 1048576) (hl' : l'.length ≤ 1048576) (hr : RI w A l) (hr' : RI w A' l') :
    Calls Try.prog 20 #[.agg #[.int .i64 m, .slice A l.length c], .agg #[.int .i64 m', .slice A' l'.length c']] w fun e w' => ∃ s, e = .returned (.tuple #[.agg #[.int .i64 (addM m l m' l').1, s], .int .i64 (addM m l m' l').2.2]) ∧ OwnI w' w.heap.size s (addM m l m' l').2.1 ∧ Below w.heap.size w w' := by
  obtain ⟨W, hW⟩ : ∃ W, (((w.alloc (.cells #[.int .i64 m, .slice A l.length c] 26)).alloc (.cells #[.int .i64 m', .slice A' l'.length c'] 26)).alloc (.cells #[.int .i64 0, .slice none 0 0] 26)) = W := ⟨_, rfl⟩
  obtain ⟨b1, b2, v3, hwb⟩ := box3_new w m m' A A' l.length c l'.length c' W hW
  have B1 := Lib.hid b1
  have B2 := Lib.hid b2
  have V3 := Lib.hid v3
  have HB := Lib.hid hwb
  have HW := Lib.hid hW
  have R1 := Lib.hid (hr.below hwb)
  have R2 := Lib.hid (hr'.below hwb)
  have HC := Lib.hid (l02Alike_any m A c l m' A' c' l' W (by omega) (by omega) R1.out R2.out)
  clear b1 b2 v3 hwb hW hr hr'
  by_cases h0 : code2 m l m' l' = 0
  · obtain ⟨rfl, d, e1, e2, s1, s2⟩ := code2_ok h0
    have HA : Hid (addM m l m l' = (m, addL m d l l', 0)) := Lib.hid (by unfold addM twoM; rw [if_pos h0, e1]; rfl)
    rw [HA.out]
    have HP := Lib.hid (fun W0 (h : Below W.heap.size W W0) => l02Add_any m d A c l A' c' l' W0 s1 s2 (R1.out.below h) (R2.out.below h))
    have hc := HC.out
    rw [h0] at hc
    have HC0 := Lib.hid hc
    obtain ⟨L, hL⟩ : ∃ L, addL m d l l' = L := ⟨_, rfl⟩
    rw [hL] at HP ⊢
    clear hc HC h0 s1 s2 e1 e2 hL
    go_enter Try.func20, Try.ntmps20
    go_wp2_with fail
    rw [HW.out]
    refine HC0.out.mono ?_
    rintro e w1 ⟨rfl, hb1⟩
    obtain ⟨x1, x2, x3⟩ := B1.out.keep hb1
    obtain ⟨y1, y2, y3⟩ := B2.out.keep hb1
    go_wp2
    go_region_held3 (fun w' => (w'.cell? ⟨w.heap.size, 0, none⟩ = some (.int .i64 m) ∧ w'.cell? ⟨w.heap.size, 1, none⟩ = some (.slice A l.length c) ∧ w.heap.size < w'.heap.size) ∧ (w'.cell? ⟨w.heap.size + 1, 0, none⟩ = some (.int .i64 m) ∧ w'.cell? ⟨w.heap.size + 1, 1, none⟩ = some (.slice A' l'.length c') ∧ w.heap.size + 1 < w'.heap.size)) (first | exact ⟨⟨x1, x2, x3⟩, ⟨y1, y2, y3⟩⟩ | exact box22_store (by omega) (by omega) (by assumption) | exact box22_call (by assumption) (by assumption)) (first
      | (go_at_call 66; refine (HP.out _ (below_step hb1 (below_drew0 _))).mono ?_; rintro e2 w2 ⟨s, rfl, ho, hb2⟩; obtain ⟨A2, c2, rfl, _⟩ := ho.form)
      | (go_at_call 62; refine (l02Make_any _ _ _ _ _).mono ?_; rintro e3 w3 ⟨rfl, hb3⟩; have hv := V3.out.keep (below_step (below_step (below_step hb1 (below_drew0 _)) hb2) hb3); have q0 := hv.c0; have q1 := hv.c1; have q2 := hv.fz 0; have q3 := hv.fz 1))
    all_goals
      have hw3 := below_step (below_step (below_step hb1 (below_drew0 _)) hb2) hb3
      have hz1 := hb1.size
      have hz2 := V3.out.lt
      obtain ⟨f0, f1, f2, f3⟩ := fin_var (w := w) hv (ho.keep hb3) (by show w.heap.size + 1 + 1 < w1.heap.size; omega) (by omega) (below_step HB.out hw3) (.int .i64 m) (.slice A2 L.length c2)
      have F2 := Lib.hid f2
      have F3 := Lib.hid f3
      clear f2 f3 ho hb1 hb2 hb3 hv hw3
      go_wp2
      exact bodyPost_ret (v := .tuple #[.agg #[.int .i64 m, .slice A2 L.length c2], .int .i64 0]) (by simp [results, Try.results20, go_sem, f0, f1]) rfl ⟨_, rfl, F2.out, F3.out⟩
  · have HA : Hid (addM m l m' l' = (0, [], code2 m l m' l')) := Lib.hid (by unfold addM twoM; rw [if_neg h0])
    rw [HA.out]
    obtain ⟨n1, n2⟩ := ne_facts h0
    obtain ⟨C, hC⟩ : ∃ C, code2 m l m' l' = C := ⟨_, rfl⟩
    have hc := HC.out
    rw [hC] at n1 n2 h0 hc ⊢
    have HC0 := Lib.hid hc
    clear hc HC hC
    go_enter Try.func20, Try.ntmps20
    go_wp2_with fail
    rw [HW.out]
    refine HC0.out.mono ?_
    rintro e w1 ⟨rfl, hb1⟩
    have hv := V3.out.keep hb1
    have q0 := hv.c0
    have q1 := hv.c1
    have q2 := hv.fz 0
    have q3 := hv.fz 1
    obtain ⟨f0, f1, f2, f3⟩ := fin_var (w := w) hv (OwnI.nil w1 (w.heap.size + 1 + 1 + 1)) (by omega) (by omega) (below_step HB.out hb1) (.int .i64 0) (.slice none 0 0)
    have F2 := Lib.hid f2
    have F3 := Lib.hid f3
    clear f2 f3 hb1 hv
    go_wp2
    exact bodyPost_ret (v := .tuple #[.agg #[.int .i64 0, .slice none 0 0], .int .i64 C]) (by simp [results, Try.results20, go_sem, f0, f1]) rfl ⟨_, rfl, F2.out, F3.out⟩
end Go.Proofs.Ytcnkpfikafaocaa
