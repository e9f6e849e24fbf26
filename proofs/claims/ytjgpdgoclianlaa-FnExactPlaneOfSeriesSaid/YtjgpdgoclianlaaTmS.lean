/- Contract of the model's product of lists. -/
import Derived.Test.YtjgpdgoclianlaaMon
import Derived.StillTailTactics
namespace Go.Proofs.Ytjgpdgoclianlaa
open Go.RowKit Go.WideShapes Go.ChangeShapes Go.ChangeAt

theorem l02Degree_any (m : Int) (A : Option Addr) (n c d : Nat) (w : World) (hn : n = d + 1) (hd : d ≤ 1000000) :
    Calls Try.prog 100 #[.agg #[.int .i64 m, .slice A n c]] w fun e w' => e = .returned (.int .i64 (d : Int)) ∧ Below w.heap.size w w' := by
  obtain ⟨h1, h2⟩ : (n : Int) - 1 = (d : Int) ∧ (n : Int) ≤ 9223372036854775807 := ⟨by omega, by omega⟩
  go_enter Try.func100, Try.ntmps100
  go_wp2
  go_ret
  exact ⟨rfl, below_one _ _⟩

theorem timS_red {m : Int} (hm : 0 < m) (d : Nat) (a b : Nat → Int) (i : Nat) : Ser.Red m (Ser.timS m d a b i) := Ser.cut_red hm _ _
theorem timP_red {m : Int} (hm : 0 < m) (d : Nat) (a b : Nat → Int) (i k : Nat) : Ser.Red m (Ser.timP m d a b i k) := Ser.cut_red hm _ _

theorem timP_null (m : Int) (d : Nat) (a b : Nat → Int) (i k : Nat) (h : a i = 0) : Ser.timP m d a b i k = Ser.timS m d a b (i + 1) := by
  unfold Ser.timP Ser.timS
  refine Ser.cut_congr (Ser.Eq.of m d (fun n hn => ?_))
  rw [Ser.psum]
  unfold Ser.tr
  rw [h]
  simp
set_option maxHeartbeats 8000000 in
set_option maxRecDepth 100000 in
theorem l02Times_any (m : Int) (D : Nat) (A : Option Addr) (c : Nat) (l : List Int) (A' : Option Addr) (c' : Nat) (l' : List Int) (w : World) (m1 : 2 ≤ m) (m2 : m ≤ 10000) (hD : D ≤ 1000) (hl : l.length ≤ 1000) (hl' : l'.length ≤ 1000) (hs : Ser.Red m l) (hs' : Ser.Red m l') (hr : RI w A l) (hr' : RI w A' l') :
    Calls Try.prog 119 #[.int .i64 m, .slice A l.length c, .slice A' l'.length c', .int .i64 D] w fun e w' => ∃ v, e = .returned v ∧ OwnI w' w.heap.size v (Ser.mulL m D l l') ∧ Below w.heap.size w w' := by
  have HS := Lib.hid hs
  have HS' := Lib.hid hs'
  have HR := Lib.hid hr
  have HR' := Lib.hid hr'
  have hm0 : ¬ m = 0 := by omega
  clear hs hs' hr hr'
  have hmk : ∀ W : World, (Instr.makeSlice 45 (.int .i64 ((D : Int) + 1)) (.int .i64 ((D : Int) + 1))).run Try.prog W = .ok (.slice (some ⟨W.heap.size, 0, none⟩) (D + 1) (D + 1)) (W.alloc (.cells (madeCells #[.int .i64 0] (D + 1)) 2)) := by
    intro W
    have := run_make_row' (P := Try.prog) 45 2 (.int .i64 0) 8 Try.underlying45 info64 rfl .i64 .i64 (D + 1) (by omega) (by omega) W
    rwa [show ((D + 1 : Nat) : Int) = (D : Int) + 1 by omega] at this
  obtain ⟨a, ha⟩ : ∃ a, Ser.co l = a := ⟨_, rfl⟩
  obtain ⟨b, hb⟩ : ∃ b, Ser.co l' = b := ⟨_, rfl⟩
  have HA := Lib.hid ha
  have HB0 := Lib.hid hb
  have HE := Lib.hid (show Ser.mulL m D l l' = Ser.cut m D (Ser.mul a b) by unfold Ser.mulL; rw [ha, hb])
  rw [HE.out]
  clear ha hb
  go_enter Try.func119, Try.ntmps119
  go_wp2
  go_loopw [10, 11] (fun i _ wr => ∃ j : Nat, j ≤ 2000 ∧ i = .int .i64 j ∧ OwnI wr w.heap.size (.slice (some ⟨w.heap.size, 0, none⟩) (D + 1) (D + 1)) (Ser.timS m D a b j) ∧ Below w.heap.size w wr) (fun i _ _ => l.length - (intOf i).toNat)
  case atStart =>
    refine ⟨0, by omega, rfl, ?_, (Below.refl _ _).alloc (Nat.le_refl _) _⟩
    have h := OwnI.made w (D + 1) (by unfold maxLen; omega)
    rw [Ser.timS_zero]
    simpa using h
  case round =>
    clear hmk
    obtain ⟨j, hj, rfl, hown, hbel⟩ := hrel
    have HB := Lib.hid hbel
    have HO := Lib.hid hown
    clear hown hbel
    by_cases h1 : j < l.length
    · by_cases h2 : j ≤ D
      · go_wp2
        go_loopw [11] (fun i wr => ∃ k : Nat, k ≤ 1000 ∧ i = .int .i64 k ∧ OwnI wr w.heap.size (.slice (some ⟨w.heap.size, 0, none⟩) (D + 1) (D + 1)) (Ser.timP m D a b j k) ∧ Below w.heap.size w wr) (fun i _ => l'.length - (intOf i).toNat)
        case atStart => exact ⟨0, by omega, rfl, by rw [Ser.timP_zero]; exact HO.out, HB.out⟩
        case round =>
          clear HO HB
          obtain ⟨k, hk, rfl, hown, hbel⟩ := hrel
          have HB := Lib.hid hbel
          have HO := Lib.hid hown
          clear hown hbel
          obtain ⟨bb, off, rfl, hbb, hc⟩ := HR.out.at j h1
          have hc1 := (HB.out.cell (p := ⟨bb, off + j, none⟩) hbb).trans hc
          have r1 := HS.out j
          rw [HA.out] at hc1 r1
          obtain ⟨X, hX⟩ : ∃ X, a j = X := ⟨_, rfl⟩
          rw [hX] at hc1 r1
          obtain ⟨r1, r2⟩ := r1
          have j0 : (0 : Int) ≤ (j : Int) := by omega
          have j1 : (j : Int) < (l.length : Int) := by omega
          clear hc
          by_cases h3 : k < l'.length
          · by_cases h4 : j + k ≤ D
            · by_cases h5 : X = 0
              · have HN := Lib.hid (timP_null m D a b j k (hX.trans h5))
                subst h5
                clear hX
                go_wp2
                go_roundw
                case rel => exact ⟨j + 1, by omega, by go_num, by rw [← HN.out]; exact HO.out, HB.out⟩
                case measure => simp only [intOf]; omega
              · obtain ⟨n1, n2⟩ := ne_facts h5
                obtain ⟨bb', off', rfl, hbb', hc'⟩ := HR'.out.at k h3
                have hc2 := (HB.out.cell (p := ⟨bb', off' + k, none⟩) hbb').trans hc'
                have q1 := HS'.out k
                rw [HB0.out] at hc2 q1
                obtain ⟨Y, hY⟩ : ∃ Y, b k = Y := ⟨_, rfl⟩
                rw [hY] at hc2 q1
                obtain ⟨q1, q2⟩ := q1
                obtain ⟨_, _, o3, o4⟩ := HO.out.cells
                have hd1 := o3 (j + k) (by unfold Ser.timP; rw [Ser.cut_length]; omega)
                have hf1 := o4 (j + k)
                have z1 := timP_red (m := m) (by omega) D a b j k (j + k)
                have hst := Ser.timP_step m D a b j k h4
                change wr.cell? _ = some (.int .i64 (Ser.co (Ser.timP m D a b j k) (j + k))) at hd1
                obtain ⟨Z, hZ⟩ : ∃ Z, Ser.co (Ser.timP m D a b j k) (j + k) = Z := ⟨_, rfl⟩
                rw [hZ] at hd1 z1 hst
                rw [hX, hY] at hst
                obtain ⟨z1, z2⟩ := z1
                have hset := HO.out.set (j + k) ((Z + X * Y) % m)
                rw [hst] at hset
                have HSET := Lib.hid hset
                have p1 := Int.mul_nonneg r1 q1
                have p2 := (mul_bd (x := X) (y := Y) r1 (by omega) (by omega) (by omega)).2
                have j2 : (0 : Int) ≤ (k : Int) := by omega
                have j3 : (k : Int) < (l'.length : Int) := by omega
                have j4 : (j : Int) + (k : Int) ≤ (D : Int) := by omega
                have j5 : (j : Int) + (k : Int) < (D : Int) + 1 := by omega
                have j6 : (0 : Int) ≤ (j : Int) + (k : Int) := by omega
                have j7 : ((j : Int) + (k : Int)).toNat = j + k := by omega
                have w1 : IntKind.i64.wrap ((j : Int) + (k : Int)) = (j : Int) + (k : Int) := by rw [IntKind.wrap_i64]; omega
                have w2 : IntKind.i64.wrap (X * Y) = X * Y := by rw [IntKind.wrap_i64]; omega
                have w3 : IntKind.i64.wrap (Z + X * Y) = Z + X * Y := by rw [IntKind.wrap_i64]; omega
                clear hX hY hZ hst hset hc' o3 o4
                go_wp2
                go_still_tail 23, (by kernel_rfl)
                change wpList _ _ _ _ _ wr.drew
                go_wp2
                go_roundw
                case rel => exact ⟨k + 1, by omega, by go_num, HSET.out, HB.out.drew.setCell (Nat.le_refl _) _⟩
                case measure => simp only [intOf]; omega
            · have HN := Lib.hid (Ser.timP_end m D a b j k (fun q hq1 hq2 => by omega))
              have h4' : ¬ (j : Int) + (k : Int) ≤ (D : Int) := by omega
              clear hX h4
              go_wp2
              go_roundw
              case rel => exact ⟨j + 1, by omega, by go_num, by rw [← HN.out]; exact HO.out, HB.out⟩
              case measure => simp only [intOf]; omega
          · have HN := Lib.hid (Ser.timP_end m D a b j k (fun q hq1 hq2 => by rw [← HB0.out]; exact Ser.co_over (by omega)))
            clear hX
            go_wp2
            go_roundw
            case rel => exact ⟨j + 1, by omega, by go_num, by rw [← HN.out]; exact HO.out, HB.out⟩
            case measure => simp only [intOf]; omega
      · have ho := HO.out
        rw [Ser.timS_end m D a b j (fun q hq1 hq2 => by omega)] at ho
        have HF := Lib.hid ho
        clear ho
        go_wp2
        go_ret
        exact ⟨_, rfl, HF.out, HB.out⟩
    · have ho := HO.out
      rw [Ser.timS_end m D a b j (fun q hq1 hq2 => by rw [← HA.out]; exact Ser.co_over (by omega))] at ho
      have HF := Lib.hid ho
      clear ho
      go_wp2
      go_ret
      exact ⟨_, rfl, HF.out, HB.out⟩
end Go.Proofs.Ytjgpdgoclianlaa
