/- Texts of contracts, joined. -/
import Derived.Test.YtakdmnecllcmnaaMgaf
import Derived.Test.YtakdmnecllcmnaaMgae
import Derived.Laws.OwnMore
import Derived.Test.YtakdmnecllcmnaaMgac
import Derived.Test.YtakdmnecllcmnaaMgab
/- Contract of TypicalLogarithm, of the program. -/
namespace Go.Proofs.Ytakdmnecllcmnaa
open Go.RowKit Go.WideShapes Go.ChangeShapes Go.ChangeAt

set_option maxHeartbeats 1000000 in
theorem codeOfTypicalOfDegree_any (p m d : Int) (A : Option Addr) (c : Nat) (l : List Int) (w : World) (hl : l.length ≤ 1048576) (hr : RI w A l) :
    Calls Try.prog 35 #[.int .i64 p, .int .i64 m, .int .i64 d, .slice A l.length c] w fun e w' => e = .returned (.int .i64 (codeTD p m d l)) ∧ w = w' := by
  have HC := Lib.hid (codeOfTypical_any p m A c l 0 w (by omega) hr)
  by_cases h0 : codeT p m l 0 = 0
  · have HF := Lib.hid (show codeTD p m d l = if inB d 1 10 = true then 0 else 2 by unfold codeTD; rw [if_pos h0])
    rw [h0] at HC
    clear h0 hr
    by_cases hd : inB d 1 10 = true
    · have HF2 := Lib.hid (HF.out.trans (if_pos hd))
      go_enter Try.func35, Try.ntmps35
      go_wp2_with (first | (go_at_call 27; refine HC.out.mono ?_; rintro e w' ⟨rfl, rfl⟩) | (go_at_call 55; refine (isWithin_any _ _ _ _).mono ?_; rintro e w' ⟨rfl, rfl⟩; rw [hd]))
      go_ret
      exact ⟨ret_int HF2.out.symm, rfl⟩
    · have HF2 := Lib.hid (HF.out.trans (if_neg hd))
      have hd' : inB d 1 10 = false := by simpa using hd
      clear hd
      go_enter Try.func35, Try.ntmps35
      go_wp2_with (first | (go_at_call 27; refine HC.out.mono ?_; rintro e w' ⟨rfl, rfl⟩) | (go_at_call 55; refine (isWithin_any _ _ _ _).mono ?_; rintro e w' ⟨rfl, rfl⟩; rw [hd']))
      go_ret
      exact ⟨ret_int HF2.out.symm, rfl⟩
  · have HF := Lib.hid (show codeTD p m d l = codeT p m l 0 by unfold codeTD; rw [if_neg h0])
    obtain ⟨n1, n2⟩ := ne_facts h0
    clear h0 hr
    go_enter Try.func35, Try.ntmps35
    go_wp2_with (go_at_call 27; refine HC.out.mono ?_; rintro e w' ⟨rfl, rfl⟩)
    go_ret
    exact ⟨ret_int HF.out.symm, rfl⟩

set_option maxHeartbeats 2000000 in
theorem tloC_any (m : Int) (p k g : Nat) (W : World) (m1 : 2 ≤ m) (m2 : m ≤ 10000) (hg : gcdI (p : Int) m = 1) (hK : p ^ k ≤ 1000000) (hb : Cel W g m) :
    Calls Try.prog 37 (#[.int .i64 (p ^ k : Nat)] ++ #[.pointer (some ⟨g, 0, none⟩)]) W fun e w' => e = .returned (.int .i64 (invP m p ^ k % m)) ∧ Below W.heap.size W w' := by
  have hv := codeU_pow m1 m2 hg k
  obtain ⟨K, hKK⟩ : ∃ K, p ^ k = K := ⟨_, rfl⟩
  rw [hKK] at hv hK ⊢
  have HI := Lib.hid (fun W0 => InverseModulo_any m ((K : Int) % m) W0)
  obtain ⟨R, hR⟩ : ∃ R, (invM m ((K : Int) % m)).1 = R := ⟨_, rfl⟩
  obtain ⟨C, hC⟩ : ∃ C, (invM m ((K : Int) % m)).2 = C := ⟨_, rfl⟩
  rw [hR] at HI hv
  rw [hC] at HI
  have HV := Lib.hid hv
  have HTM := Lib.hid (show (K : Int).tmod m = (K : Int) % m from Int.tmod_eq_emod_of_nonneg (by omega))
  have hm0 : ¬ m = 0 := by omega
  have HKS := Lib.hid (fun W0 (h : Below W.heap.size W W0) => (hb.keep h).1)
  have HSK0 := Lib.hid (HKS.out _ (below_drew0 W))
  clear hKK hR hC hv hb hg
  show Calls Try.prog 37 #[.int .i64 (K : Int), .pointer (some ⟨g, 0, none⟩)] W _
  go_enter Try.func37, Try.ntmps37
  go_upto_region 1 with fail
  refine region_tilN (fun w' => w'.cell? ⟨g, 0, none⟩ = some (.int .i64 m)) 10 (by kernel_rfl) ?_
  refine tilN_take (i := 0) (dst := some 7) (.int .i64 m) rfl rfl (by kernel_rfl) (by kernel_rfl) (by kernel_rfl) (by kernel_rfl) (fun _ _ _ h => h) (Or.inl ⟨by rfl, ?_⟩) HSK0.out ?_
  · rintro w' z1
    go_simp
  simp only [Act.put, List.setIfInBounds_toArray, List.set_cons_zero, List.set_cons_succ]
  refine tilN_take (i := 1) (dst := some 8) (.int .i64 K) rfl rfl (by kernel_rfl) (by kernel_rfl) (by kernel_rfl) (by kernel_rfl) (fun _ _ _ h => h) (Or.inl ⟨by rfl, ?_⟩) HSK0.out ?_
  · rintro w' z1
    go_simp
  simp only [Act.put, List.setIfInBounds_toArray, List.set_cons_zero, List.set_cons_succ]
  refine tilN_take (i := 2) (dst := some 9) (.int .i64 m) rfl rfl (by kernel_rfl) (by kernel_rfl) (by kernel_rfl) (by kernel_rfl) (fun _ _ _ h => h) (Or.inl ⟨by rfl, ?_⟩) HSK0.out ?_
  · rintro w' z1
    go_simp
  simp only [Act.put, List.setIfInBounds_toArray, List.set_cons_zero, List.set_cons_succ]
  refine tilN_take (i := 3) (dst := some 10) (.int .i64 ((K : Int).tmod m)) rfl rfl (by kernel_rfl) (by kernel_rfl) (by kernel_rfl) (by kernel_rfl) (fun _ _ _ h => h) (Or.inl ⟨by rfl, ?_⟩) HSK0.out ?_
  · rintro w' z1
    go_simp
  simp only [Act.put, List.setIfInBounds_toArray, List.set_cons_zero, List.set_cons_succ]
  rw [HTM.out]
  refine tilN_one (i := 4) (by kernel_rfl) rfl (fun K hK => ?_)
  go_simp
  (go_at_call 38; with_reducible refine Calls.mono (HI.out _) ?_; rintro e w5 ⟨rfl, hb5⟩; have b5 := below_step (below_drew0 W) hb5)
  dsimp only
  refine hK.out _ _ (fun _ => HKS.out _ b5) ?_
  clear hK K
  try simp only [Act.put, List.setIfInBounds_toArray, List.set_cons_zero, List.set_cons_succ]
  refine tilN_take (i := 5) (dst := some 6) (.tuple #[.int .i64 R, .int .i64 C]) rfl rfl (by kernel_rfl) (by kernel_rfl) (by kernel_rfl) (by kernel_rfl) (fun _ _ _ h => h) (Or.inl ⟨by rfl, ?_⟩) (HKS.out _ b5) ?_
  · rintro w' z1
    go_simp
  simp only [Act.put, List.setIfInBounds_toArray, List.set_cons_zero, List.set_cons_succ]
  refine tilN_take (i := 6) (dst := some 12) (.int .i64 R) rfl rfl (by kernel_rfl) (by kernel_rfl) (by kernel_rfl) (by kernel_rfl) (fun _ _ _ h => h) (Or.inl ⟨by rfl, ?_⟩) (HKS.out _ b5) ?_
  · rintro w' z1
    go_simp
  simp only [Act.put, List.setIfInBounds_toArray, List.set_cons_zero, List.set_cons_succ]
  refine tilN_take (i := 7) (dst := some 13) (.int .i64 C) rfl rfl (by kernel_rfl) (by kernel_rfl) (by kernel_rfl) (by kernel_rfl) (fun _ _ _ h => h) (Or.inl ⟨by rfl, ?_⟩) (HKS.out _ b5) ?_
  · rintro w' z1
    go_simp
  simp only [Act.put, List.setIfInBounds_toArray, List.set_cons_zero, List.set_cons_succ]
  refine tilN_take (i := 8) (dst := some 4) (.int .i64 R) rfl rfl (by kernel_rfl) (by kernel_rfl) (by kernel_rfl) (by kernel_rfl) (fun _ _ _ h => h) (Or.inl ⟨by rfl, ?_⟩) (HKS.out _ b5) ?_
  · rintro w' z1
    go_simp
  simp only [Act.put, List.setIfInBounds_toArray, List.set_cons_zero, List.set_cons_succ]
  refine tilN_take (i := 9) (dst := some 5) (.int .i64 C) rfl rfl (by kernel_rfl) (by kernel_rfl) (by kernel_rfl) (by kernel_rfl) (fun _ _ _ h => h) (Or.inl ⟨by rfl, ?_⟩) (HKS.out _ b5) ?_
  · rintro w' z1
    go_simp
  simp only [Act.put, List.setIfInBounds_toArray, List.set_cons_zero, List.set_cons_succ]
  refine tilN_done (by kernel_rfl) ?_
  have HB5 := Lib.hid b5
  clear b5 hb5
  go_wp2
  go_ret
  exact ⟨ret_int HV.out, HB5.out⟩

set_option maxHeartbeats 8000000 in
theorem TypicalLogarithm_any (p m d : Int) (A : Option Addr) (c : Nat) (l : List Int) (w : World) (hl : l.length ≤ 1048576) (hr : RI w A l) :
    Calls Try.prog 14 #[.int .i64 p, .int .i64 m, .int .i64 d, .slice A l.length c] w fun x w' => ∃ s, x = .returned (.tuple #[.agg #[.int .i64 (tloM p m d l).1, s], .int .i64 (tloM p m d l).2.2]) ∧ OwnI w' w.heap.size s (tloM p m d l).2.1 ∧ Below w.heap.size w w' := by
  obtain ⟨W, hW⟩ : ∃ W, (w.alloc (.cells #[.int .i64 m] 2)).alloc (.cells #[.int .i64 0, .slice none 0 0] 30) = W := ⟨_, rfl⟩
  have hwb : Below w.heap.size w W := by rw [← hW]; exact below_alloc _ (below_one _ _)
  have cm : Cel W w.heap.size m := by rw [← hW]; exact (Cel.new w m).keep (below_one _ _)
  have v3 : Var2 W (w.heap.size + 1) (.int .i64 0) (.slice none 0 0) := by
    rw [← hW]
    have := Var2.new (w.alloc (.cells #[.int .i64 m] 2)) (.int .i64 0) (.slice none 0 0)
    simpa using this
  have hsz := v3.lt
  have V3 := Lib.hid v3
  have CM := Lib.hid cm
  have HB := Lib.hid hwb
  have HW := Lib.hid hW
  have HRW := Lib.hid (hr.below hwb)
  have HC := Lib.hid (codeOfTypicalOfDegree_any p m d A c l W hl HRW.out)
  obtain ⟨c1, -⟩ := cm
  clear v3 hwb hW hr
  by_cases h0 : codeTD p m d l = 0
  · obtain ⟨hct, hd1, hd2⟩ := codeTD_ok h0
    obtain ⟨⟨hm1, hm2⟩, ha, hp, -, k3⟩ := codeT_ok hct
    obtain ⟨P, rfl⟩ := Int.eq_ofNat_of_zero_le (show 0 ≤ p by omega)
    obtain ⟨D, rfl⟩ := Int.eq_ofNat_of_zero_le (show 0 ≤ d by omega)
    have HGD := Lib.hid (fun W0 => greatestDivisor_any m (P : Int) W0 (by omega) (by omega) (by omega) (by omega))
    rw [h0] at HC
    by_cases hg : gcdI (P : Int) m = 1
    · have HA : Hid (tloM P m D l = (m, tyL m D P (fun k => Nmr.num P (Ser.co l) k % m * (invP m P ^ k % m)) (needN P D + 1), 0)) := Lib.hid (by unfold tloM; rw [if_pos h0, if_pos hg, Int.toNat_natCast, Int.toNat_natCast])
      rw [HA.out]
      rw [gcdI_comm, hg] at HGD
      have hco : ∀ i, 0 ≤ Ser.co l i ∧ Ser.co l i ≤ m - 1 := fun i => by
        by_cases hi : i < l.length
        · unfold allIn at ha
          rw [List.all_eq_true] at ha
          have := ha l[i] (List.getElem_mem hi)
          unfold Ser.co
          rw [List.getElem?_eq_getElem hi]
          exact (inB_iff _ _ _).1 this
        · rw [Ser.co_over (by omega)]; omega
      have hp4 : P = 2 ∨ P = 3 ∨ P = 5 ∨ P = 7 := by omega
      have HT := Lib.hid (fun W0 (h : Below W.heap.size W W0) => typicalSeries_any m D P 37 #[.pointer (some ⟨w.heap.size, 0, none⟩)] (fun k => invP m P ^ k % m) A c l W0 hm1 (by omega) (by omega) (by omega) hp4
        (fun i => by have := hco i; omega) (HRW.out.below h)
        (fun k _ => by
          have b1 : 0 ≤ Nmr.num P (Ser.co l) k % m ∧ Nmr.num P (Ser.co l) k % m < m := ⟨Int.emod_nonneg _ (by omega), Int.emod_lt_of_pos _ (by omega)⟩
          have b2 : 0 ≤ invP m P ^ k % m ∧ invP m P ^ k % m < m := ⟨Int.emod_nonneg _ (by omega), Int.emod_lt_of_pos _ (by omega)⟩
          refine ⟨Int.mul_nonneg b1.1 b2.1, ?_⟩
          have := Int.mul_le_mul (show Nmr.num P (Ser.co l) k % m ≤ 10000 by omega) (show invP m P ^ k % m ≤ 10000 by omega) b2.1 (by omega)
          omega)
        (enters_fn Try.func37 (of_decide_eq_true (by kernel_rfl)) rfl)
        (fun k W1 hk h1 => tloC_any m P k w.heap.size W1 hm1 hm2 hg (by
          have hk3 : k ≤ 3 := Nat.le_trans hk (needN_le3 P (in4 hp4) D (List.mem_range.2 (by omega)))
          have := (pow_bd7 (p := P) (by omega) (i := k) hk3 (by omega)).2
          omega) (CM.out.keep (h.trans (h1.mono h.size)))))
      have hTl : (tyL m D P (fun k => Nmr.num P (Ser.co l) k % m * (invP m P ^ k % m)) (needN P D + 1)).length = D + 1 := Ser.cut_length _ _ _
      obtain ⟨T, hT⟩ : ∃ T, tyL m D P (fun k => Nmr.num P (Ser.co l) k % m * (invP m P ^ k % m)) (needN P D + 1) = T := ⟨_, rfl⟩
      rw [hT] at HT hTl ⊢
      clear h0 hct ha hp hg hT hco hp4 HA
      go_enter Try.func14, Try.ntmps14
      go_wp2_with fail
      rw [HW.out]
      refine HC.out.mono ?_
      rintro e w1 ⟨rfl, rfl⟩
      go_wp2_with fail
      refine (HGD.out _).mono ?_
      rintro e w1 ⟨rfl, hb1⟩
      obtain ⟨c2, -⟩ := CM.out.keep hb1
      have hb1' := hb1
      have HB1 := Lib.hid hb1
      clear c1 hb1
      go_wp2_with fail
      refine (HT.out _ HB1.out).mono ?_
      rintro e w2 ⟨v, rfl, ho, hb2⟩
      obtain ⟨A2, cc, rfl, -⟩ := ho.form
      rw [hTl] at ho ⊢
      have hb := below_step HB1.out hb2
      have hv := V3.out.keep hb
      have q0 := hv.c0
      have q1 := hv.c1
      have q2 := hv.fz 0
      have q3 := hv.fz 1
      obtain ⟨f0, f1, f2, f3⟩ := fin_var (w := w) hv ho (by have := HB1.out.size; omega) (by omega) (below_step HB.out hb) (.int .i64 m) (.slice A2 (D + 1) cc)
      have F2 := Lib.hid f2
      have F3 := Lib.hid f3
      clear f2 f3 hv hb hb2 ho c2 hb1'
      go_wp2
      exact bodyPost_ret (v := .tuple #[.agg #[.int .i64 m, .slice A2 (D + 1) cc], .int .i64 0]) (by simp [results, Try.results14, go_sem, f0, f1]) rfl ⟨_, rfl, F2.out, F3.out⟩
    · have HA : Hid (tloM P m D l = (0, [], 5)) := Lib.hid (by unfold tloM; rw [if_pos h0, if_neg hg])
      rw [HA.out]
      rw [gcdI_comm] at HGD
      obtain ⟨G, hG⟩ : ∃ G, gcdI (P : Int) m = G := ⟨_, rfl⟩
      rw [hG] at HGD hg
      have g1 : (G == 1) = false := by simpa using hg
      have g2 : (G != 1) = true := by simpa using hg
      clear h0 hct ha hp hg hG
      go_enter Try.func14, Try.ntmps14
      go_wp2_with fail
      rw [HW.out]
      refine HC.out.mono ?_
      rintro e w1 ⟨rfl, rfl⟩
      go_wp2_with fail
      refine (HGD.out _).mono ?_
      rintro e w1 ⟨rfl, hb1⟩
      have hv := V3.out.keep hb1
      have q0 := hv.c0
      have q1 := hv.c1
      have q2 := hv.fz 0
      have q3 := hv.fz 1
      obtain ⟨f0, f1, f2, f3⟩ := fin_var (w := w) (base := w1.heap.size) hv (OwnI.nil _ _) hv.lt (by omega) (below_step HB.out hb1) (.int .i64 0) (.slice none 0 0)
      have F2 := Lib.hid f2
      have F3 := Lib.hid f3
      clear f2 f3 hv hb1
      go_wp2
      exact bodyPost_ret (v := .tuple #[.agg #[.int .i64 0, .slice none 0 0], .int .i64 5]) (by simp [results, Try.results14, go_sem, f0, f1]) rfl ⟨_, rfl, F2.out, F3.out⟩
  · have HA : Hid (tloM p m d l = (0, [], codeTD p m d l)) := Lib.hid (by unfold tloM; rw [if_neg h0])
    rw [HA.out]
    obtain ⟨n1, n2⟩ := ne_facts h0
    have hv := V3.out
    have q0 := hv.c0
    have q1 := hv.c1
    have q2 := hv.fz 0
    have q3 := hv.fz 1
    obtain ⟨f0, f1, f2, f3⟩ := fin_var (w := w) (base := W.heap.size) hv (OwnI.nil _ _) hsz (by omega) HB.out (.int .i64 0) (.slice none 0 0)
    have F2 := Lib.hid f2
    have F3 := Lib.hid f3
    clear h0 f2 f3 hv
    go_enter Try.func14, Try.ntmps14
    go_wp2_with fail
    rw [HW.out]
    refine HC.out.mono ?_
    rintro e w1 ⟨rfl, rfl⟩
    go_wp2
    exact bodyPost_ret (v := .tuple #[.agg #[.int .i64 0, .slice none 0 0], .int .i64 (codeTD p m d l)]) (by simp [results, Try.results14, go_sem, f0, f1]) rfl ⟨_, rfl, F2.out, F3.out⟩

end Go.Proofs.Ytakdmnecllcmnaa

/- Contract of l01Own for every list, also empty ones; l09Three. -/
namespace Go.Proofs.Ytakdmnecllcmnaa
open Go.RowKit Go.WideShapes Go.ChangeShapes Go.ChangeAt

theorem run_append_zero {P : Program} {w : World} (base : Nat) (t ty e : TypeId) (i : TypeInfo) (size c : Nat) (ht : P.underlying t = some (.slice e)) (hi : P.info? e = some i)
    (v : Value) (n : Nat) (xs : List Value) (hown : w.ownsRow base e size v n xs) :
    (Builtin.append_ #[t, t] ty #[v, .slice none 0 c]).run P w = .ok v w := by
  rcases hown.2 with ⟨rfl, rfl⟩ | ⟨g, cap, cur, rfl, _, _, hnc, _⟩
  · simp [Builtin.append_, run_underlying ht, sizeOf, typeInfo, hi, Builtin.lenOf, Builtin.firstCells]
  · simp [Builtin.append_, run_underlying ht, sizeOf, typeInfo, hi, Builtin.lenOf, Builtin.firstCells, hnc, storeCells]
theorem wpList_append_zero {P : Program} {w : World} {ops : Array Oper} {rest : List Oper} {o : Oper} {a : Act} {Q : Exit → Act → World → Prop} (hgd : o.guard = none) (s x : Operand) (t : TypeId)
    (ho : o.op = .call { callee := .builtin .append, args := #[s, x], argTypes := #[t, t] })
    (base : Nat) (e : TypeId) (i : TypeInfo) (size c : Nat) (ht : P.underlying t = some (.slice e)) (hi : P.info? e = some i)
    (v : Value) (n : Nat) (xs : List Value) (hs : a.eval s = v) (hown : w.ownsRow base e size v n xs) (hx : a.eval x = .slice none 0 c)
    (h : wpList P ops Q rest (a.put o.dst v) w) : wpList P ops Q (o :: rest) a w := by
  refine wpList_plain hgd fun K hK => ?_
  have hrun := run_append_zero (P := P) (w := w) base t o.type e i size c ht hi v n xs hown
  unfold Oper.wp
  simp [execOp, ho, resolve, invoke, builtin, hs, hx, hrun, Result.andThen]
  exact hK _ _ h
set_option maxHeartbeats 2000000 in
theorem l01Own_all (A : Option Addr) (c : Nat) (l : List Int) (w : World) (hl : l.length ≤ 1000) (hr : RI w A l) :
    Calls Try.prog 50 #[.slice A l.length c] w fun e w' => ∃ v, e = .returned v ∧ OwnI w' w.heap.size v l ∧ Below w.heap.size w w' := by
  by_cases hne : l = []
  · subst hne
    obtain ⟨i0, hi, hz0, hz1, hz2⟩ := info_parts info64
    have HO := Lib.hid (OwnI.empty' w)
    have HF : OwnI (w.alloc (.cells #[] 2)) w.heap.size (.slice (some ⟨w.heap.size, 0, none⟩) 0 0) [] := OwnI.empty w
    have HF2 := Lib.hid HF
    clear HF
    cases A with
    | none =>
      show Calls Try.prog 50 #[.slice none 0 c] w _
      go_enter Try.func50, Try.ntmps50
      go_wp2_with (at_builtin; refine wpList_append_zero (by rfl) _ _ _ (by rfl) w.heap.size 2 i0 1 c Try.underlying22 hi _ 0 [] (by rfl) HO.out (by rfl) ?_)
      go_ret
      exact ⟨_, rfl, HF2.out, below_one _ _⟩
    | some ad =>
      show Calls Try.prog 50 #[.slice (some ad) 0 c] w _
      go_enter Try.func50, Try.ntmps50
      go_wp2_with (at_builtin; refine wpList_append_own _ (by rfl) _ _ _ (by rfl) w.heap.size 2 i0 (.int .i64 0) 1 8 Try.underlying22 hi hz0 hz1 hz2 rfl (by decide) _ 0 [] (by rfl) HO.out _ 0 c [] (by rfl) rfl (by intro j u hj; simp at hj) (by intro u hu; simp at hu) (by unfold maxLen; omega) (by omega) (by simp) ?_; intro v' w2 h2 h3 _)
      have HG : Hid (OwnI w2 w.heap.size v' []) := Lib.hid h2
      have HB := Lib.hid ((below_one w (.cells #[] 2)).grown h3 (by simp) (fun k hk => by simp [Value.ownBlock] at hk; omega))
      clear h2 h3
      go_wp2
      go_ret
      exact ⟨_, rfl, HG.out, HB.out⟩
  · exact l01Own_any A c l w hne hl hr
theorem ndL_self (l : List Int) : ndL l.length l = l := by
  apply List.ext_getElem?
  intro i
  unfold ndL
  rw [List.getElem?_map]
  by_cases h1 : i < l.length
  · rw [List.getElem?_range h1, List.getElem?_eq_getElem h1]
    show some (Ser.co l i) = some l[i]
    unfold Ser.co
    rw [List.getElem?_eq_getElem h1]; rfl
  · rw [List.getElem?_eq_none (by simp; omega), List.getElem?_eq_none (by omega)]; rfl
theorem ndL_push (n : Nat) (l : List Int) (h : l.length ≤ n) : ndL n l ++ [0] = ndL (n + 1) l := by
  unfold ndL
  rw [List.range_succ, List.map_append, List.map_cons, List.map_nil, Ser.co_over h]
set_option maxHeartbeats 2000000 in
theorem l09Three_any (A : Option Addr) (c : Nat) (l : List Int) (w : World) (hl : l.length ≤ 3) (hr : RI w A l) :
    Calls Try.prog 31 #[.slice A l.length c] w fun e w' => ∃ v, e = .returned v ∧ OwnI w' w.heap.size v (ndL 3 l) ∧ Below w.heap.size w w' := by
  have HO := Lib.hid (l01Own_all A c l w (by omega) hr)
  have HS := Lib.hid (ndL_self l)
  have HP := Lib.hid (fun n => ndL_push n l)
  clear hr
  go_enter Try.func31, Try.ntmps31
  go_wp2_with fail
  refine HO.out.mono ?_
  rintro e w1 ⟨v, rfl, ho, hb⟩
  obtain ⟨A1, c1, hv, -⟩ := ho.form
  subst hv
  rw [← HS.out, ndL_length] at ho
  have HO1 := Lib.hid ho
  have HB1 := Lib.hid hb
  clear ho hb HO HS
  obtain ⟨L, hL⟩ : ∃ L, l.length = L := ⟨_, rfl⟩
  rw [hL] at HO1 HP hl
  have hz : w.heap.size ≤ w1.heap.size := HB1.out.size
  rw [hL]
  clear hL
  go_wp2
  go_loopw [3] (fun s3 wr => ∃ (k : Nat) (A2 : Option Addr) (c2 : Nat), L ≤ k ∧ k ≤ 3 ∧ s3 = .slice A2 k c2 ∧ OwnI wr w.heap.size (.slice A2 k c2) (ndL k l) ∧ Below w.heap.size w wr) (fun s3 _ => 4 - (match s3 with | .slice _ n _ => n | _ => 0))
  case atStart => exact ⟨L, A1, c1, Nat.le_refl _, hl, rfl, HO1.out, HB1.out⟩
  case round =>
    clear HO1 HB1 hz
    obtain ⟨k, A2, c2, hk1, hk2, rfl, ho, hb⟩ := hrel
    have HO2 := Lib.hid ho
    have HB2 := Lib.hid hb
    have hsz : w.heap.size ≤ wr.heap.size := hb.size
    clear ho hb
    by_cases hlt : k < 3
    · have i1 : (k : Int) < 3 := by omega
      have hll := ndL_length k l
      have HST := Lib.hid (HP.out k hk1)
      have hl2 := ndL_length (k + 1) l
      obtain ⟨L2, hL2⟩ : ∃ L2, ndL k l = L2 := ⟨_, rfl⟩
      rw [hL2] at HO2 hll HST
      have HLL := Lib.hid hll
      have HL2 := Lib.hid hl2
      clear hL2 hll hl2
      go_wp2_with (at_builtin; refine wp_push _ _ _ (by rfl) (by rfl) Try.underlying22 w.heap.size _ _ (by rfl) HO2.out 0 (by rfl) (by rw [HLL.out]; omega) hsz ?_; intro v' w4 ho4 hb4)
      rw [HST.out] at ho4
      obtain ⟨A3, c3, hv3, -⟩ := ho4.form
      subst hv3
      rw [HL2.out] at ho4 ⊢
      have hB4 := HB2.out.trans hb4
      go_wp2
      go_roundw
      case rel => exact ⟨k + 1, A3, c3, by omega, by omega, rfl, ho4, hB4⟩
      case measure => simp only []; omega
    · obtain rfl : k = 3 := by omega
      go_wp2
      go_ret
      exact ⟨_, rfl, HO2.out, HB2.out⟩

end Go.Proofs.Ytakdmnecllcmnaa

/- A region that draws its order, one of whose operations makes a new block when it likes: whatever the others do is shown in worlds that may have grown meanwhile. -/
namespace Go.Proofs.Ytakdmnecllcmnaa
open Go Go.RowKit

section
variable {P : Program} {ops : Array Oper} {Q : Exit → Act → World → Prop} {md : Region.Mode} {S : World → Prop} {n f s G0 : Nat} {mk : Nat → Value} {zs : Array Value} {t : TypeId}

/-- the slot's value points at the block that has been made -/
def Ph (mk : Nat → Value) (G0 : Nat) (zs : Array Value) (t : TypeId) (v : Value) (w : World) : Prop := ∃ g, v = mk g ∧ G0 ≤ g ∧ w.heap[g]? = some (.cells zs t (0, 0))
theorem Ph.keep {v : Value} {w w' : World} (h : Ph mk G0 zs t v w) (hb : Below w.heap.size w w') : Ph mk G0 zs t v w' := by
  obtain ⟨g, h1, h2, h3⟩ := h
  exact ⟨g, h1, h2, (hb.block g (Array.getElem?_eq_some_iff.1 h3).1).trans h3⟩
/-- number f has not come up yet, or has -/
def Both (P : Program) (md : Region.Mode) (ops : Array Oper) (Q : Exit → Act → World → Prop) (S : World → Prop) (n f s G0 : Nat) (mk : Nat → Value) (zs : Array Value) (t : TypeId) (fuel : Nat) (listed : Array Bool) (a : Act) (w : World) : Prop :=
  G0 ≤ w.heap.size ∧ (∀ w', Below w.heap.size w w' → S w' → wpTilN P md ops Q S n (fuel + 1) listed a w') ∧
  (∀ v w', Below w.heap.size w w' → S w' → Ph mk G0 zs t v w' → wpTilN P md ops Q S n fuel (listed.setIfInBounds f true) (a.put (some s) v) w')
theorem put_self {a : Act} {v : Value} (h : a.tmps.getD s undef = v) : a.put (some s) v = a := by
  unfold Act.put
  dsimp only
  have : a.tmps.setIfInBounds s v = a.tmps := by
    apply Array.ext_getElem?
    intro i
    rw [Array.getElem?_setIfInBounds]
    by_cases hi : s = i
    · subst hi
      by_cases hs : s < a.tmps.size
      · simp [hs] at h ⊢
        exact h.symm
      · simp [hs]
    · simp [hi]
  rw [this]
theorem put_comm {a : Act} {dst : Option Tmp} (h : dst ≠ some s) (v v' : Value) : (a.put (some s) v').put dst v = (a.put dst v).put (some s) v' := by
  cases dst with
  | none => rfl
  | some d =>
    have hne : s ≠ d := fun e => h (by rw [e])
    unfold Act.put
    dsimp only
    rw [Array.setIfInBounds_comm _ _ hne]
theorem both_step {i : Nat} {o : Oper} {fuel : Nat} {listed : Array Bool} {a : Act} {w : World} (hal : ∀ (w : World) (K : Act → World → Prop), K (a.put (some s) (mk w.heap.size)) (w.alloc (.cells zs t)) → wpOp P ops Q f K a w)
    (hSa : ∀ w, S w → S (w.alloc (.cells zs t))) (hG : G0 ≤ w.heap.size) (hrA : (Region.ready md ops listed).all (fun j => j == f || j == i) = true) (hrC : (Region.ready md ops listed).contains i = true) (hrB : Region.ready md ops (listed.setIfInBounds f true) = [i])
    (hif : i ≠ f) (hin : i < n) (hfn : f < n) (ho : ops[i]? = some o)
    (h : ∀ (v : Value) (w' : World), Below w.heap.size w w' → S w' → ∀ K : Act → World → Prop, Shut (∀ a' w'', a'.tmps.getD s undef = v → Below w'.heap.size w' w'' → S w'' → Both P md ops Q S n f s G0 mk zs t fuel (listed.setIfInBounds i true) a' w'' → K a' w'') →
      if Region.wanted o (yielded ops (a.put (some s) v).tmps) = true then Oper.wp P o (a.put (some s) v) w' K Q else K ((a.put (some s) v).put o.dst undef) w') :
    Both P md ops Q S n f s G0 mk zs t (fuel + 1) listed a w := by
  have c2 : ∀ v w', Below w.heap.size w w' → S w' → Ph mk G0 zs t v w' → wpTilN P md ops Q S n (fuel + 1) (listed.setIfInBounds f true) (a.put (some s) v) w' := by
    intro v w' hb hS hp
    refine ⟨fun e => (by rw [e] at hrB; cases hrB), fun j hj => ?_⟩
    rw [hrB] at hj
    obtain rfl : j = i := by simpa using hj
    refine wpOp_step ho (fun K hK => h v w' hb hS K (fun a' w'' hsl hB hS' hbo => hK a' w'' ⟨fun _ => hS', ?_⟩))
    have := hbo.2.2 v w'' (Below.refl _ _) hS' (hp.keep hB)
    rw [put_self hsl, Array.setIfInBounds_comm _ _ hif] at this
    exact this
  refine ⟨hG, fun w' hb hS => ⟨fun e => (by rw [e] at hrC; cases hrC), fun j hj => ?_⟩, c2⟩
  have hj2 := List.all_eq_true.1 hrA j hj
  rw [Bool.or_eq_true, beq_iff_eq, beq_iff_eq] at hj2
  rcases hj2 with rfl | rfl
  · have hG' : G0 ≤ w'.heap.size := Nat.le_trans hG hb.size
    exact hal w' _ ⟨fun _ => hSa w' hS, c2 _ _ (hb.trans ((Below.refl _ w').alloc (hb.size) _)) (hSa w' hS) ⟨_, rfl, hG', heap_alloc_new w' _⟩⟩
  · have hps : a.put (some s) (a.tmps.getD s undef) = a := put_self rfl
    have h' := h (a.tmps.getD s undef) w' hb hS
    rw [hps] at h'
    exact wpOp_step ho (fun K hK => h' K (fun a' w'' _ _ hS' hbo => hK a' w'' ⟨fun _ => hS', hbo.2.1 w'' (Below.refl _ _) hS'⟩))
theorem both_take {i : Nat} {oi : Oper} {dst : Option Tmp} (v : Value) {fuel : Nat} {listed : Array Bool} {a : Act} {w : World} (hi : ops[i]? = some oi) (hd : oi.dst = dst) (hds : dst ≠ some s) (hs : Region.noSelect ops = true)
    (hf : Region.free md ops listed i = true) (hf' : Region.free md ops (listed.setIfInBounds f true) i = true)
    (hr : (Region.ready md ops listed).contains i = true) (hr' : (Region.ready md ops (listed.setIfInBounds f true)).contains i = true)
    (hw : waitN md ops listed n i = true) (hw' : waitN md ops (listed.setIfInBounds f true) n i = true) (hif : i ≠ f) (hQ : ∀ c a w, Q (.panic c) (a.put dst v) w → Q (.panic c) a w) (hy : ∀ v', YieldsIf P ops S oi v (a.put (some s) v'))
    (h : Both P md ops Q S n f s G0 mk zs t fuel (listed.setIfInBounds i true) (a.put dst v) w) : Both P md ops Q S n f s G0 mk zs t (fuel + 1) listed a w := by
  refine ⟨h.1, fun w' hb hS => ?_, fun v' w' hb hS hp => ?_⟩
  · have hy0 := hy (a.tmps.getD s undef)
    rw [put_self rfl] at hy0
    exact tilN_take v hi hd hs hf hr hw hQ hy0 hS (h.2.1 w' hb hS)
  · refine tilN_take v hi hd hs hf' hr' hw' hQ (hy v') hS ?_
    rw [put_comm hds, Array.setIfInBounds_comm _ _ (fun e => hif e.symm)]
    exact h.2.2 v' w' hb hS hp
theorem both_end {fuel : Nat} {listed : Array Bool} {a : Act} {w : World} (hal : ∀ (w : World) (K : Act → World → Prop), K (a.put (some s) (mk w.heap.size)) (w.alloc (.cells zs t)) → wpOp P ops Q f K a w)
    (hSa : ∀ w, S w → S (w.alloc (.cells zs t))) (hG : G0 ≤ w.heap.size) (hr : Region.ready md ops listed = [f]) (hfn : f < n)
    (h : ∀ (g : Nat) (w' : World), G0 ≤ g → Below w.heap.size w w' → S w' → w'.heap[g]? = some (.cells zs t (0, 0)) → wpTilN P md ops Q S n fuel (listed.setIfInBounds f true) (a.put (some s) (mk g)) w') :
    Both P md ops Q S n f s G0 mk zs t fuel listed a w := by
  refine ⟨hG, fun w' hb hS => ⟨fun e => (by rw [e] at hr; cases hr), fun j hj => ?_⟩, fun v w' hb hS hp => ?_⟩
  · rw [hr] at hj
    obtain rfl : j = f := by simpa using hj
    exact hal w' _ ⟨fun _ => hSa w' hS, h _ _ (Nat.le_trans hG hb.size) (hb.trans ((Below.refl _ w').alloc hb.size _)) (hSa w' hS) (heap_alloc_new w' _)⟩
  · obtain ⟨g, rfl, h1, h2⟩ := hp
    exact h g w' h1 hb hS h2
/-- from here on number f may come up -/
theorem both_in {fuel : Nat} {listed : Array Bool} {a : Act} {w : World} (f s G0 : Nat) (mk : Nat → Value) (zs : Array Value) (t : TypeId) (hS : S w) (h : Both P md ops Q S n f s G0 mk zs t fuel listed a w) : wpTilN P md ops Q S n (fuel + 1) listed a w := h.2.1 w (Below.refl _ _) hS
theorem region_free {id fuel : Nat} {a : Act} {w : World} (S : World → Prop) (n f s G0 : Nat) (mk : Nat → Value) (zs : Array Value) (t : TypeId) (hm : P.follows .mixedOrders = true) (hz : ops.size = fuel + 1) (hS : S w.drew)
    (h : Both P .any ops Q S n f s G0 mk zs t fuel (Array.replicate ops.size false) a w.drew) : (Code.region id ops true).wp P Q a w := by
  refine region_tilN S n hm ?_
  have := h.2.1 _ (Below.refl _ _) hS
  rw [hz] at this ⊢
  exact this
end
/-- a store into a variable leaves a table alone that a call has made -/
theorem OwnR.offvar {w w' : World} {lo hi g : Nat} {v : Value} {rows : List (List Int)} {T : TypeId} {cs : Array Value} (h : OwnR w lo hi v rows) (hv : VarC T w g cs) (h1 : T ≠ 22) (h2 : T ≠ 2) (hg : w.grownBy w' (some g)) : OwnR w' lo hi v rows := by
  have key : ∀ (b : Nat) (cs' : Array Value) (t' : TypeId) (f : Nat × Nat), w.heap[b]? = some (.cells cs' t' f) → t' ≠ T → (some g : Option Nat) ≠ some b := by
    intro b cs' t' f hh hne e
    injection e with e
    subst e
    unfold VarC at hv
    rw [hv] at hh
    injection hh with hh
    injection hh with e1 e2
    exact hne e2.symm
  obtain ⟨vs, k1, k2, k3, k4⟩ := h
  refine ⟨vs, ⟨k1.1, ?_⟩, k2, fun i r hr' => ?_, k4⟩
  · rcases k1.2 with hn | ⟨b, cap, cur, rfl, hg', hh, rest⟩
    · exact .inl hn
    · exact .inr ⟨b, cap, cur, rfl, hg', (hg.block b (Array.getElem?_eq_some_iff.1 hh).1 (fun e => key b _ _ _ hh (fun e => h1 e.symm) e.symm)).trans hh, rest⟩
  · obtain ⟨u, a, b, c⟩ := k3 i r hr'
    refine ⟨u, a, b.other hg ?_, c⟩
    unfold OwnI at b
    rcases b.2 with ⟨rfl, _⟩ | ⟨b0, cap, cur, rfl, _, hh, _⟩
    · exact .inl rfl
    · exact .inr (fun e => key b0 _ _ _ hh (fun e => h2 e.symm) e.symm)
/-- a grid is stored into a variable that was made on the way -/
theorem fin_free {T : TypeId} {w w2 w3 : World} {g lo hi : Nat} {v a b c : Value} {t : List (List Int)} (hv : VarC T w3 g #[a, b, c]) (ho : OwnR w2 lo hi v t) (hb : Below hi w2 w3) (h1 : T ≠ 22) (h2 : T ≠ 2) (hwg : w.heap.size ≤ g) (hhi : hi ≤ w3.heap.size) (hbw : Below w.heap.size w w3) (p q r : Value) :
    VarC T (((w3.setCell ⟨g, 0, none⟩ p).setCell ⟨g, 1, none⟩ q).setCell ⟨g, 2, none⟩ r) g #[p, q, r] ∧ OwnR (((w3.setCell ⟨g, 0, none⟩ p).setCell ⟨g, 1, none⟩ q).setCell ⟨g, 2, none⟩ r) lo hi v t ∧ Below w.heap.size w (((w3.setCell ⟨g, 0, none⟩ p).setCell ⟨g, 1, none⟩ q).setCell ⟨g, 2, none⟩ r) ∧ hi ≤ (((w3.setCell ⟨g, 0, none⟩ p).setCell ⟨g, 1, none⟩ q).setCell ⟨g, 2, none⟩ r).heap.size :=
  ⟨hv.set3 p q r, (ho.keep hb).offvar hv h1 h2 (grown_set3 w3 g p q r), below_set3 hbw hwg p q r, Nat.le_trans hhi (grown_set3 w3 g p q r).size⟩
end Go.Proofs.Ytakdmnecllcmnaa

