/- Texts of contracts, joined. -/
import Derived.Test.YtakdmnecllcmnaaMgaf
import Derived.Test.YtakdmnecllcmnaaMgag
import Derived.Test.YtakdmnecllcmnaaMgac
/- Contract of TypicalLogarithm, of the model. -/
namespace Go.Proofs.Ytakdmnecllcmnaa
open Go.RowKit Go.WideShapes Go.ChangeShapes Go.ChangeAt

theorem pow_ne {p i k : Nat} (hp : 2 ≤ p) (h : i < k) : p ^ i ≠ p ^ k := by
  have := Nat.pow_lt_pow_right (show 1 < p by omega) h
  omega
theorem tyF_low {p : Nat} (hp : 2 ≤ p) (f : Nat → Int) (k : Nat) : ∀ j, j ≤ k → tyF p f j (p ^ k) = 0
  | 0, _ => rfl
  | j + 1, h => by
    show tyF p f j (p ^ k) + Ser.mon (p ^ j) (f j) (p ^ k) = 0
    rw [tyF_low hp f k j (by omega)]
    unfold Ser.mon
    rw [if_neg (fun e => pow_ne hp (show j < k by omega) e.symm)]
    rfl
theorem tyL_set (m : Int) (d p : Nat) (f : Nat → Int) (k : Nat) (hp : 2 ≤ p) (hk : p ^ k ≤ d) : (tyL m d p f k).set (p ^ k) (f k % m) = tyL m d p f (k + 1) := by
  apply List.ext_getElem?
  intro n
  unfold tyL Ser.cut
  rw [List.getElem?_set, List.length_map, List.length_range, List.getElem?_map, List.getElem?_map]
  by_cases hn : n < d + 1
  · rw [List.getElem?_range hn]
    by_cases he : p ^ k = n
    · rw [if_pos he, if_pos (by omega)]
      subst he
      show some (f k % m) = some ((tyF p f k (p ^ k) + Ser.mon (p ^ k) (f k) (p ^ k)) % m)
      rw [tyF_low hp f k k (Nat.le_refl _)]
      unfold Ser.mon
      rw [if_pos rfl, Int.zero_add]
    · rw [if_neg he]
      show some (tyF p f k n % m) = some ((tyF p f k n + Ser.mon (p ^ k) (f k) n) % m)
      unfold Ser.mon
      rw [if_neg (fun e => he e.symm), Int.add_zero]
  · rw [List.getElem?_eq_none (show (List.range (d + 1)).length ≤ n by simp; omega)]
    by_cases he : p ^ k = n
    · omega
    · rw [if_neg he]; rfl
theorem tyL_nil (m : Int) (d p : Nat) (f : Nat → Int) : List.replicate (d + 1) 0 = tyL m d p f 0 := by
  unfold tyL Ser.cut
  rw [show (fun n => tyF p f 0 n % m) = fun _ => 0 from funext fun n => Int.zero_emod m, List.map_const', List.length_range]
theorem pow4_bd {p : Nat} (h : p ≤ 7) {i : Nat} (hi : i ≤ 4) (h1 : 1 ≤ p) : 1 ≤ p ^ i ∧ p ^ i ≤ 2401 := by
  refine ⟨Nat.pow_pos h1, ?_⟩
  refine Nat.le_trans (Nat.pow_le_pow_left h i) ?_
  exact Nat.le_trans (Nat.pow_le_pow_right (by omega) hi) (by decide)
theorem numR_nd3 (m : Int) (p : Nat) (l : List Int) (hl : l.length ≤ 3) (n : Nat) : Nmr.numR m p (Ser.co (ndL 3 l)) n = Nmr.numR m p (Ser.co l) n := by
  have : Ser.co (ndL 3 l) = Ser.co l := by
    funext i
    rw [ndL_co]
    split
    · rfl
    · rw [Ser.co_over (by omega)]
  rw [this]
theorem OwnI.of_made {w : World} {base g n : Nat} (hb : base ≤ g) (h : w.heap[g]? = some (.cells (madeCells #[.int .i64 0] n) 2 (0, 0))) (hn : n ≤ maxLen) : OwnI w base (.slice (some ⟨g, 0, none⟩) n n) (List.replicate n 0) := by
  unfold OwnI
  rw [List.length_replicate]
  refine ⟨by simp, .inr ⟨g, n, _, rfl, hb, h, Nat.le_refl _, hn, by rw [size_madeCells]; omega, ?_⟩⟩
  rw [toList_madeCells_one]; simp
theorem made_cell {w : World} {g n i : Nat} {x : Int} (h : w.heap[g]? = some (.cells (madeCells #[.int .i64 0] n) 2 (0, 0))) (hc : w.cell? ⟨g, i, none⟩ = some (.int .i64 x)) (hi : i < n) : x = 0 := by
  have h2 : (madeCells #[Value.int .i64 0] n)[i]? = some (.int .i64 0) := by
    rw [← Array.getElem?_toList, toList_madeCells_one, List.getElem?_replicate, if_pos hi]
  simp only [World.cell?, h] at hc
  change (madeCells #[Value.int .i64 0] n)[i]? = _ at hc
  rw [h2] at hc
  injection hc with hc
  injection hc with _ hc
  exact hc.symm
set_option maxHeartbeats 16000000 in
set_option maxRecDepth 100000 in
theorem sTypicalLogarithm_any (p m d : Int) (A : Option Addr) (c : Nat) (l : List Int) (w : World) (hl : l.length ≤ 1048576) (hr : RI w A l) :
    Calls Try.prog 13 #[.int .i64 p, .int .i64 m, .int .i64 d, .slice A l.length c] w fun x w' => ∃ s, x = .returned (.tuple #[.agg #[.int .i64 (tloM p m d l).1, s], .int .i64 (tloM p m d l).2.2]) ∧ OwnI w' w.heap.size s (tloM p m d l).2.1 ∧ Below w.heap.size w w' := by
  obtain ⟨W, hW⟩ : ∃ W, w.alloc (.cells #[.int .i64 0, .slice none 0 0] 30) = W := ⟨_, rfl⟩
  have hwb : Below w.heap.size w W := by rw [← hW]; exact below_one _ _
  have v3 : Var2 W w.heap.size (.int .i64 0) (.slice none 0 0) := by rw [← hW]; exact Var2.new _ _ _
  have hsz := v3.lt
  have V3 := Lib.hid v3
  have HB := Lib.hid hwb
  have HW := Lib.hid hW
  have HRW := Lib.hid (hr.below hwb)
  have HC := Lib.hid (l09Code_any p m A c l 0 W (by omega) HRW.out)
  have q0 := v3.c0
  have q1 := v3.c1
  have q2 := v3.fz 0
  have q3 := v3.fz 1
  clear v3 hwb hW hr
  by_cases hct : codeT p m l 0 = 0
  · obtain ⟨⟨hm1, hm2⟩, ha, hp, -, k3⟩ := codeT_ok hct
    obtain ⟨P, rfl⟩ := Int.eq_ofNat_of_zero_le (show 0 ≤ p by omega)
    rw [hct] at HC
    by_cases hd : inB d 1 10 = true
    · have h0 : codeTD P m d l = 0 := by unfold codeTD; rw [if_pos hct, if_pos hd]
      obtain ⟨hd1, hd2⟩ := (inB_iff _ _ _).1 hd
      obtain ⟨D, rfl⟩ := Int.eq_ofNat_of_zero_le (show 0 ≤ d by omega)
      have HU := Lib.hid (fun W0 => l01Unit_any m ((P : Int) % m) W0 (Int.emod_nonneg _ (by omega)) (Int.emod_lt_of_pos _ (by omega)) (by omega))
      rw [gcdI_emod _ _ (by omega) (by omega)] at HU
      have HTM := Lib.hid (show (P : Int).tmod m = (P : Int) % m from Int.tmod_eq_emod_of_nonneg (by omega))
      have hm0 : ¬ m = 0 := by omega
      by_cases hg : gcdI (P : Int) m = 1
      · have HA : Hid (tloM P m D l = (m, tyL m D P (fun k => Nmr.num P (Ser.co l) k % m * (invP m P ^ k % m)) (needN P D + 1), 0)) := Lib.hid (by unfold tloM; rw [if_pos h0, if_pos hg, Int.toNat_natCast, Int.toNat_natCast])
        rw [HA.out]
        rw [hg] at HU
        have hp4 : P = 2 ∨ P = 3 ∨ P = 5 ∨ P = 7 := by omega
        have hp7 : P ≤ 7 ∧ 2 ≤ P := by omega
        have hco : ∀ i, 0 ≤ Ser.co l i ∧ Ser.co l i ≤ m - 1 := fun i => by
          by_cases hi : i < l.length
          · unfold allIn at ha
            rw [List.all_eq_true] at ha
            have := ha l[i] (List.getElem_mem hi)
            unfold Ser.co
            rw [List.getElem?_eq_getElem hi]
            exact (inB_iff _ _ _).1 this
          · rw [Ser.co_over (by omega)]; omega
        have HTH := Lib.hid (fun W0 (h : RI W0 A l) => l09Three_any A c l W0 k3 h)
        have HNM := Lib.hid (fun A1 c1 W0 (h : RI W0 A1 (ndL 3 l)) => by
          have := l09Numerators_any P m A1 c1 (ndL 3 l) W0 hm1 (by omega) (by omega) (by omega) (by rw [ndL_length]; omega) (fun i => by
            rw [ndL_co]; split
            · have := hco i; omega
            · omega) h
          rw [ndL_length, numR_nd3 m P l k3] at this
          exact this)
        have HINV := Lib.hid (fun W0 => l01Inv_any m ((P : Int) % m) W0 (Int.emod_nonneg _ (by omega)) (Int.emod_lt_of_pos _ (by omega)) (by omega))
        have hib := invP_bd hm1 P
        have HPOW := Lib.hid (fun (k : Nat) W0 (hk : k ≤ 1000) => l01PowB_any m (invP m P) k W0 hib.1 (by omega) hm1 (by omega) (by omega))
        have HMO := Lib.hid (fun x : Int => (⟨Int.emod_nonneg x (by omega), Int.emod_lt_of_pos x (by omega)⟩ : 0 ≤ x % m ∧ x % m < m))
        have HMU := Lib.hid (fun x y (h : 0 ≤ x ∧ x < m) (h' : 0 ≤ y ∧ y < m) => mulGr h.1 h.2 h'.1 h'.2 (show m ≤ 100000000 by omega))
        have HNE := Lib.hid (fun k (hk : k ≤ 4) => needN_at P (in4 hp4) D (List.mem_range.2 (by omega)) k (List.mem_range.2 (by omega)))
        have hN3 := needN_le3 P (in4 hp4) D (List.mem_range.2 (by omega))
        have HP4 := Lib.hid (fun k (hk : k ≤ 4) => pow4_bd (p := P) hp7.1 hk (by omega))
        have HSET := Lib.hid (fun k (hk : P ^ k ≤ D) => tyL_set m D P (fun k => Nmr.num P (Ser.co l) k % m * (invP m P ^ k % m)) k hp7.2 hk)
        have HNIL := Lib.hid (tyL_nil m D P (fun k => Nmr.num P (Ser.co l) k % m * (invP m P ^ k % m)))
        have HNL := Lib.hid (Nmr.numR_length m P (Ser.co l) (3 + 1))
        have HNC := Lib.hid (fun k (hk : k < 3 + 1) => Nmr.numR_co (m := m) (p := P) (v := Ser.co l) hk)
        have HTL := Lib.hid (fun k => (show (tyL m D P (fun k => Nmr.num P (Ser.co l) k % m * (invP m P ^ k % m)) k).length = D + 1 from Ser.cut_length _ _ _))
        obtain ⟨N, hNN⟩ : ∃ N, needN P D = N := ⟨_, rfl⟩
        rw [hNN] at HNE hN3 ⊢
        have hmk : ∀ W : World, (Instr.makeSlice 22 (.int .i64 ((D : Int) + 1)) (.int .i64 ((D : Int) + 1))).run Try.prog W = .ok (.slice (some ⟨W.heap.size, 0, none⟩) (D + 1) (D + 1)) (W.alloc (.cells (madeCells #[.int .i64 0] (D + 1)) 2)) := by
          intro W
          have := run_make_row' (P := Try.prog) 22 2 (.int .i64 0) 8 Try.underlying22 info64 rfl .i64 .i64 (D + 1) (by omega) (by omega) W
          rwa [show ((D + 1 : Nat) : Int) = (D : Int) + 1 by omega] at this
        have hin := inB_yes hd1 hd2
        clear h0 hct ha hp hg hd hco hNN hp4 HA
        go_enter Try.func13, Try.ntmps13
        go_wp2_with fail
        rw [HW.out]
        refine HC.out.mono ?_
        rintro e w1 ⟨rfl, rfl⟩
        go_wp2_with fail
        refine (l01In_any _ _ _ _).mono ?_
        rintro e w1 ⟨rfl, rfl⟩
        rw [hin]
        go_wp2_with fail
        refine (HU.out _).mono ?_
        rintro e w1 ⟨rfl, rfl⟩
        go_upto_region 8 with fail
        have hwd : IntKind.i64.wrap ((D : Int) + 1) = (D : Int) + 1 := by rw [IntKind.wrap_i64]; omega
        have k0 := below_drew0 W
        clear q0 q1 q2 q3
        have HSA : Hid (∀ W0, Below W.heap.size W W0 → Below W.heap.size W (W0.alloc (.cells (madeCells #[.int .i64 0] (D + 1)) 2))) := Lib.hid (fun W0 h => below_alloc _ h)
        refine region_tilN (fun w' => Below W.heap.size W w') 11 (by kernel_rfl) ?_
        refine tilN_take (i := 0) (dst := some 37) (.int .i64 D) rfl rfl (by kernel_rfl) (by kernel_rfl) (by kernel_rfl) (by kernel_rfl) (fun _ _ _ h => h) (Or.inl ⟨by rfl, ?_⟩) k0 ?_
        · rintro w' z1
          go_simp
        simp only [Act.put, List.setIfInBounds_toArray, List.set_cons_zero, List.set_cons_succ]
        refine tilN_take (i := 1) (dst := some 38) (.int .i64 ((D : Int) + 1)) rfl rfl (by kernel_rfl) (by kernel_rfl) (by kernel_rfl) (by kernel_rfl) (fun _ _ _ h => h) (Or.inl ⟨by rfl, ?_⟩) k0 ?_
        · rintro w' z1
          go_simp
        simp only [Act.put, List.setIfInBounds_toArray, List.set_cons_zero, List.set_cons_succ]
        refine tilN_take (i := 3) (dst := some 40) (.int .i64 P) rfl rfl (by kernel_rfl) (by kernel_rfl) (by kernel_rfl) (by kernel_rfl) (fun _ _ _ h => h) (Or.inl ⟨by rfl, ?_⟩) k0 ?_
        · rintro w' z1
          go_simp
        simp only [Act.put, List.setIfInBounds_toArray, List.set_cons_zero, List.set_cons_succ]
        refine tilN_take (i := 4) (dst := some 41) (.int .i64 m) rfl rfl (by kernel_rfl) (by kernel_rfl) (by kernel_rfl) (by kernel_rfl) (fun _ _ _ h => h) (Or.inl ⟨by rfl, ?_⟩) k0 ?_
        · rintro w' z1
          go_simp
        simp only [Act.put, List.setIfInBounds_toArray, List.set_cons_zero, List.set_cons_succ]
        refine tilN_take (i := 5) (dst := some 42) (.slice A l.length c) rfl rfl (by kernel_rfl) (by kernel_rfl) (by kernel_rfl) (by kernel_rfl) (fun _ _ _ h => h) (Or.inl ⟨by rfl, ?_⟩) k0 ?_
        · rintro w' z1
          go_simp
        simp only [Act.put, List.setIfInBounds_toArray, List.set_cons_zero, List.set_cons_succ]
        refine both_in 2 39 W.heap.size (fun g => .slice (some ⟨g, 0, none⟩) (D + 1) (D + 1)) (madeCells #[.int .i64 0] (D + 1)) 2 k0 ?_
        refine both_step (i := 6) (fun w K h => wpOp_step rfl (fun K' hK' => by go_simp; exact hK' _ _ h)) HSA.out k0.size (by kernel_rfl) (by kernel_rfl) (by kernel_rfl) (by decide) (by decide) (by decide) rfl ?_
        intro v6 x6 hbx6 hsx6 K hK
        simp only [Act.put, List.setIfInBounds_toArray, List.set_cons_zero, List.set_cons_succ]
        go_simp
        (go_at_call 31; with_reducible refine Calls.mono (HTH.out _ (HRW.out.below hsx6)) ?_; rintro x y6 ⟨v, rfl, ho6, hb6⟩; obtain ⟨A6, c6, hv6, -⟩ := ho6.form; subst hv6; rw [ndL_length] at ho6 ⊢; have k6 := below_step hsx6 hb6)
        dsimp only
        refine hK.out _ _ rfl hb6 k6 ?_
        clear hK K
        try simp only [Act.put, List.setIfInBounds_toArray, List.set_cons_zero, List.set_cons_succ]
        refine both_step (i := 7) (fun w K h => wpOp_step rfl (fun K' hK' => by go_simp; exact hK' _ _ h)) HSA.out k6.size (by kernel_rfl) (by kernel_rfl) (by kernel_rfl) (by decide) (by decide) (by decide) rfl ?_
        intro v7 x7 hbx7 hsx7 K hK
        simp only [Act.put, List.setIfInBounds_toArray, List.set_cons_zero, List.set_cons_succ]
        go_simp
        (go_at_call 26; with_reducible refine Calls.mono (HNM.out _ _ _ (ho6.ri.below hbx7)) ?_; rintro x y7 ⟨v, rfl, ho7, hb7⟩; obtain ⟨A7, c7, hv7, -⟩ := ho7.form; subst hv7; rw [HNL.out] at ho7 ⊢; have k7 := below_step hsx7 hb7)
        dsimp only
        refine hK.out _ _ rfl hb7 k7 ?_
        clear hK K
        try simp only [Act.put, List.setIfInBounds_toArray, List.set_cons_zero, List.set_cons_succ]
        refine both_end (fun w K h => wpOp_step rfl (fun K' hK' => by go_simp; exact hK' _ _ h)) HSA.out k7.size (by kernel_rfl) (by decide) ?_
        intro gn xn hgn hbn hsn hzn
        simp only [Act.put, List.setIfInBounds_toArray, List.set_cons_zero, List.set_cons_succ]
        have kn := below_step k7 hbn
        refine tilN_one (i := 8) (by kernel_rfl) rfl (fun K hK => ?_)
        go_simp
        try dsimp only
        refine hK.out _ _ (fun _ => kn) ?_
        clear hK K
        try simp only [Act.put, List.setIfInBounds_toArray, List.set_cons_zero, List.set_cons_succ]
        refine tilN_one (i := 9) (by kernel_rfl) rfl (fun K hK => ?_)
        go_simp
        try dsimp only
        refine hK.out _ _ (fun _ => kn) ?_
        clear hK K
        try simp only [Act.put, List.setIfInBounds_toArray, List.set_cons_zero, List.set_cons_succ]
        refine tilN_one (i := 10) (by kernel_rfl) rfl (fun K hK => ?_)
        go_simp
        try dsimp only
        refine hK.out _ _ (fun _ => kn) ?_
        clear hK K
        try simp only [Act.put, List.setIfInBounds_toArray, List.set_cons_zero, List.set_cons_succ]
        refine tilN_done (by kernel_rfl) ?_
        obtain ⟨g7, o7, e7, -, hc7⟩ := ho7.ri.at 0 (by rw [HNL.out]; omega)
        rw [HNC.out 0 (by omega), Nmr.num_zero, Int.emod_eq_of_lt (by omega) (by omega)] at hc7
        have ho7n := ho7.keep hbn
        obtain ⟨g8, o8, e8, hg8, hc8⟩ := ho7n.ri.at 0 (by rw [HNL.out]; omega)
        rw [HNC.out 0 (by omega), Nmr.num_zero, Int.emod_eq_of_lt (by omega) (by omega)] at hc8
        subst e8
        have ho8 : o8 = 0 := by
          rcases ho7n.2 with ⟨hv, _⟩ | ⟨g9, cap9, cur9, hv, _⟩
          · cases hv
          · injection hv with hv
            injection hv with hv
            injection hv with _ hv
        subst ho8
        have hne : g8 ≠ gn := by
          rintro rfl
          exact absurd (made_cell hzn hc8 (by omega)) (by decide)
        have hout := OwnI.of_made hgn hzn (by unfold maxLen; omega)
        rw [HNIL.out] at hout
        have hz67 : W.heap.size ≤ x7.heap.size := hsx7.size
        have HO := Lib.hid hout
        have HON := Lib.hid (ho7n.more hz67)
        have HB9 := Lib.hid kn
        clear hout ho7n ho7 e7 hc7 hc8 hzn hsn hbn k7 hb7 hsx7 hbx7 k6 ho6 hb6 hsx6 hbx6 kn k0 HSA HTH HNM HC HU HRW HNIL hmk
        go_wp2
        go_loopw [13, 14] (fun s13 s14 wr => ∃ k : Nat, k ≤ N + 1 ∧ s14 = .int .i64 k ∧ s13 = .int .i64 (P ^ k : Nat) ∧ OwnI wr W.heap.size (.slice (some ⟨gn, 0, none⟩) (D + 1) (D + 1)) (tyL m D P (fun k => Nmr.num P (Ser.co l) k % m * (invP m P ^ k % m)) k) ∧ OwnI wr W.heap.size (.slice (some ⟨g8, 0, none⟩) 4 c7) (Nmr.numR m P (Ser.co l) (3 + 1)) ∧ Below W.heap.size W wr) (fun _ s14 _ => N + 2 - (intOf s14).toNat)
        case atStart => exact ⟨0, Nat.zero_le _, rfl, rfl, HO.out, HON.out, HB9.out⟩
        case round =>
          clear HO HON HB9
          obtain ⟨k, hk, rfl, rfl, ho, hon, hb⟩ := hrel
          have hpb := HP4.out k (by omega)
          have hne4 := HNE.out k (by omega)
          have HO := Lib.hid ho
          have HON := Lib.hid hon
          have HB9 := Lib.hid hb
          by_cases hkN : k ≤ N
          · have hKD : P ^ k ≤ D := by
              by_cases hk0 : k = 0
              · subst hk0; rw [Nat.pow_zero]; omega
              · exact (hne4.1 ⟨by omega, hkN⟩).2
            have hset := HSET.out k hKD
            obtain ⟨g1, o1, e1, hg1, hc1⟩ := hon.ri.at k (by rw [HNL.out]; omega)
            injection e1 with e1
            injection e1 with e1a e1b
            subst e1a e1b
            rw [HNC.out k (by omega), Nat.zero_add] at hc1
            obtain ⟨_, hgn2, o3, o4⟩ := ho.cells
            have hd1 := o3 (P ^ k) (by rw [HTL.out]; omega)
            have hf1 := o4 (P ^ k)
            obtain ⟨y, hy⟩ : ∃ y, (tyL m D P (fun k => Nmr.num P (Ser.co l) k % m * (invP m P ^ k % m)) k)[P ^ k]?.getD 0 = y := ⟨_, rfl⟩
            rw [hy] at hd1
            have hs := ho.set (P ^ k) ((Nmr.num P (Ser.co l) k % m * (invP m P ^ k % m)) % m)
            rw [hset] at hs
            have hn1 := HMO.out (Nmr.num P (Ser.co l) k)
            have hw1 := HMO.out (invP m P ^ k)
            have hmul := HMU.out _ _ hn1 hw1
            have HPK := Lib.hid (fun W0 => HPOW.out k W0 (by omega))
            obtain ⟨Q, hQ⟩ : ∃ Q, Nmr.num P (Ser.co l) k % m = Q := ⟨_, rfl⟩
            obtain ⟨V, hV⟩ : ∃ V, invP m P ^ k % m = V := ⟨_, rfl⟩
            obtain ⟨K, hK9⟩ : ∃ K, P ^ k = K := ⟨_, rfl⟩
            rw [hQ] at hc1 hn1 hmul hs
            rw [hV] at hw1 hmul hs HPK
            rw [hK9] at hKD hd1 hf1 hs hpb
            rw [hK9]
            have HK9 := Lib.hid hK9
            have j1 : (k : Int) < 4 := by omega
            have j2 : (K : Int) ≤ (D : Int) := by omega
            have j3 : (0 : Int) ≤ (k : Int) := by omega
            have j4 : (K : Int) < (D : Int) + 1 := by omega
            have j5 : (0 : Int) ≤ (K : Int) := by omega
            have hkp : 0 ≤ (K : Int) * (P : Int) ∧ (K : Int) * (P : Int) ≤ 70 := by
              refine ⟨Int.mul_nonneg (by omega) (by omega), ?_⟩
              have := Int.mul_le_mul (show (K : Int) ≤ 10 by omega) (show (P : Int) ≤ 7 by omega) (by omega) (by omega)
              omega
            have HKP := Lib.hid (show (K : Int) * (P : Int) = ((P ^ (k + 1) : Nat) : Int) by rw [Nat.pow_succ, HK9.out, Int.natCast_mul])
            have hwm : IntKind.i64.wrap (Q * V) = Q * V := by rw [IntKind.wrap_i64]; omega
            have HTQ := Lib.hid (show (Q * V).tmod m = Q * V % m from Int.tmod_eq_emod_of_nonneg hmul.1)
            obtain ⟨R, hR⟩ : ∃ R, (P : Int) % m = R := ⟨_, rfl⟩
            have HTR := Lib.hid (HTM.out.trans hR)
            have HIR := Lib.hid (fun W0 => by have := HINV.out W0; rw [hR] at this; exact this)
            have HPV := Lib.hid (fun W0 => by have := HPK.out W0; rw [show invP m P = (egI m R).2 by unfold invP; rw [hR]] at this; exact this)
            have HKS := Lib.hid (fun W0 (h : Below wr.heap.size wr W0) => (⟨(h.cell (p := ⟨g8, k, none⟩) hg1).trans hc1, (h.cell (p := ⟨gn, K, none⟩) hgn2).trans hd1⟩ : W0.cell? ⟨g8, k, none⟩ = some (.int .i64 Q) ∧ W0.cell? ⟨gn, K, none⟩ = some (.int .i64 y)))
            have HSK0 := Lib.hid (HKS.out _ (below_drew0 wr))
            have HSS := Lib.hid hs
            clear hy o3 o4 hs ho hon hb hset hQ hV hK9 hR hc1 hd1 HPK HNE HP4 HSET HNC HTL HMO HMU HPOW HNL HINV
            go_upto_region 12 with fail
            have wb := below_drew0 wr
            refine region_tilN (fun w' => w'.cell? ⟨g8, k, none⟩ = some (.int .i64 Q) ∧ w'.cell? ⟨gn, K, none⟩ = some (.int .i64 y)) 18 (by kernel_rfl) ?_
            refine tilN_take (i := 0) (dst := some 56) (.slice (some ⟨gn, 0, none⟩) (D + 1) (D + 1)) rfl rfl (by kernel_rfl) (by kernel_rfl) (by kernel_rfl) (by kernel_rfl) (fun _ _ _ h => h) (Or.inl ⟨by rfl, ?_⟩) HSK0.out ?_
            · rintro w' ⟨z1, z2⟩
              go_simp
            simp only [Act.put, List.setIfInBounds_toArray, List.set_cons_zero, List.set_cons_succ]
            refine tilN_take (i := 1) (dst := some 57) (.int .i64 K) rfl rfl (by kernel_rfl) (by kernel_rfl) (by kernel_rfl) (by kernel_rfl) (fun _ _ _ h => h) (Or.inl ⟨by rfl, ?_⟩) HSK0.out ?_
            · rintro w' ⟨z1, z2⟩
              go_simp
            simp only [Act.put, List.setIfInBounds_toArray, List.set_cons_zero, List.set_cons_succ]
            refine tilN_take (i := 2) (dst := some 58) (.slice (some ⟨g8, 0, none⟩) 4 c7) rfl rfl (by kernel_rfl) (by kernel_rfl) (by kernel_rfl) (by kernel_rfl) (fun _ _ _ h => h) (Or.inl ⟨by rfl, ?_⟩) HSK0.out ?_
            · rintro w' ⟨z1, z2⟩
              go_simp
            simp only [Act.put, List.setIfInBounds_toArray, List.set_cons_zero, List.set_cons_succ]
            refine tilN_take (i := 3) (dst := some 59) (.int .i64 k) rfl rfl (by kernel_rfl) (by kernel_rfl) (by kernel_rfl) (by kernel_rfl) (fun _ _ _ h => h) (Or.inl ⟨by rfl, ?_⟩) HSK0.out ?_
            · rintro w' ⟨z1, z2⟩
              go_simp
            simp only [Act.put, List.setIfInBounds_toArray, List.set_cons_zero, List.set_cons_succ]
            refine tilN_take (i := 4) (dst := some 60) (.pointer (some ⟨g8, k, none⟩)) rfl rfl (by kernel_rfl) (by kernel_rfl) (by kernel_rfl) (by kernel_rfl) (fun _ _ _ h => h) (Or.inl ⟨by rfl, ?_⟩) HSK0.out ?_
            · rintro w' ⟨z1, z2⟩
              go_simp
            simp only [Act.put, List.setIfInBounds_toArray, List.set_cons_zero, List.set_cons_succ]
            refine tilN_take (i := 5) (dst := some 61) (.int .i64 Q) rfl rfl (by kernel_rfl) (by kernel_rfl) (by kernel_rfl) (by kernel_rfl) (fun _ _ _ h => h) (Or.inl ⟨by rfl, ?_⟩) HSK0.out ?_
            · rintro w' ⟨z1, z2⟩
              go_simp
            simp only [Act.put, List.setIfInBounds_toArray, List.set_cons_zero, List.set_cons_succ]
            refine tilN_take (i := 6) (dst := some 62) (.int .i64 m) rfl rfl (by kernel_rfl) (by kernel_rfl) (by kernel_rfl) (by kernel_rfl) (fun _ _ _ h => h) (Or.inl ⟨by rfl, ?_⟩) HSK0.out ?_
            · rintro w' ⟨z1, z2⟩
              go_simp
            simp only [Act.put, List.setIfInBounds_toArray, List.set_cons_zero, List.set_cons_succ]
            refine tilN_take (i := 7) (dst := some 63) (.int .i64 m) rfl rfl (by kernel_rfl) (by kernel_rfl) (by kernel_rfl) (by kernel_rfl) (fun _ _ _ h => h) (Or.inl ⟨by rfl, ?_⟩) HSK0.out ?_
            · rintro w' ⟨z1, z2⟩
              go_simp
            simp only [Act.put, List.setIfInBounds_toArray, List.set_cons_zero, List.set_cons_succ]
            refine tilN_take (i := 8) (dst := some 64) (.int .i64 P) rfl rfl (by kernel_rfl) (by kernel_rfl) (by kernel_rfl) (by kernel_rfl) (fun _ _ _ h => h) (Or.inl ⟨by rfl, ?_⟩) HSK0.out ?_
            · rintro w' ⟨z1, z2⟩
              go_simp
            simp only [Act.put, List.setIfInBounds_toArray, List.set_cons_zero, List.set_cons_succ]
            refine tilN_take (i := 9) (dst := some 65) (.int .i64 m) rfl rfl (by kernel_rfl) (by kernel_rfl) (by kernel_rfl) (by kernel_rfl) (fun _ _ _ h => h) (Or.inl ⟨by rfl, ?_⟩) HSK0.out ?_
            · rintro w' ⟨z1, z2⟩
              go_simp
            simp only [Act.put, List.setIfInBounds_toArray, List.set_cons_zero, List.set_cons_succ]
            refine tilN_take (i := 10) (dst := some 66) (.int .i64 ((P : Int).tmod m)) rfl rfl (by kernel_rfl) (by kernel_rfl) (by kernel_rfl) (by kernel_rfl) (fun _ _ _ h => h) (Or.inl ⟨by rfl, ?_⟩) HSK0.out ?_
            · rintro w' ⟨z1, z2⟩
              go_simp
            simp only [Act.put, List.setIfInBounds_toArray, List.set_cons_zero, List.set_cons_succ]
            rw [HTR.out]
            refine tilN_take (i := 12) (dst := some 68) (.int .i64 k) rfl rfl (by kernel_rfl) (by kernel_rfl) (by kernel_rfl) (by kernel_rfl) (fun _ _ _ h => h) (Or.inl ⟨by rfl, ?_⟩) HSK0.out ?_
            · rintro w' ⟨z1, z2⟩
              go_simp
            simp only [Act.put, List.setIfInBounds_toArray, List.set_cons_zero, List.set_cons_succ]
            refine tilN_take (i := 15) (dst := some 71) (.int .i64 m) rfl rfl (by kernel_rfl) (by kernel_rfl) (by kernel_rfl) (by kernel_rfl) (fun _ _ _ h => h) (Or.inl ⟨by rfl, ?_⟩) HSK0.out ?_
            · rintro w' ⟨z1, z2⟩
              go_simp
            simp only [Act.put, List.setIfInBounds_toArray, List.set_cons_zero, List.set_cons_succ]
            refine tilN_one (i := 11) (by kernel_rfl) rfl (fun K hK => ?_)
            go_simp
            (go_at_call 33; with_reducible refine Calls.mono (HIR.out _) ?_; rintro e w5 ⟨rfl, rfl⟩)
            dsimp only
            refine hK.out _ _ (fun _ => HSK0.out) ?_
            clear hK K
            try simp only [Act.put, List.setIfInBounds_toArray, List.set_cons_zero, List.set_cons_succ]
            refine tilN_one (i := 13) (by kernel_rfl) rfl (fun K hK => ?_)
            go_simp
            (go_at_call 32; with_reducible refine Calls.mono (HPV.out _) ?_; rintro e w6 ⟨rfl, rfl⟩)
            dsimp only
            refine hK.out _ _ (fun _ => HSK0.out) ?_
            clear hK K
            try simp only [Act.put, List.setIfInBounds_toArray, List.set_cons_zero, List.set_cons_succ]
            refine tilN_take (i := 14) (dst := some 70) (.int .i64 (Q * V)) rfl rfl (by kernel_rfl) (by kernel_rfl) (by kernel_rfl) (by kernel_rfl) (fun _ _ _ h => h) (Or.inl ⟨by rfl, ?_⟩) HSK0.out ?_
            · rintro w' ⟨z1, z2⟩
              go_simp
            simp only [Act.put, List.setIfInBounds_toArray, List.set_cons_zero, List.set_cons_succ]
            refine tilN_take (i := 16) (dst := some 72) (.int .i64 ((Q * V).tmod m)) rfl rfl (by kernel_rfl) (by kernel_rfl) (by kernel_rfl) (by kernel_rfl) (fun _ _ _ h => h) (Or.inl ⟨by rfl, ?_⟩) HSK0.out ?_
            · rintro w' ⟨z1, z2⟩
              go_simp
            simp only [Act.put, List.setIfInBounds_toArray, List.set_cons_zero, List.set_cons_succ]
            rw [HTQ.out]
            refine tilN_take (i := 17) (dst := some 73) (.pointer (some ⟨gn, K, none⟩)) rfl rfl (by kernel_rfl) (by kernel_rfl) (by kernel_rfl) (by kernel_rfl) (fun _ _ _ h => h) (Or.inl ⟨by rfl, ?_⟩) HSK0.out ?_
            · rintro w' ⟨z1, z2⟩
              go_simp
            simp only [Act.put, List.setIfInBounds_toArray, List.set_cons_zero, List.set_cons_succ]
            have hg9 : wr.drew.frozen? ⟨gn, K, none⟩ = false := hf1
            have hd9 := HSK0.out.2
            refine tilN_one (i := 18) (by kernel_rfl) rfl (fun K hK => ?_)
            go_simp
            refine hK.out _ _ (fun hlt => absurd hlt (by decide)) ?_
            clear hK K
            refine tilN_done (by kernel_rfl) ?_
            obtain ⟨Y, hY⟩ : ∃ Y, (wr.setCell ⟨gn, K, none⟩ (.int .i64 (Q * V % m))).drew = Y := ⟨_, rfl⟩
            have no : OwnI Y W.heap.size (.slice (some ⟨gn, 0, none⟩) (D + 1) (D + 1)) (tyL m D P (fun k => Nmr.num P (Ser.co l) k % m * (invP m P ^ k % m)) (k + 1)) := by rw [← hY]; exact OwnI.drew HSS.out
            have nn : OwnI Y W.heap.size (.slice (some ⟨g8, 0, none⟩) 4 c7) (Nmr.numR m P (Ser.co l) (3 + 1)) := by rw [← hY]; exact OwnI.drew (HON.out.other (grown_setCell wr gn K (.int .i64 (Q * V % m))) (.inr (by intro e; injection e with e; exact hne e)))
            have nb : Below W.heap.size W Y := by rw [← hY]; exact below_step (HB9.out.setCell (p := ⟨gn, K, none⟩) hgn (.int .i64 (Q * V % m))) (below_drew0 _)
            have HY := Lib.hid hY
            have NO := Lib.hid no
            have NN := Lib.hid nn
            have NB := Lib.hid nb
            clear hY no nn nb hg9 hd9 HSS HSK0 HKS HPV HIR HTR HTQ
            rw [HY.out]
            go_wp2
            go_roundw
            case rel => exact ⟨k + 1, by omega, by go_num, by rw [HKP.out], NO.out, NN.out, NB.out⟩
            case measure => simp only [intOf]; omega
          · obtain rfl : k = N + 1 := by omega
            obtain ⟨L, hL⟩ : ∃ L, tyL m D P (fun k => Nmr.num P (Ser.co l) k % m * (invP m P ^ k % m)) (N + 1) = L := ⟨_, rfl⟩
            have hLl : L.length = D + 1 := by rw [← hL]; exact HTL.out _
            rw [hL] at ho
            have HLO := Lib.hid ho
            have HLq := Lib.hid hL
            obtain ⟨K, hK9⟩ : ∃ K, P ^ (N + 1) = K := ⟨_, rfl⟩
            have hKD : N + 1 < 4 → ¬ K ≤ D := by
              intro h4 hle
              rw [← hK9] at hle
              have := (hne4.2 ⟨by omega, hle⟩).2
              omega
            rw [hK9]
            have HMK := Lib.hid (fun W0 => l02Make_any m (some ⟨gn, 0, none⟩) (D + 1) (D + 1) W0)
            clear hL hK9 hne4 hpb ho hon HNE HP4 HSET HNC HTL HMO HMU HPOW HNL HINV HTM
            by_cases h4 : N + 1 < 4
            · have j1 : ((N + 1 : Nat) : Int) < 4 := by omega
              have j2 : ¬ (K : Int) ≤ (D : Int) := by have := hKD h4; omega
              clear hKD
              go_wp2_with fail
              refine (HMK.out _).mono ?_
              rintro e w4 ⟨rfl, hb4⟩
              have hb5 := below_step HB9.out hb4
              have hv := V3.out.keep hb5
              have q0 := hv.c0
              have q1 := hv.c1
              have q2 := hv.fz 0
              have q3 := hv.fz 1
              obtain ⟨f0, f1, f2, f3⟩ := fin_var (w := w) hv (HLO.out.keep hb4) hsz (Nat.le_refl _) (below_step HB.out hb5) (.int .i64 m) (.slice (some ⟨gn, 0, none⟩) (D + 1) (D + 1))
              rw [← HLq.out] at f2
              have F2 := Lib.hid f2
              have F3 := Lib.hid f3
              clear f2 f3 hv hb5 hb4
              go_wp2
              exact bodyPost_ret (v := .tuple #[.agg #[.int .i64 m, .slice (some ⟨gn, 0, none⟩) (D + 1) (D + 1)], .int .i64 0]) (by simp [results, Try.results13, go_sem, f0, f1]) rfl ⟨_, rfl, F2.out, F3.out⟩
            · have j1 : ¬ ((N + 1 : Nat) : Int) < 4 := by omega
              clear hKD
              go_wp2_with fail
              refine (HMK.out _).mono ?_
              rintro e w4 ⟨rfl, hb4⟩
              have hb5 := below_step HB9.out hb4
              have hv := V3.out.keep hb5
              have q0 := hv.c0
              have q1 := hv.c1
              have q2 := hv.fz 0
              have q3 := hv.fz 1
              obtain ⟨f0, f1, f2, f3⟩ := fin_var (w := w) hv (HLO.out.keep hb4) hsz (Nat.le_refl _) (below_step HB.out hb5) (.int .i64 m) (.slice (some ⟨gn, 0, none⟩) (D + 1) (D + 1))
              rw [← HLq.out] at f2
              have F2 := Lib.hid f2
              have F3 := Lib.hid f3
              clear f2 f3 hv hb5 hb4
              go_wp2
              exact bodyPost_ret (v := .tuple #[.agg #[.int .i64 m, .slice (some ⟨gn, 0, none⟩) (D + 1) (D + 1)], .int .i64 0]) (by simp [results, Try.results13, go_sem, f0, f1]) rfl ⟨_, rfl, F2.out, F3.out⟩
      · have HA : Hid (tloM P m D l = (0, [], 5)) := Lib.hid (by unfold tloM; rw [if_pos h0, if_neg hg])
        rw [HA.out]
        have g1 : (gcdI (P : Int) m == 1) = false := by simpa using hg
        rw [g1] at HU
        obtain ⟨f0, f1, f2, f3⟩ := fin_var (w := w) (base := W.heap.size) V3.out (OwnI.nil _ _) hsz (by omega) HB.out (.int .i64 0) (.slice none 0 0)
        have F2 := Lib.hid f2
        have F3 := Lib.hid f3
        clear f2 f3 h0 hct ha hp hg g1 hd
        have hin := inB_yes hd1 hd2
        go_enter Try.func13, Try.ntmps13
        go_wp2_with fail
        rw [HW.out]
        refine HC.out.mono ?_
        rintro e w1 ⟨rfl, rfl⟩
        go_wp2_with fail
        refine (l01In_any _ _ _ _).mono ?_
        rintro e w1 ⟨rfl, rfl⟩
        rw [hin]
        go_wp2_with fail
        refine (HU.out _).mono ?_
        rintro e w1 ⟨rfl, rfl⟩
        go_wp2
        exact bodyPost_ret (v := .tuple #[.agg #[.int .i64 0, .slice none 0 0], .int .i64 5]) (by simp [results, Try.results13, go_sem, f0, f1]) rfl ⟨_, rfl, F2.out, F3.out⟩
    · have h0 : codeTD P m d l = 2 := by unfold codeTD; rw [if_pos hct, if_neg hd]
      have HA : Hid (tloM P m d l = (0, [], 2)) := Lib.hid (by unfold tloM; rw [if_neg (by omega), h0])
      rw [HA.out]
      have hd' : inB d 1 10 = false := by simpa using hd
      obtain ⟨f0, f1, f2, f3⟩ := fin_var (w := w) (base := W.heap.size) V3.out (OwnI.nil _ _) hsz (by omega) HB.out (.int .i64 0) (.slice none 0 0)
      have F2 := Lib.hid f2
      have F3 := Lib.hid f3
      clear f2 f3 h0 hct ha hp hd
      go_enter Try.func13, Try.ntmps13
      go_wp2_with fail
      rw [HW.out]
      refine HC.out.mono ?_
      rintro e w1 ⟨rfl, rfl⟩
      go_wp2_with fail
      refine (l01In_any _ _ _ _).mono ?_
      rintro e w1 ⟨rfl, rfl⟩
      rw [hd']
      go_wp2
      exact bodyPost_ret (v := .tuple #[.agg #[.int .i64 0, .slice none 0 0], .int .i64 2]) (by simp [results, Try.results13, go_sem, f0, f1]) rfl ⟨_, rfl, F2.out, F3.out⟩
  · have h0 : codeTD p m d l = codeT p m l 0 := by unfold codeTD; rw [if_neg hct]
    have HA : Hid (tloM p m d l = (0, [], codeT p m l 0)) := Lib.hid (by unfold tloM; rw [h0, if_neg hct])
    rw [HA.out]
    obtain ⟨n1, n2⟩ := ne_facts hct
    obtain ⟨f0, f1, f2, f3⟩ := fin_var (w := w) (base := W.heap.size) V3.out (OwnI.nil _ _) hsz (by omega) HB.out (.int .i64 0) (.slice none 0 0)
    have F2 := Lib.hid f2
    have F3 := Lib.hid f3
    clear f2 f3 h0 hct
    go_enter Try.func13, Try.ntmps13
    go_wp2_with fail
    rw [HW.out]
    refine HC.out.mono ?_
    rintro e w1 ⟨rfl, rfl⟩
    go_wp2
    exact bodyPost_ret (v := .tuple #[.agg #[.int .i64 0, .slice none 0 0], .int .i64 (codeT p m l 0)]) (by simp [results, Try.results13, go_sem, f0, f1]) rfl ⟨_, rfl, F2.out, F3.out⟩

end Go.Proofs.Ytakdmnecllcmnaa

