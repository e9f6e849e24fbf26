/- Texts of contracts, joined. -/
import Derived.Test.YtilfjhnkjdfcoabMgac
import Derived.StillTailTactics
import Derived.Test.YtilfjhnkjdfcoabMgaa
import Derived.Test.YtilfjhnkjdfcoabMgab
import Derived.ProofKit
import Derived.OpenShut
import Derived.ChangeSame
import Derived.Deep.Matrix
/- Contracts of CoordinatePlane, of the program and of the model. -/
namespace Go.Proofs.Ytilfjhnkjdfcoab
open Go.RowKit Go.WideShapes Go.ChangeShapes Go.ChangeAt

/-- the table of a coordinate -/
def corT (m : Int) (d : Nat) (k : Int) : List (List Int) := Pl.tab m d (gosF (Ser.cut m d (Ser.mon 1 1)) k)
/-- the model of CoordinatePlane -/
def corP (m d k : Int) : Int × List (List Int) × Int :=
  if isM m = true then (if inB d 1 10 = true ∧ inB k 0 1 = true then (m, corT m d.toNat k, 0) else (0, [], 2)) else (0, [], 1)
theorem corP_len (m d k : Int) : szT (corP m d k).2.1 ≤ 1048576 := by
  unfold corP
  by_cases hm : isM m = true
  · rw [if_pos hm]
    obtain ⟨m1, m2⟩ := (isM_iff m).1 hm
    by_cases h : inB d 1 10 = true ∧ inB k 0 1 = true
    · rw [if_pos h]
      obtain ⟨d1, d2⟩ := (inB_iff _ _ _).1 h.1
      exact szT_ok (Pl.Ok.of_tab m1 m2 (by omega) (by omega) _)
    · rw [if_neg h]; exact Nat.zero_le _
  · rw [if_neg hm]; exact Nat.zero_le _
theorem var0 (w : World) : ∃ W, w.alloc (.cells #[.int .i64 0, .slice none 0 0] 35) = W ∧ VarC 35 W w.heap.size #[.int .i64 0, .slice none 0 0] ∧ Below w.heap.size w W :=
  ⟨_, rfl, VarC.new _ _ _, below_one _ _⟩
end Go.Proofs.Ytilfjhnkjdfcoab

/- Contracts of the chapter of standard laws: codes, the frame of all laws. -/
namespace Go.Proofs.Ytilfjhnkjdfcoab
open Go Go.RowKit Go.WideShapes Go.ChangeShapes Go.ChangeAt

/-- modulus, degree and parameters are in their ranges -/
def kindB (m d : Int) (l : List Int) : Bool := isM m && (inB d 1 10 && allIn 0 (m - 1) l)
def codeSt (m d : Int) (l : List Int) : Int := if kindB m d l = true then 0 else 2
theorem kind_iff {m d : Int} {l : List Int} (h : kindB m d l = true) : isM m = true ∧ inB d 1 10 = true ∧ allIn 0 (m - 1) l = true := by
  unfold kindB at h
  rw [Bool.and_eq_true, Bool.and_eq_true] at h
  exact h
theorem kind_no {m d : Int} {l : List Int} (h : ¬ kindB m d l = true) : codeSt m d l = 2 := by unfold codeSt; rw [if_neg h]
theorem kind_yes {m d : Int} {l : List Int} (h : kindB m d l = true) : codeSt m d l = 0 := by unfold codeSt; rw [if_pos h]
theorem codeOfStandard_any (m d : Int) (A : Option Addr) (c : Nat) (l : List Int) (w : World) (hl : l.length ≤ 9223372036854775807) (hr : RI w A l) :
    Calls Try.prog 56 #[.int .i64 m, .int .i64 d, .slice A l.length c] w fun e w' => e = .returned (.int .i64 (codeSt m d l)) ∧ w = w' := by
  have HC := Lib.hid (codeOfNumbers_any m A c l w hl hr)
  have HI := Lib.hid (fun W0 => isWithin_any d 1 10 W0)
  by_cases h0 : codeN m l = 0
  · rw [h0] at HC
    by_cases hd : inB d 1 10 = true
    · rw [hd] at HI
      have HE : Hid (codeSt m d l = 0) := Lib.hid (kind_yes (by
        unfold codeN at h0
        by_cases hm : isM m = true
        · rw [if_pos hm] at h0
          by_cases ha : allIn 0 (m - 1) l = true
          · unfold kindB; rw [hm, hd, ha]; rfl
          · rw [if_neg ha] at h0; exact absurd h0 (by decide)
        · rw [if_neg hm] at h0; exact absurd h0 (by decide)))
      clear hd h0
      go_enter Try.func56, Try.ntmps56
      go_wp2_with fail
      refine HC.out.mono ?_
      rintro e w' ⟨rfl, rfl⟩
      go_wp2_with fail
      refine (HI.out _).mono ?_
      rintro e w' ⟨rfl, rfl⟩
      go_wp2
      go_ret
      exact ⟨ret_int HE.out.symm, rfl⟩
    · have hd' : inB d 1 10 = false := by simpa using hd
      rw [hd'] at HI
      have HE : Hid (codeSt m d l = 2) := Lib.hid (kind_no (fun h => hd (kind_iff h).2.1))
      clear hd hd' h0
      go_enter Try.func56, Try.ntmps56
      go_wp2_with fail
      refine HC.out.mono ?_
      rintro e w' ⟨rfl, rfl⟩
      go_wp2_with fail
      refine (HI.out _).mono ?_
      rintro e w' ⟨rfl, rfl⟩
      go_wp2
      go_ret
      exact ⟨ret_int HE.out.symm, rfl⟩
  · have HE : Hid (codeSt m d l = 2) := Lib.hid (kind_no (fun h => h0 (by obtain ⟨h1, _, h3⟩ := kind_iff h; unfold codeN; rw [if_pos h1, if_pos h3])))
    obtain ⟨X, hX⟩ : ∃ X, codeN m l = X := ⟨_, rfl⟩
    rw [hX] at HC h0
    obtain ⟨n1, n2⟩ := ne_facts h0
    clear hX
    go_enter Try.func56, Try.ntmps56
    go_wp2_with fail
    refine HC.out.mono ?_
    rintro e w' ⟨rfl, rfl⟩
    go_wp2
    go_ret
    exact ⟨ret_int HE.out.symm, rfl⟩
set_option maxHeartbeats 1000000 in
theorem l08Kind_any (m d : Int) (A : Option Addr) (c : Nat) (l : List Int) (w : World) (hl : l.length ≤ 9223372036854775807) (hr : RI w A l) :
    Calls Try.prog 54 #[.int .i64 m, .int .i64 d, .slice A l.length c] w fun e w' => e = .returned (.bool (kindB m d l)) ∧ w = w' := by
  have HM := Lib.hid (fun W0 => l01In_any m 2 10000 W0)
  have HI := Lib.hid (fun W0 => l01In_any d 1 10 W0)
  by_cases hm : isM m = true
  · obtain ⟨m1, m2⟩ := (isM_iff m).1 hm
    have hm' : inB m 2 10000 = true := hm
    rw [hm'] at HM
    by_cases hd : inB d 1 10 = true
    · rw [hd] at HI
      have HE : Hid (kindB m d l = allIn 0 (m - 1) l) := Lib.hid (by unfold kindB; rw [hm, hd]; rfl)
      rw [HE.out]
      clear HE hm hd hm'
      go_enter Try.func54, Try.ntmps54
      go_wp2_with fail
      refine (HM.out _).mono ?_
      rintro e w' ⟨rfl, rfl⟩
      go_wp2_with fail
      refine (HI.out _).mono ?_
      rintro e w' ⟨rfl, rfl⟩
      go_wp2
      go_loop [7] (fun i => ∃ k : Nat, k ≤ l.length ∧ i = .int .i64 k ∧ allIn 0 (m - 1) (l.take k) = true) (fun i => l.length - (intOf i).toNat)
      case atStart => exact ⟨0, Nat.zero_le _, rfl, rfl⟩
      case round =>
        obtain ⟨k, hk, rfl, hall⟩ := hrel
        have HA := Lib.hid hall
        clear hall
        by_cases hlt : k < l.length
        · obtain ⟨b, off, rfl, hb, hc⟩ := hr (by rintro rfl; simp at hlt)
          have hck := hc k hlt
          clear hc hr
          obtain ⟨x, hx⟩ : ∃ x, l[k]?.getD 0 = x := ⟨_, rfl⟩
          rw [hx] at hck
          have HX := Lib.hid hx
          clear hx
          by_cases hin : inB x 0 (m - 1) = true
          · go_wp2_with (go_at_call 95; refine (l01In_any _ _ _ _).mono ?_; rintro e w' ⟨rfl, rfl⟩)
            go_round
            case rel => exact ⟨k + 1, by omega, by go_num, by rw [allIn_take_succ _ _ _ _ hlt, HA.out, HX.out, hin]; rfl⟩
            case measure => simp [intOf]; omega
          · have hin' : inB x 0 (m - 1) = false := by simpa using hin
            clear hin
            go_wp2_with (go_at_call 95; refine (l01In_any _ _ _ _).mono ?_; rintro e w' ⟨rfl, rfl⟩)
            go_ret
            exact ⟨ret_bool (by rw [allIn_split _ _ _ _ hlt, HX.out, hin']; simp), rfl⟩
        · go_wp2
          go_ret
          exact ⟨ret_bool (by have := HA.out; rw [List.take_of_length_le (by omega)] at this; rw [this]), rfl⟩
    · have hd' : inB d 1 10 = false := by simpa using hd
      rw [hd'] at HI
      have HE : Hid (kindB m d l = false) := Lib.hid (by unfold kindB; rw [hd']; simp)
      rw [HE.out]
      clear hm hd hd' hm'
      go_enter Try.func54, Try.ntmps54
      go_wp2_with fail
      refine (HM.out _).mono ?_
      rintro e w' ⟨rfl, rfl⟩
      go_wp2_with fail
      refine (HI.out _).mono ?_
      rintro e w' ⟨rfl, rfl⟩
      go_wp2
      go_ret
      exact ⟨rfl, rfl⟩
  · have hm' : inB m 2 10000 = false := Bool.eq_false_iff.2 hm
    rw [hm'] at HM
    have HE : Hid (kindB m d l = false) := Lib.hid (by unfold kindB; rw [show isM m = false from hm']; rfl)
    rw [HE.out]
    clear hm hm'
    go_enter Try.func54, Try.ntmps54
    go_wp2_with fail
    refine (HM.out _).mono ?_
    rintro e w' ⟨rfl, rfl⟩
    go_wp2
    go_ret
    exact ⟨rfl, rfl⟩
/-- the model of a standard law -/
def stP (m d : Int) (l : List Int) (T : Nat → List (List Int)) : Int × List (List Int) × Int := if kindB m d l = true then (m, T d.toNat, 0) else (0, [], 2)
theorem stP_len (m d : Int) (l : List Int) (T : Nat → List (List Int)) (h : ∀ e, 2 ≤ m → m ≤ 10000 → 1 ≤ e → e ≤ 10 → Pl.Ok m e (T e)) : szT (stP m d l T).2.1 ≤ 1048576 := by
  unfold stP
  by_cases hk : kindB m d l = true
  · rw [if_pos hk]
    obtain ⟨h1, h2, -⟩ := kind_iff hk
    obtain ⟨m1, m2⟩ := (isM_iff m).1 h1
    obtain ⟨d1, d2⟩ := (inB_iff _ _ _).1 h2
    exact szT_ok (h d.toNat m1 m2 (by omega) (by omega))
  · rw [if_neg hk]; exact Nat.zero_le _
theorem corT_x {m : Int} {d : Nat} : Pl.Eq m d (Pl.pc (corT m d 0)) (Pl.mon2 1 0) := by
  intro i j h
  unfold corT gosF
  rw [Pl.pc_tab h, Int.emod_emod, if_pos rfl]
  unfold Pl.mon2
  by_cases hj : j = 0
  · rw [if_pos hj, Ser.co_cut (by omega)]
    unfold Ser.mon
    by_cases hi : i = 1
    · rw [if_pos hi, if_pos ⟨hi, hj⟩, Int.emod_emod]
    · rw [if_neg hi, if_neg (fun e => hi e.1), Int.emod_emod]
  · rw [if_neg hj, if_neg (fun e => hj e.2)]
theorem corT_y {m : Int} {d : Nat} : Pl.Eq m d (Pl.pc (corT m d 1)) (Pl.mon2 0 1) := by
  intro i j h
  unfold corT gosF
  rw [Pl.pc_tab h, Int.emod_emod, if_neg (by decide)]
  unfold Pl.mon2
  by_cases hi : i = 0
  · rw [if_pos hi, Ser.co_cut (by omega)]
    unfold Ser.mon
    by_cases hj : j = 1
    · rw [if_pos hj, if_pos ⟨hi, hj⟩, Int.emod_emod]
    · rw [if_neg hj, if_neg (fun e => hj e.2), Int.emod_emod]
  · rw [if_neg hi, if_neg (fun e => hi e.1)]
set_option maxHeartbeats 8000000 in
set_option maxRecDepth 100000 in
theorem standardLaw_any (m d : Int) (fn : Nat) (bnd cap : Array Value) (B : Option Addr) (cb : Nat) (l : List Int) (T : Nat → List (List Int)) (w : World) (hl : l.length ≤ 9223372036854775807) (hrb : RI w B l)
    (hok : ∀ e, 2 ≤ m → m ≤ 10000 → 1 ≤ e → e ≤ 10 → Pl.Ok m e (T e))
    (hen : ∀ (args : Array Value) (W : World), (callFunc fn args).run Try.prog W = .ok (.enter fn args) W)
    (hf : ∀ (e : Nat) (A1 : Option Addr) (c1 : Nat) (A2 : Option Addr) (c2 : Nat) (W : World), (e : Int) = d → kindB m d l = true → Below w.heap.size w W → RP W A1 (corT m e 0) → RP W A2 (corT m e 1) →
      Calls Try.prog fn (bnd ++ (#[.agg #[.int .i64 m, .int .i64 e, .slice A1 (e + 1) c1], .agg #[.int .i64 m, .int .i64 e, .slice A2 (e + 1) c2]] ++ cap)) W fun x w' => ∃ v, x = .returned (.agg #[.int .i64 m, .int .i64 e, v]) ∧ OwnR w' W.heap.size w'.heap.size v (T e) ∧ Below W.heap.size W w') :
    Calls Try.prog 34 #[.int .i64 m, .int .i64 d, .func (.func fn) bnd cap, .slice B l.length cb] w fun e w' => ∃ s, e = .returned (.tuple #[.agg #[.int .i64 (stP m d l T).1, s], .int .i64 (stP m d l T).2.2]) ∧ OwnR w' w.heap.size w'.heap.size s (stP m d l T).2.1 ∧ Below w.heap.size w w' := by
  obtain ⟨W, hW, v3, hwb⟩ := var0 w
  have V3 := Lib.hid v3
  have HB := Lib.hid hwb
  have HW := Lib.hid hW
  have HC := Lib.hid (codeOfStandard_any m d B cb l W hl (hrb.below hwb))
  have HEN := Lib.hid hen
  obtain ⟨n, hn⟩ : ∃ n, l.length = n := ⟨_, rfl⟩
  by_cases hk : kindB m d l = true
  · obtain ⟨h1, h2, -⟩ := kind_iff hk
    obtain ⟨m1, m2⟩ := (isM_iff m).1 h1
    obtain ⟨d1, d2⟩ := (inB_iff _ _ _).1 h2
    rw [kind_yes hk] at HC
    obtain ⟨e, he⟩ : ∃ e : Nat, (e : Int) = d := ⟨d.toNat, by omega⟩
    have HA : Hid (stP m d l T = (m, T e, 0)) := Lib.hid (by unfold stP; rw [if_pos hk, ← he, show (e : Int).toNat = e by omega])
    rw [HA.out]
    have HF := Lib.hid (fun (A1 : Option Addr) (c1 : Nat) (A2 : Option Addr) (c2 : Nat) (W0 : World) (h : Below W.heap.size W W0) (r1 : RP W0 A1 (corT m e 0)) (r2 : RP W0 A2 (corT m e 1)) => hf e A1 c1 A2 c2 W0 he hk (below_step hwb h) r1 r2)
    have HN := Lib.hid (fun W0 => monomial_any m e 1 1 W0 (by omega) m2 (by omega) (by omega) (by omega))
    have hso : SerOk m e (Ser.cut m e (Ser.mon 1 1)) := ⟨m1, m2, by omega, by omega, Ser.cut_length _ _ _, Ser.cut_red (by omega) _ _⟩
    have hll := hso.len
    have hg0 : ∀ (W0 : World) (A0 : Option Addr) (c0 : Nat) (h : RI W0 A0 (Ser.cut m e (Ser.mon 1 1))), Calls Try.prog 68 #[.agg #[.int .i64 m, .slice A0 (Ser.cut m e (Ser.mon 1 1)).length c0], .int .i64 0] W0 fun x w' => ∃ v, x = .returned (.agg #[.int .i64 m, .int .i64 e, v]) ∧ OwnR w' W0.heap.size w'.heap.size v (corT m e 0) ∧ Below W0.heap.size W0 w' := fun W0 A0 c0 h => gridOfSeries_any m e A0 c0 _ 0 W0 hso h
    have hg1 : ∀ (W0 : World) (A0 : Option Addr) (c0 : Nat) (h : RI W0 A0 (Ser.cut m e (Ser.mon 1 1))), Calls Try.prog 68 #[.agg #[.int .i64 m, .slice A0 (Ser.cut m e (Ser.mon 1 1)).length c0], .int .i64 1] W0 fun x w' => ∃ v, x = .returned (.agg #[.int .i64 m, .int .i64 e, v]) ∧ OwnR w' W0.heap.size w'.heap.size v (corT m e 1) ∧ Below W0.heap.size W0 w' := fun W0 A0 c0 h => gridOfSeries_any m e A0 c0 _ 1 W0 hso h
    have hx : (corT m e 0).length = e + 1 := Pl.tab_length _ _ _
    have hy : (corT m e 1).length = e + 1 := Pl.tab_length _ _ _
    obtain ⟨TX, hTX⟩ : ∃ T, corT m e 0 = T := ⟨_, rfl⟩
    obtain ⟨TY, hTY⟩ : ∃ T, corT m e 1 = T := ⟨_, rfl⟩
    have hT := (hok e m1 m2 (by omega) (by omega)).len
    obtain ⟨TT, hTT⟩ : ∃ t, T e = t := ⟨_, rfl⟩
    rw [hTX] at hg0 HF hx
    rw [hTY] at hg1 HF hy
    rw [hTT] at HF hT ⊢
    obtain ⟨li, hli⟩ : ∃ li, Ser.cut m e (Ser.mon 1 1) = li := ⟨_, rfl⟩
    rw [hli] at hg0 hg1 HN hll
    rw [hll] at hg0 hg1
    have HG0 := Lib.hid hg0
    have HG1 := Lib.hid hg1
    have HLL := Lib.hid hll
    have HX := Lib.hid hx
    have HY := Lib.hid hy
    have HTL := Lib.hid hT
    subst he
    rw [hn] at HC ⊢
    clear hk h1 h2 hf hen hso hll hx hy hTX hTY hTT hT hli hg0 hg1 v3 hwb hW hrb hok HA
    go_enter Try.func34, Try.ntmps34
    go_wp2_with fail
    rw [HW.out]
    refine HC.out.mono ?_
    rintro x w' ⟨rfl, rfl⟩
    go_wp2_with fail
    refine (HN.out _).mono ?_
    rintro x w1 ⟨v, rfl, ho1, hb1⟩
    obtain ⟨A1, c1, rfl, -⟩ := ho1.form
    rw [HLL.out] at ho1 ⊢
    obtain ⟨w2, hw2⟩ : ∃ w2, w1.alloc (.cells #[.int .i64 m, .slice A1 (e + 1) c1] 24) = w2 := ⟨_, rfl⟩
    have hb2 : Below W.heap.size W w2 := by rw [← hw2]; exact below_alloc _ hb1
    have hbx : Box w2 w1.heap.size m A1 (e + 1) c1 := by rw [← hw2]; exact Box.newT _ _ _ _ _ _
    have hrl : RI w2 A1 li := by rw [← hw2]; exact ho1.ri.below (below_one _ _)
    have HB2 := Lib.hid hb2
    have HBX := Lib.hid hbx
    have HRL := Lib.hid hrl
    have HX2 := Lib.hid hw2
    clear hb2 hbx hrl hw2 ho1 hb1
    go_wp2_with fail
    rw [HX2.out]
    clear HX2
    have HK := Lib.hid (fun W0 (h : Below w2.heap.size w2 W0) => box_in HBX.out h)
    have HS0 := Lib.hid (HK.out _ (below_drew0 w2))
    refine region_tilN (fun w' => w'.cell? ⟨w1.heap.size, 0, none⟩ = some (.int .i64 m) ∧ w'.cell? ⟨w1.heap.size, 1, none⟩ = some (.slice A1 (e + 1) c1)) 7 (by kernel_rfl) ?_
    refine tilN_take (i := 0) (dst := some 23) (.func (.func fn) bnd cap) rfl rfl (by kernel_rfl) (by kernel_rfl) (by kernel_rfl) (by kernel_rfl) (fun _ _ _ h => h) (Or.inl ⟨by rfl, ?_⟩) HS0.out ?_
    · rintro w' ⟨a1, a2⟩
      go_simp
    simp only [Act.put, List.setIfInBounds_toArray, List.set_cons_zero, List.set_cons_succ]
    refine tilN_take (i := 1) (dst := some 24) (.agg #[.int .i64 m, .slice A1 (e + 1) c1]) rfl rfl (by kernel_rfl) (by kernel_rfl) (by kernel_rfl) (by kernel_rfl) (fun _ _ _ h => h) (Or.inl ⟨by rfl, ?_⟩) HS0.out ?_
    · rintro w' ⟨a1, a2⟩
      go_simp
    simp only [Act.put, List.setIfInBounds_toArray, List.set_cons_zero, List.set_cons_succ]
    refine tilN_take (i := 3) (dst := some 26) (.agg #[.int .i64 m, .slice A1 (e + 1) c1]) rfl rfl (by kernel_rfl) (by kernel_rfl) (by kernel_rfl) (by kernel_rfl) (fun _ _ _ h => h) (Or.inl ⟨by rfl, ?_⟩) HS0.out ?_
    · rintro w' ⟨a1, a2⟩
      go_simp
    simp only [Act.put, List.setIfInBounds_toArray, List.set_cons_zero, List.set_cons_succ]
    refine tilN_one (i := 2) (by kernel_rfl) rfl (fun K hK => ?_)
    go_simp
    (go_at_call 68; with_reducible refine Calls.mono (HG0.out _ _ _ (HRL.out.below (below_drew0 w2))) ?_; rintro x w4 ⟨v4, rfl, ho4, hb4⟩; obtain ⟨A4, c4, rfl, -⟩ := ho4.len; rw [HX.out] at ho4 ⊢; have b4 := below_step (below_drew0 w2) hb4)
    dsimp only
    refine hK.out _ _ (fun _ => HK.out _ b4) ?_
    clear hK K
    try simp only [Act.put, List.setIfInBounds_toArray, List.set_cons_zero, List.set_cons_succ]
    refine tilN_one (i := 4) (by kernel_rfl) rfl (fun K hK => ?_)
    go_simp
    (go_at_call 68; with_reducible refine Calls.mono (HG1.out _ _ _ (HRL.out.below b4)) ?_; rintro x w5 ⟨v5, rfl, ho5, hb5⟩; obtain ⟨A5, c5, rfl, -⟩ := ho5.len; rw [HY.out] at ho5 ⊢; have b5 := below_step b4 hb5)
    dsimp only
    refine hK.out _ _ (fun _ => HK.out _ b5) ?_
    clear hK K
    try simp only [Act.put, List.setIfInBounds_toArray, List.set_cons_zero, List.set_cons_succ]
    have hen0 := HEN.out
    refine tilN_one (i := 5) (by kernel_rfl) rfl (fun K hK => ?_)
    go_simp
    (with_reducible refine Calls.mono (HF.out _ _ _ _ _ (below_step HB2.out b5) (ho4.rp.below hb5) ho5.rp) ?_; rintro x w6 ⟨v6, rfl, ho6, hb6⟩; obtain ⟨A6, c6, rfl, -⟩ := ho6.len; rw [HTL.out] at ho6 ⊢; have b6 := below_step b5 hb6)
    dsimp only
    refine hK.out _ _ (fun _ => HK.out _ b6) ?_
    clear hK K
    try simp only [Act.put, List.setIfInBounds_toArray, List.set_cons_zero, List.set_cons_succ]
    clear hen0
    refine tilN_one (i := 6) (by kernel_rfl) rfl (fun K hK => ?_)
    go_simp
    (refine (plane_any _ _ _ _ _ _).mono ?_; rintro x w7 ⟨rfl, hb7⟩; have b7 := below_step b6 hb7; have hv := V3.out.keep (below_step HB2.out b7); obtain ⟨q0, q1, q2, q3⟩ := hv.tells2)
    dsimp only
    refine hK.out _ _ (fun _ => HK.out _ b7) ?_
    clear hK K
    try simp only [Act.put, List.setIfInBounds_toArray, List.set_cons_zero, List.set_cons_succ]
    refine tilN_one (i := 7) (by kernel_rfl) rfl (fun K hK => ?_)
    go_simp
    refine hK.out _ _ (fun hlt => absurd hlt (by decide)) ?_
    clear hK K
    refine tilN_one (i := 8) (by kernel_rfl) rfl (fun K hK => ?_)
    go_simp
    refine hK.out _ _ (fun hlt => absurd hlt (by decide)) ?_
    clear hK K
    refine tilN_done (by kernel_rfl) ?_
    have hz1 := (below_step HB2.out b5).size
    have hz2 := V3.out.lt
    obtain ⟨f0, f1, f2, f3⟩ := fin_plane (w := w) hv (ho6.keep hb7) (.inl (by omega)) (Nat.le_refl _) hb7.size (below_step HB.out (below_step HB2.out b7)) (.int .i64 m) (.slice A6 (e + 1) c6)
    have F2 := Lib.hid (f2.low (lo' := w.heap.size) (by omega))
    have F3 := Lib.hid f3
    clear f2 f3 hv ho4 ho5 ho6 hb4 hb5 hb6 hb7 b4 b5 b6 b7 HS0 HK
    go_wp2
    exact bodyPost_ret (v := .tuple #[.agg #[.int .i64 m, .slice A6 (e + 1) c6], .int .i64 0]) (by simp [results, Try.results34, go_sem, f0, f1]) rfl ⟨_, rfl, F2.out, F3.out⟩
  · have HA : Hid (stP m d l T = (0, [], 2)) := Lib.hid (by unfold stP; rw [if_neg hk])
    rw [HA.out]
    rw [kind_no hk] at HC
    rw [hn] at HC ⊢
    clear hk hf hen v3 hwb hW hrb hok HEN
    go_enter Try.func34, Try.ntmps34
    go_wp2_with fail
    rw [HW.out]
    refine HC.out.mono ?_
    rintro x w' ⟨rfl, rfl⟩
    have hv := V3.out.keep (Below.refl _ _)
    obtain ⟨q0, q1, q2, q3⟩ := hv.tells2
    obtain ⟨f0, f1, f2, f3⟩ := fin_plane (w := w) hv (OwnR.nil _ w.heap.size 0) (.inr (Nat.zero_le _)) (by omega) (Nat.zero_le _) (below_step HB.out (Below.refl _ _)) (.int .i64 0) (.slice none 0 0)
    have F2 := Lib.hid f2
    have F3 := Lib.hid f3
    clear f2 f3 hv
    go_wp2
    exact bodyPost_ret (v := .tuple #[.agg #[.int .i64 0, .slice none 0 0], .int .i64 (2)]) (by simp [results, Try.results34, go_sem, f0, f1]) rfl ⟨_, rfl, F2.out, F3.out⟩
end Go.Proofs.Ytilfjhnkjdfcoab

/- Plain facts on the Weierstrass series and on square roots of series: no program in sight. -/
namespace Go.Proofs.Ytilfjhnkjdfcoab
namespace Ser

theorem cv_congr_curves {m : Int} {f f' b b' : Nat → Int} {n : Nat} (hf : f 0 = 0) (hf' : f' 0 = 0) (hb : b 0 = 0) (hb' : b' 0 = 0) (h : Eq m n f f') (k : Eq m n b b') : cv (n + 1) f b % m = cv (n + 1) f' b' % m := by
  rw [cv_succ, cv_succ, hf, hf', Int.zero_mul, Int.zero_mul, Int.zero_add, Int.zero_add, cv_comm (sh f), cv_comm (sh f')]
  exact cv_congr_curve (by rw [hb]; rfl) (by rw [hb']; rfl) k (fun i hi => h (i + 1) (by omega))
theorem cv_mon (f : Nat → Int) (k : Nat) (c : Int) (n : Nat) : cv n f (mon k c) = if k ≤ n then c * f (n - k) else 0 := by
  rw [cv_psum]
  by_cases h : k ≤ n
  · rw [Pl.psum_one _ (n - k) _ (fun i hi hne => by unfold mon; rw [if_neg (by omega), Int.mul_zero]), if_pos (by omega), if_pos h]
    unfold mon
    rw [if_pos (by omega), Int.mul_comm]
  · rw [if_neg h]
    exact psum_low _ _ (fun i _ => by unfold mon; rw [if_neg (by omega), Int.mul_zero])
/-- the right side of the equation of the Weierstrass series -/
def weiB (a3 a4 a6 : Int) (w : Nat → Int) : Nat → Int := fun n => (mon 0 a3 n + mon 1 a4 n) + w n * a6
def weiA (a1 a2 a3 a4 a6 : Int) (w : Nat → Int) : Nat → Int := fun n => (mon 1 a1 n + mon 2 a2 n) + mul w (weiB a3 a4 a6 w) n
def weiF (a1 a2 a3 a4 a6 : Int) (w : Nat → Int) : Nat → Int := fun n => mon 3 1 n + mul w (weiA a1 a2 a3 a4 a6 w) n
theorem weiA_zero (a1 a2 a3 a4 a6 : Int) {w : Nat → Int} (h : w 0 = 0) : weiA a1 a2 a3 a4 a6 w 0 = 0 := by
  show mon 1 a1 0 + mon 2 a2 0 + cv 0 w _ = 0
  rw [cv_zero, h]; simp [mon]
theorem weiF_zero (a1 a2 a3 a4 a6 : Int) {w : Nat → Int} (h : w 0 = 0) : weiF a1 a2 a3 a4 a6 w 0 = 0 := by
  show mon 3 1 0 + cv 0 w _ = 0
  rw [cv_zero, h]; simp [mon]
theorem weiB_congr {m : Int} {k : Nat} (a3 a4 a6 : Int) {w w' : Nat → Int} (h : Eq m k w w') : Eq m k (weiB a3 a4 a6 w) (weiB a3 a4 a6 w') := fun i hi => add_cong rfl (mul_cong (h i hi) rfl)
theorem weiA_congr {m : Int} {k : Nat} (a1 a2 a3 a4 a6 : Int) {w w' : Nat → Int} (h : Eq m k w w') : Eq m k (weiA a1 a2 a3 a4 a6 w) (weiA a1 a2 a3 a4 a6 w') := fun i hi => add_cong rfl (Eq.mul h (weiB_congr a3 a4 a6 h) i hi)
/-- one degree more is right -/
theorem weiF_congr {m : Int} {k : Nat} (a1 a2 a3 a4 a6 : Int) {w w' : Nat → Int} (h0 : w 0 = 0) (h0' : w' 0 = 0) (h : Eq m k w w') : Eq m (k + 1) (weiF a1 a2 a3 a4 a6 w) (weiF a1 a2 a3 a4 a6 w') := by
  intro i hi
  refine add_cong rfl ?_
  by_cases hk : i ≤ k
  · exact Eq.mul h (weiA_congr a1 a2 a3 a4 a6 h) i hk
  · obtain rfl : i = k + 1 := by omega
    exact cv_congr_curves h0 h0' (weiA_zero _ _ _ _ _ h0) (weiA_zero _ _ _ _ _ h0') h (weiA_congr a1 a2 a3 a4 a6 h)
theorem weiF_at (a1 a2 a3 a4 a6 : Int) (w : Nat → Int) (n : Nat) (hn : 3 ≤ n) :
    weiF a1 a2 a3 a4 a6 w n = mon 3 1 n + (a1 * w (n - 1) + a2 * w (n - 2) + (a3 * mul w w n + a4 * mul w w (n - 1) + a6 * mul (mul w w) w n)) := by
  have e1 : mul w (weiA a1 a2 a3 a4 a6 w) n = cv n w (mon 1 a1) + cv n w (mon 2 a2) + cv n w (mul w (weiB a3 a4 a6 w)) := by
    show mul w (fun i => (mon 1 a1 i + mon 2 a2 i) + mul w (weiB a3 a4 a6 w) i) n = _
    rw [mul_add w (fun i => mon 1 a1 i + mon 2 a2 i), mul_add w (mon 1 a1)]; rfl
  have e2 : cv n w (mul w (weiB a3 a4 a6 w)) = cv n (mul w w) (mon 0 a3) + cv n (mul w w) (mon 1 a4) + a6 * mul (mul w w) w n := by
    rw [← cv_assoc]
    show mul (mul w w) (fun i => (mon 0 a3 i + mon 1 a4 i) + w i * a6) n = _
    rw [mul_add (mul w w) (fun i => mon 0 a3 i + mon 1 a4 i), mul_add (mul w w) (mon 0 a3)]
    rw [show (fun i => w i * a6) = fun i => a6 * w i from funext fun i => Int.mul_comm _ _, mul_smul]
    rfl
  show mon 3 1 n + mul w (weiA a1 a2 a3 a4 a6 w) n = _
  rw [e1, e2, cv_mon, cv_mon, cv_mon, cv_mon, if_pos (by omega), if_pos (by omega), if_pos (by omega), if_pos (by omega), Nat.sub_zero]

/-- the program's rounds -/
def addL (m : Int) (d : Nat) (l l' : List Int) : List Int := cut m d fun n => co l n + co l' n
def mulK (m : Int) (d : Nat) (l : List Int) (k : Int) : List Int := cut m d fun n => co l n * k
def monL (m : Int) (d k : Nat) (c : Int) : List Int := cut m d (mon k c)
theorem addL_eq {m : Int} {d : Nat} {l l' : List Int} {f g : Nat → Int} (h : Eq m d (co l) f) (k : Eq m d (co l') g) : Eq m d (co (addL m d l l')) (fun n => f n + g n) := (co_cut_eq _ _ _).trans (h.add k)
theorem mulK_eq {m : Int} {d : Nat} {l : List Int} {f : Nat → Int} (h : Eq m d (co l) f) (k : Int) : Eq m d (co (mulK m d l k)) (fun n => f n * k) := (co_cut_eq _ _ _).trans (fun i hi => mul_cong (h i hi) rfl)
theorem mulL_eq {m : Int} {d : Nat} {l l' : List Int} {f g : Nat → Int} (h : Eq m d (co l) f) (k : Eq m d (co l') g) : Eq m d (co (mulL m d l l')) (mul f g) := (co_cut_eq _ _ _).trans (h.mul k)
def weiQ (m : Int) (d : Nat) (a3 a4 a6 : Int) (L : List Int) : List Int := addL m d (addL m d (monL m d 0 a3) (monL m d 1 a4)) (mulK m d L a6)
def weiS (m : Int) (d : Nat) (a1 a2 a3 a4 a6 : Int) (L : List Int) : List Int := addL m d (addL m d (monL m d 1 a1) (monL m d 2 a2)) (mulL m d L (weiQ m d a3 a4 a6 L))
def weiP (m : Int) (d : Nat) (a1 a2 a3 a4 a6 : Int) (L : List Int) : List Int := addL m d (monL m d 3 1) (mulL m d L (weiS m d a1 a2 a3 a4 a6 L))
def weiL (m : Int) (d : Nat) (a1 a2 a3 a4 a6 : Int) : Nat → List Int
  | 0 => monL m d 0 0
  | k + 1 => weiP m d a1 a2 a3 a4 a6 (weiL m d a1 a2 a3 a4 a6 k)
theorem weiP_eq (m : Int) (d : Nat) (a1 a2 a3 a4 a6 : Int) (L : List Int) : Eq m d (co (weiP m d a1 a2 a3 a4 a6 L)) (weiF a1 a2 a3 a4 a6 (co L)) := by
  have hq : Eq m d (co (weiQ m d a3 a4 a6 L)) (weiB a3 a4 a6 (co L)) := addL_eq (addL_eq (co_cut_eq _ _ _) (co_cut_eq _ _ _)) (mulK_eq (Eq.refl _ _ _) a6)
  have hs : Eq m d (co (weiS m d a1 a2 a3 a4 a6 L)) (weiA a1 a2 a3 a4 a6 (co L)) := addL_eq (addL_eq (co_cut_eq _ _ _) (co_cut_eq _ _ _)) (mulL_eq (Eq.refl _ _ _) hq)
  exact addL_eq (co_cut_eq _ _ _) (mulL_eq (Eq.refl _ _ _) hs)
theorem weiL_length (m : Int) (d : Nat) (a1 a2 a3 a4 a6 : Int) (k : Nat) : (weiL m d a1 a2 a3 a4 a6 k).length = d + 1 := by cases k <;> exact cut_length _ _ _
theorem weiL_red {m : Int} (hm : 0 < m) (d : Nat) (a1 a2 a3 a4 a6 : Int) (k : Nat) : Red m (weiL m d a1 a2 a3 a4 a6 k) := by cases k <;> exact cut_red hm _ _
theorem weiL_zero {m : Int} (hm : 0 < m) (d : Nat) (a1 a2 a3 a4 a6 : Int) (k : Nat) : co (weiL m d a1 a2 a3 a4 a6 k) 0 = 0 := by
  induction k with
  | zero =>
    show co (cut m d (mon 0 0)) 0 = 0
    rw [co_cut (Nat.zero_le _)]
    simp [mon]
  | succ k ih =>
    have h := weiP_eq m d a1 a2 a3 a4 a6 (weiL m d a1 a2 a3 a4 a6 k) 0 (Nat.zero_le _)
    rw [weiF_zero _ _ _ _ _ ih] at h
    have r := weiL_red hm d a1 a2 a3 a4 a6 (k + 1) 0
    rw [show co (weiL m d a1 a2 a3 a4 a6 (k + 1)) 0 = co (weiP m d a1 a2 a3 a4 a6 (weiL m d a1 a2 a3 a4 a6 k)) 0 from rfl] at r ⊢
    rw [Int.emod_eq_of_lt r.1 r.2] at h
    simpa using h
/-- what the model's list is when the coefficients below n have come -/
structure WeiN (m : Int) (D : Nat) (a1 a2 a3 a4 a6 : Int) (L : List Int) (n : Nat) : Prop where
  len : L.length = D + 1
  red : Red m L
  zero : ∀ i, i < 3 → co L i = 0
  last : ∀ i, n ≤ i → co L i = 0
  fix : ∀ i, i < n → co L i = weiF a1 a2 a3 a4 a6 (co L) i % m
theorem weiF_low (a1 a2 a3 a4 a6 : Int) {w : Nat → Int} (h : ∀ i, i < 3 → w i = 0) (i : Nat) (hi : i < 3) : weiF a1 a2 a3 a4 a6 w i = 0 := by
  have : cv i w (weiA a1 a2 a3 a4 a6 w) = 0 := by
    rw [cv_psum]
    exact psum_low _ _ (fun j hj => by rw [h j (by omega), Int.zero_mul])
  show mon 3 1 i + cv i w _ = 0
  rw [this]
  unfold mon
  rw [if_neg (by omega)]; rfl
theorem co_zeros0 (n i : Nat) : co (List.replicate n (0 : Int)) i = 0 := co_zeros n i
theorem WeiN.start {m : Int} (hm : 0 < m) (D : Nat) (a1 a2 a3 a4 a6 : Int) : WeiN m D a1 a2 a3 a4 a6 (List.replicate (D + 1) 0) 3 := by
  have z : ∀ i, co (List.replicate (D + 1) (0 : Int)) i = 0 := fun i => co_zeros0 _ i
  refine ⟨List.length_replicate, fun i => by rw [z]; omega, fun i _ => z i, fun i _ => z i, fun i hi => ?_⟩
  rw [weiF_low _ _ _ _ _ (fun j _ => z j) i hi, z, Int.zero_emod]
theorem WeiN.step {m : Int} (hm : 0 < m) {D : Nat} {a1 a2 a3 a4 a6 : Int} {L : List Int} {n : Nat} (h : WeiN m D a1 a2 a3 a4 a6 L n) (hn : 3 ≤ n) (hD : n ≤ D) {v : Int} (hv : v = weiF a1 a2 a3 a4 a6 (co L) n % m) : WeiN m D a1 a2 a3 a4 a6 (L.set n v) (n + 1) := by
  have hs : ∀ i, co (L.set n v) i = if i = n then v else co L i := fun i => co_set (by rw [h.len]; omega) _ i
  have he : ∀ k, k < n → Eq m k (co (L.set n v)) (co L) := fun k hk i hi => by rw [hs, if_neg (by omega)]
  have h0 : co L 0 = 0 := h.zero 0 (by omega)
  have h0' : co (L.set n v) 0 = 0 := by rw [hs, if_neg (by omega), h0]
  refine ⟨by rw [List.length_set, h.len], fun i => ?_, fun i hi => ?_, fun i hi => ?_, fun i hi => ?_⟩
  · rw [hs]
    split
    · rw [hv]; exact ⟨Int.emod_nonneg _ (by omega), Int.emod_lt_of_pos _ hm⟩
    · exact h.red i
  · rw [hs, if_neg (by omega)]; exact h.zero i hi
  · rw [hs, if_neg (by omega)]; exact h.last i (by omega)
  · rcases i with _ | i
    · rw [h0', weiF_zero _ _ _ _ _ h0', Int.zero_emod]
    · have := weiF_congr a1 a2 a3 a4 a6 h0' h0 (he i (by omega)) (i + 1) (Nat.le_refl _)
      rw [this, hs]
      by_cases hi' : i + 1 = n
      · rw [if_pos hi', hv, hi']
      · rw [if_neg hi']; exact h.fix (i + 1) (by omega)
/-- when all have come it is the program's -/
theorem WeiN.done {m : Int} (hm : 0 < m) {D : Nat} {a1 a2 a3 a4 a6 : Int} {L : List Int} {n : Nat} (h : WeiN m D a1 a2 a3 a4 a6 L n) (hn : D < n) : L = weiL m D a1 a2 a3 a4 a6 D := by
  have key : ∀ k, k ≤ D → Eq m k (co (weiL m D a1 a2 a3 a4 a6 k)) (co L) := by
    intro k
    induction k with
    | zero =>
      intro _ i hi
      obtain rfl : i = 0 := by omega
      rw [weiL_zero hm, h.zero 0 (by omega)]
    | succ k ih =>
      intro hk i hi
      rw [show co (weiL m D a1 a2 a3 a4 a6 (k + 1)) i = co (weiP m D a1 a2 a3 a4 a6 (weiL m D a1 a2 a3 a4 a6 k)) i from rfl, weiP_eq m D a1 a2 a3 a4 a6 _ i (by omega),
        weiF_congr a1 a2 a3 a4 a6 (weiL_zero hm D a1 a2 a3 a4 a6 k) (h.zero 0 (by omega)) (ih (by omega)) i hi, h.fix i (by omega), Int.emod_emod]
  exact red_unique h.len (weiL_length _ _ _ _ _ _ _ _) h.red (weiL_red hm _ _ _ _ _ _ _) (key D (Nat.le_refl _)).symm
/-- the model's next coefficient: sq and cu its square and cube up to n -/
theorem wei_val {m : Int} {a1 a2 a3 a4 a6 : Int} {L : List Int} {n : Nat} (hn : 3 ≤ n) (sq cu : Nat → Int) (hsq : Eq m n sq (mul (co L) (co L))) (hcu : Eq m n cu (mul sq (co L))) :
    (a1 * co L (n - 1) + a2 * co L (n - 2) + a3 * sq n + a4 * sq (n - 1) + a6 * cu n + mon 3 1 n) % m = weiF a1 a2 a3 a4 a6 (co L) n % m := by
  rw [weiF_at _ _ _ _ _ _ n hn]
  have e1 := hsq n (Nat.le_refl _)
  have e2 := hsq (n - 1) (by omega)
  have e3 : cu n % m = mul (mul (co L) (co L)) (co L) n % m := (hcu n (Nat.le_refl _)).trans (cv_congr n hsq (Eq.refl _ _ _))
  rw [show a1 * co L (n - 1) + a2 * co L (n - 2) + a3 * sq n + a4 * sq (n - 1) + a6 * cu n + mon 3 1 n = mon 3 1 n + (a1 * co L (n - 1) + a2 * co L (n - 2) + (a3 * sq n + a4 * sq (n - 1) + a6 * cu n)) by omega]
  exact add_cong rfl (add_cong rfl (add_cong (add_cong (mul_cong rfl e1) (mul_cong rfl e2)) (mul_cong rfl e3)))

/-! square roots -/
def rtL (m : Int) (d : Nat) (h : Int) (a : Nat → Int) : Nat → List Int
  | 0 => cut m d (mon 0 1)
  | k + 1 => (rtL m d h a k).set (k + 1) ((h * (a (k + 1) - cv (k + 1) (co (rtL m d h a k)) (co (rtL m d h a k)))) % m)
theorem rtL_length (m : Int) (d : Nat) (h : Int) (a : Nat → Int) (k : Nat) : (rtL m d h a k).length = d + 1 := by
  induction k with
  | zero => exact cut_length _ _ _
  | succ k ih => show (List.set _ _ _).length = _; rw [List.length_set, ih]
theorem rtL_red {m : Int} (hm : 0 < m) (d : Nat) (h : Int) (a : Nat → Int) (k : Nat) (hk : k ≤ d) : Red m (rtL m d h a k) := by
  induction k with
  | zero => exact cut_red hm _ _
  | succ k ih =>
    intro i
    rw [show co (rtL m d h a (k + 1)) i = co ((rtL m d h a k).set (k + 1) _) i from rfl, co_set (by rw [rtL_length]; omega)]
    split
    · exact ⟨Int.emod_nonneg _ (by omega), Int.emod_lt_of_pos _ hm⟩
    · exact ih (by omega) i
theorem rtL_at {m : Int} (m1 : 2 ≤ m) {d : Nat} (h : Int) (a : Nat → Int) (k : Nat) (hk : k ≤ d) : co (rtL m d h a k) 0 = 1 ∧ ∀ i, k < i → co (rtL m d h a k) i = 0 := by
  induction k with
  | zero =>
    refine ⟨?_, fun i hi => ?_⟩
    · show co (cut m d (mon 0 1)) 0 = 1
      rw [co_cut (Nat.zero_le _)]
      exact Int.emod_eq_of_lt (by simp [mon]) (by simp [mon]; omega)
    · show co (cut m d (mon 0 1)) i = 0
      by_cases hd : i ≤ d
      · rw [co_cut hd]; unfold mon; rw [if_neg (by omega), Int.zero_emod]
      · exact co_over (by rw [cut_length]; omega)
  | succ k ih =>
    have hs : ∀ i, co (rtL m d h a (k + 1)) i = if i = k + 1 then (h * (a (k + 1) - cv (k + 1) (co (rtL m d h a k)) (co (rtL m d h a k)))) % m else co (rtL m d h a k) i := fun i => co_set (by rw [rtL_length]; omega) _ i
    refine ⟨?_, fun i hi => ?_⟩
    · rw [hs, if_neg (by omega)]; exact (ih (by omega)).1
    · rw [hs, if_neg (by omega)]; exact (ih (by omega)).2 i (by omega)
/-- the sum of the terms between both ends -/
def midS (r : Nat → Int) (n : Nat) (k : Nat) : Int := psum (fun i => r (i + 1) * r (n - (i + 1))) k
theorem cv_mid (r : Nat → Int) (n : Nat) (hn : 1 ≤ n) (h0 : r n = 0) : cv n r r = midS r n (n - 1) := by
  rw [cv_psum]
  obtain ⟨k, rfl⟩ : ∃ k, n = k + 1 := ⟨n - 1, by omega⟩
  rw [psum_left]
  show r 0 * r (k + 1 - 0) + psum (fun i => r (i + 1) * r (k + 1 - (i + 1))) (k + 1) = _
  rw [psum]
  unfold midS
  rw [Nat.sub_zero, Nat.add_sub_cancel, h0, Int.mul_zero, Int.zero_mul, Int.zero_add, Int.add_zero]
end Ser
end Go.Proofs.Ytilfjhnkjdfcoab

/- Contract of the model's product of lists. -/
namespace Go.Proofs.Ytilfjhnkjdfcoab
open Go.RowKit Go.WideShapes Go.ChangeShapes Go.ChangeAt

theorem timS_red {m : Int} (hm : 0 < m) (d : Nat) (a b : Nat → Int) (i : Nat) : Ser.Red m (Ser.timS m d a b i) := Ser.cut_red hm _ _
theorem timP_red {m : Int} (hm : 0 < m) (d : Nat) (a b : Nat → Int) (i k : Nat) : Ser.Red m (Ser.timP m d a b i k) := Ser.cut_red hm _ _

theorem timP_null (m : Int) (d : Nat) (a b : Nat → Int) (i k : Nat) (h : a i = 0) : Ser.timP m d a b i k = Ser.timS m d a b (i + 1) := by
  unfold Ser.timP Ser.timS
  refine Ser.cut_congr (Ser.Eq.of m d (fun n hn => ?_))
  rw [Ser.psum]
  unfold Ser.tr
  rw [h]
  simp
set_option maxHeartbeats 8000000 in
set_option maxRecDepth 100000 in
theorem l02Times_any (m : Int) (D : Nat) (A : Option Addr) (c : Nat) (l : List Int) (A' : Option Addr) (c' : Nat) (l' : List Int) (w : World) (m1 : 2 ≤ m) (m2 : m ≤ 10000) (hD : D ≤ 1000) (hl : l.length ≤ 1000) (hl' : l'.length ≤ 1000) (hs : Ser.Red m l) (hs' : Ser.Red m l') (hr : RI w A l) (hr' : RI w A' l') :
    Calls Try.prog 55 #[.int .i64 m, .slice A l.length c, .slice A' l'.length c', .int .i64 D] w fun e w' => ∃ v, e = .returned v ∧ OwnI w' w.heap.size v (Ser.mulL m D l l') ∧ Below w.heap.size w w' := by
  have HS := Lib.hid hs
  have HS' := Lib.hid hs'
  have HR := Lib.hid hr
  have HR' := Lib.hid hr'
  have hm0 : ¬ m = 0 := by omega
  clear hs hs' hr hr'
  have hmk : ∀ W : World, (Instr.makeSlice 22 (.int .i64 ((D : Int) + 1)) (.int .i64 ((D : Int) + 1))).run Try.prog W = .ok (.slice (some ⟨W.heap.size, 0, none⟩) (D + 1) (D + 1)) (W.alloc (.cells (madeCells #[.int .i64 0] (D + 1)) 2)) := by
    intro W
    have := run_make_row' (P := Try.prog) 22 2 (.int .i64 0) 8 Try.underlying22 info64 rfl .i64 .i64 (D + 1) (by omega) (by omega) W
    rwa [show ((D + 1 : Nat) : Int) = (D : Int) + 1 by omega] at this
  obtain ⟨a, ha⟩ : ∃ a, Ser.co l = a := ⟨_, rfl⟩
  obtain ⟨b, hb⟩ : ∃ b, Ser.co l' = b := ⟨_, rfl⟩
  have HA := Lib.hid ha
  have HB0 := Lib.hid hb
  have HE := Lib.hid (show Ser.mulL m D l l' = Ser.cut m D (Ser.mul a b) by unfold Ser.mulL; rw [ha, hb])
  rw [HE.out]
  clear ha hb
  go_enter Try.func55, Try.ntmps55
  go_wp2
  go_loopw [10, 11] (fun i _ wr => ∃ j : Nat, j ≤ 2000 ∧ i = .int .i64 j ∧ OwnI wr w.heap.size (.slice (some ⟨w.heap.size, 0, none⟩) (D + 1) (D + 1)) (Ser.timS m D a b j) ∧ Below w.heap.size w wr) (fun i _ _ => l.length - (intOf i).toNat)
  case atStart =>
    refine ⟨0, by omega, rfl, ?_, (Below.refl _ _).alloc (Nat.le_refl _) _⟩
    have h := OwnI.made w (D + 1) (by unfold maxLen; omega)
    rw [Ser.timS_zero]
    simpa using h
  case round =>
    clear hmk
    obtain ⟨j, hj, rfl, hown, hbel⟩ := hrel
    have HB := Lib.hid hbel
    have HO := Lib.hid hown
    clear hown hbel
    by_cases h1 : j < l.length
    · by_cases h2 : j ≤ D
      · go_wp2
        go_loopw [11] (fun i wr => ∃ k : Nat, k ≤ 1000 ∧ i = .int .i64 k ∧ OwnI wr w.heap.size (.slice (some ⟨w.heap.size, 0, none⟩) (D + 1) (D + 1)) (Ser.timP m D a b j k) ∧ Below w.heap.size w wr) (fun i _ => l'.length - (intOf i).toNat)
        case atStart => exact ⟨0, by omega, rfl, by rw [Ser.timP_zero]; exact HO.out, HB.out⟩
        case round =>
          clear HO HB
          obtain ⟨k, hk, rfl, hown, hbel⟩ := hrel
          have HB := Lib.hid hbel
          have HO := Lib.hid hown
          clear hown hbel
          obtain ⟨bb, off, rfl, hbb, hc⟩ := HR.out.at j h1
          have hc1 := (HB.out.cell (p := ⟨bb, off + j, none⟩) hbb).trans hc
          have r1 := HS.out j
          rw [HA.out] at hc1 r1
          obtain ⟨X, hX⟩ : ∃ X, a j = X := ⟨_, rfl⟩
          rw [hX] at hc1 r1
          obtain ⟨r1, r2⟩ := r1
          have j0 : (0 : Int) ≤ (j : Int) := by omega
          have j1 : (j : Int) < (l.length : Int) := by omega
          clear hc
          by_cases h3 : k < l'.length
          · by_cases h4 : j + k ≤ D
            · by_cases h5 : X = 0
              · have HN := Lib.hid (timP_null m D a b j k (hX.trans h5))
                subst h5
                clear hX
                go_wp2
                go_roundw
                case rel => exact ⟨j + 1, by omega, by go_num, by rw [← HN.out]; exact HO.out, HB.out⟩
                case measure => simp only [intOf]; omega
              · obtain ⟨n1, n2⟩ := ne_facts h5
                obtain ⟨bb', off', rfl, hbb', hc'⟩ := HR'.out.at k h3
                have hc2 := (HB.out.cell (p := ⟨bb', off' + k, none⟩) hbb').trans hc'
                have q1 := HS'.out k
                rw [HB0.out] at hc2 q1
                obtain ⟨Y, hY⟩ : ∃ Y, b k = Y := ⟨_, rfl⟩
                rw [hY] at hc2 q1
                obtain ⟨q1, q2⟩ := q1
                obtain ⟨_, _, o3, o4⟩ := HO.out.cells
                have hd1 := o3 (j + k) (by unfold Ser.timP; rw [Ser.cut_length]; omega)
                have hf1 := o4 (j + k)
                have z1 := timP_red (m := m) (by omega) D a b j k (j + k)
                have hst := Ser.timP_step m D a b j k h4
                change wr.cell? _ = some (.int .i64 (Ser.co (Ser.timP m D a b j k) (j + k))) at hd1
                obtain ⟨Z, hZ⟩ : ∃ Z, Ser.co (Ser.timP m D a b j k) (j + k) = Z := ⟨_, rfl⟩
                rw [hZ] at hd1 z1 hst
                rw [hX, hY] at hst
                obtain ⟨z1, z2⟩ := z1
                have hset := HO.out.set (j + k) ((Z + X * Y) % m)
                rw [hst] at hset
                have HSET := Lib.hid hset
                have p1 := Int.mul_nonneg r1 q1
                have p2 := (mul_bd (x := X) (y := Y) r1 (by omega) (by omega) (by omega)).2
                have j2 : (0 : Int) ≤ (k : Int) := by omega
                have j3 : (k : Int) < (l'.length : Int) := by omega
                have j4 : (j : Int) + (k : Int) ≤ (D : Int) := by omega
                have j5 : (j : Int) + (k : Int) < (D : Int) + 1 := by omega
                have j6 : (0 : Int) ≤ (j : Int) + (k : Int) := by omega
                have j7 : ((j : Int) + (k : Int)).toNat = j + k := by omega
                have w1 : IntKind.i64.wrap ((j : Int) + (k : Int)) = (j : Int) + (k : Int) := by rw [IntKind.wrap_i64]; omega
                have w2 : IntKind.i64.wrap (X * Y) = X * Y := by rw [IntKind.wrap_i64]; omega
                have w3 : IntKind.i64.wrap (Z + X * Y) = Z + X * Y := by rw [IntKind.wrap_i64]; omega
                clear hX hY hZ hst hset hc' o3 o4
                go_wp2
                go_still_tail 23, (by kernel_rfl)
                change wpList _ _ _ _ _ wr.drew
                go_wp2
                go_roundw
                case rel => exact ⟨k + 1, by omega, by go_num, HSET.out, HB.out.drew.setCell (Nat.le_refl _) _⟩
                case measure => simp only [intOf]; omega
            · have HN := Lib.hid (Ser.timP_end m D a b j k (fun q hq1 hq2 => by omega))
              have h4' : ¬ (j : Int) + (k : Int) ≤ (D : Int) := by omega
              clear hX h4
              go_wp2
              go_roundw
              case rel => exact ⟨j + 1, by omega, by go_num, by rw [← HN.out]; exact HO.out, HB.out⟩
              case measure => simp only [intOf]; omega
          · have HN := Lib.hid (Ser.timP_end m D a b j k (fun q hq1 hq2 => by rw [← HB0.out]; exact Ser.co_over (by omega)))
            clear hX
            go_wp2
            go_roundw
            case rel => exact ⟨j + 1, by omega, by go_num, by rw [← HN.out]; exact HO.out, HB.out⟩
            case measure => simp only [intOf]; omega
      · have ho := HO.out
        rw [Ser.timS_end m D a b j (fun q hq1 hq2 => by omega)] at ho
        have HF := Lib.hid ho
        clear ho
        go_wp2
        go_ret
        exact ⟨_, rfl, HF.out, HB.out⟩
    · have ho := HO.out
      rw [Ser.timS_end m D a b j (fun q hq1 hq2 => by rw [← HA.out]; exact Ser.co_over (by omega))] at ho
      have HF := Lib.hid ho
      clear ho
      go_wp2
      go_ret
      exact ⟨_, rfl, HF.out, HB.out⟩
end Go.Proofs.Ytilfjhnkjdfcoab

/- Contracts of the Weierstrass series, of the model. -/
namespace Go.Proofs.Ytilfjhnkjdfcoab
open Go Go.RowKit Go.WideShapes Go.ChangeShapes Go.ChangeAt

/-- the list of the Weierstrass series -/
def weiT (m : Int) (d : Nat) (l : List Int) : List Int := Ser.weiL m d (Ser.co l 0) (Ser.co l 1) (Ser.co l 2) (Ser.co l 3) (Ser.co l 4) d
def kindW (m d : Int) (l : List Int) : Bool := decide (l.length = 5) && kindB m d l
/-- the model of WeierstrassSeries -/
def weiM (m d : Int) (l : List Int) : Int × List Int × Int := if kindW m d l = true then (m, weiT m d.toNat l, 0) else (0, [], 2)
theorem weiT_length (m : Int) (d : Nat) (l : List Int) : (weiT m d l).length = d + 1 := Ser.weiL_length _ _ _ _ _ _ _ _
theorem kindW_iff {m d : Int} {l : List Int} (h : kindW m d l = true) : l.length = 5 ∧ kindB m d l = true := by
  unfold kindW at h
  rw [Bool.and_eq_true, decide_eq_true_eq] at h
  exact h
theorem weiM_len (m d : Int) (l : List Int) : (weiM m d l).2.1.length ≤ 1048576 := by
  unfold weiM
  split
  · obtain ⟨-, hk⟩ := kindW_iff (by assumption)
    obtain ⟨-, h2, -⟩ := kind_iff hk
    obtain ⟨d1, d2⟩ := (inB_iff _ _ _).1 h2
    rw [weiT_length]; omega
  · exact Nat.zero_le _
theorem allIn_co {m : Int} {l : List Int} (hm : 1 ≤ m) (h : allIn 0 (m - 1) l = true) (i : Nat) : 0 ≤ Ser.co l i ∧ Ser.co l i < m := by
  unfold allIn at h
  rw [List.all_eq_true] at h
  show 0 ≤ l[i]?.getD 0 ∧ l[i]?.getD 0 < m
  rcases hx : l[i]? with _ | x
  · show 0 ≤ (0 : Int) ∧ (0 : Int) < m; omega
  · obtain ⟨h1, h2⟩ := (inB_iff _ _ _).1 (h x (List.mem_of_getElem? hx))
    show 0 ≤ x ∧ x < m; omega
set_option maxHeartbeats 2000000 in
theorem l08List_any (m d : Int) (A : Option Addr) (c : Nat) (l : List Int) (w : World) (hl : l.length ≤ 1048576) (hr : RI w A l) :
    Calls Try.prog 26 #[.int .i64 m, .int .i64 d, .slice A l.length c] w fun e w' => e = .returned (.bool (kindW m d l)) ∧ w = w' := by
  have HK := Lib.hid (l08Kind_any m d A c l w (by omega) hr)
  by_cases h5 : l.length = 5
  · have hw : kindW m d l = kindB m d l := by unfold kindW; rw [decide_eq_true h5, Bool.true_and]
    rw [hw]
    obtain ⟨b, hb⟩ : ∃ b, kindB m d l = b := ⟨_, rfl⟩
    rw [hb] at HK ⊢
    have h5' : (l.length : Int) = 5 := by omega
    rw [h5] at HK ⊢
    clear hb hw
    go_enter Try.func26, Try.ntmps26
    go_wp2_with fail
    refine HK.out.mono ?_
    rintro x w' ⟨rfl, rfl⟩
    go_wp2
    go_ret
    exact ⟨rfl, rfl⟩
  · have hw : kindW m d l = false := by unfold kindW; rw [decide_eq_false h5, Bool.false_and]
    rw [hw]
    have h5' : ¬ (l.length : Int) = 5 := by omega
    clear hw HK
    go_enter Try.func26, Try.ntmps26
    go_wp2
    go_ret
    exact ⟨rfl, rfl⟩
set_option maxHeartbeats 8000000 in
set_option maxRecDepth 100000 in
theorem l08Series_any (m : Int) (D : Nat) (A : Option Addr) (c : Nat) (l : List Int) (w : World) (m1 : 2 ≤ m) (m2 : m ≤ 10000) (d1 : 1 ≤ D) (d2 : D ≤ 11) (h5 : l.length = 5) (hc : ∀ i, 0 ≤ Ser.co l i ∧ Ser.co l i < m) (hr : RI w A l) :
    Calls Try.prog 28 #[.int .i64 m, .int .i64 D, .slice A l.length c] w fun x w' => ∃ v, x = .returned v ∧ OwnI w' w.heap.size v (weiT m D l) ∧ Below w.heap.size w w' := by
  have hmk : ∀ W : World, (Instr.makeSlice 22 (.int .i64 ((D : Int) + 1)) (.int .i64 ((D : Int) + 1))).run Try.prog W = .ok (.slice (some ⟨W.heap.size, 0, none⟩) (D + 1) (D + 1)) (W.alloc (.cells (madeCells #[.int .i64 0] (D + 1)) 2)) := by
    intro W
    have := run_make_row' (P := Try.prog) 22 2 (.int .i64 0) 8 Try.underlying22 info64 rfl .i64 .i64 (D + 1) (by omega) (by omega) W
    rwa [show ((D + 1 : Nat) : Int) = (D : Int) + 1 by omega] at this
  obtain ⟨b, off, rfl, -, -⟩ := hr.at 0 (by omega)
  have HR := Lib.hid hr
  obtain ⟨a1, ha1⟩ : ∃ a, Ser.co l 0 = a := ⟨_, rfl⟩
  obtain ⟨a2, ha2⟩ : ∃ a, Ser.co l 1 = a := ⟨_, rfl⟩
  obtain ⟨a3, ha3⟩ : ∃ a, Ser.co l 2 = a := ⟨_, rfl⟩
  obtain ⟨a4, ha4⟩ : ∃ a, Ser.co l 3 = a := ⟨_, rfl⟩
  obtain ⟨a6, ha6⟩ : ∃ a, Ser.co l 4 = a := ⟨_, rfl⟩
  have c0 := hc 0
  have c1 := hc 1
  have c2 := hc 2
  have c3 := hc 3
  have c4 := hc 4
  rw [ha1] at c0
  rw [ha2] at c1
  rw [ha3] at c2
  rw [ha4] at c3
  rw [ha6] at c4
  have hat : ∀ i, i < 5 → b < w.heap.size ∧ w.cell? ⟨b, off + i, none⟩ = some (.int .i64 (Ser.co l i)) := fun i hi => by
    obtain ⟨b', off', e, hb, hc⟩ := hr.at i (by omega)
    injection e with e
    injection e with e1 e2
    subst e1 e2
    exact ⟨hb, hc⟩
  have x0 := (hat 0 (by omega)).2
  have x1 := (hat 1 (by omega)).2
  have x2 := (hat 2 (by omega)).2
  have x3 := (hat 3 (by omega)).2
  have x4 := (hat 4 (by omega)).2
  have hbl := (hat 0 (by omega)).1
  rw [ha1] at x0
  rw [ha2] at x1
  rw [ha3] at x2
  rw [ha4] at x3
  rw [ha6] at x4
  have Q0 := Lib.hid x0
  have Q1 := Lib.hid x1
  have Q2 := Lib.hid x2
  have Q3 := Lib.hid x3
  have Q4 := Lib.hid x4
  have hwt : weiT m D l = Ser.weiL m D a1 a2 a3 a4 a6 D := by unfold weiT; rw [ha1, ha2, ha3, ha4, ha6]
  rw [hwt, h5]
  have w0 : IntKind.i64.wrap ((D : Int) + 1) = (D : Int) + 1 := by rw [IntKind.wrap_i64]; omega
  clear hat hc ha1 ha2 ha3 ha4 ha6 hwt hr x0 x1 x2 x3 x4 h5
  go_enter Try.func28, Try.ntmps28
  go_wp2
  have HO := Lib.hid (OwnI.made w (D + 1) (by unfold maxLen; omega))
  have HN := Lib.hid (Ser.WeiN.start (show 0 < m by omega) D a1 a2 a3 a4 a6)
  go_loopw [8, 9, 10, 11] (fun s8 _ _ _ wr => ∃ (n : Nat) (L : List Int), 3 ≤ n ∧ s8 = .int .i64 n ∧ Ser.WeiN m D a1 a2 a3 a4 a6 L n ∧ OwnI wr w.heap.size (.slice (some ⟨w.heap.size, 0, none⟩) (D + 1) (D + 1)) L ∧ Below w.heap.size w wr) (fun s8 _ _ _ _ => D + 1 - (intOf s8).toNat)
  case atStart => exact ⟨3, _, Nat.le_refl _, rfl, HN.out, HO.out, below_one _ _⟩
  case round =>
    clear HO HN
    obtain ⟨n, L, hn, rfl, hN, ho, hbe⟩ := hrel
    have HNN := Lib.hid hN
    have HO := Lib.hid ho
    have HB := Lib.hid hbe
    have hll := hN.len
    by_cases hlt : n ≤ D
    · have hlt2 : (n : Int) ≤ (D : Int) := by omega
      have HT := Lib.hid (fun (W0 : World) (h : Below wr.heap.size wr W0) => by
        have := l02Times_any m n _ (D + 1) L _ (D + 1) L W0 m1 m2 (by omega) (by omega) (by omega) hN.red hN.red (ho.ri.below h) (ho.ri.below h)
        rw [hll] at this
        exact this)
      have HT2 := Lib.hid (fun (A' : Option Addr) (c' : Nat) (W0 : World) (h : Below wr.heap.size wr W0) (h2 : RI W0 A' (Ser.mulL m n L L)) => by
        have := l02Times_any m n A' c' (Ser.mulL m n L L) _ (D + 1) L W0 m1 m2 (by omega) (by rw [Ser.mulL_length]; omega) (by omega) (Ser.cut_red (by omega) _ _) hN.red h2 (ho.ri.below h)
        rw [hll, Ser.mulL_length] at this
        exact this)
      have hsz := hbe.size
      clear ho hbe hN
      go_wp2_with fail
      refine (HT.out _ (Below.refl _ _)).mono ?_
      rintro x y1 ⟨v1, rfl, ho1, hb1⟩
      obtain ⟨g1, k1, rfl, r1⟩ := ho1.form
      rw [Ser.mulL_length] at ho1 ⊢
      go_wp2_with fail
      refine (HT2.out _ _ _ hb1 r1).mono ?_
      rintro x y2 ⟨v2, rfl, ho2, hb2⟩
      obtain ⟨g2, k2, rfl, r2⟩ := ho2.form
      rw [Ser.mulL_length] at ho2 ⊢
      have hb12 := below_step hb1 hb2
      have x0 := (hb12.cell (p := ⟨b, off + 0, none⟩) (by show b < _; omega)).trans ((HB.out.cell (p := ⟨b, off + 0, none⟩) hbl).trans Q0.out)
      have x1 := (hb12.cell (p := ⟨b, off + 1, none⟩) (by show b < _; omega)).trans ((HB.out.cell (p := ⟨b, off + 1, none⟩) hbl).trans Q1.out)
      have x2 := (hb12.cell (p := ⟨b, off + 2, none⟩) (by show b < _; omega)).trans ((HB.out.cell (p := ⟨b, off + 2, none⟩) hbl).trans Q2.out)
      have x3 := (hb12.cell (p := ⟨b, off + 3, none⟩) (by show b < _; omega)).trans ((HB.out.cell (p := ⟨b, off + 3, none⟩) hbl).trans Q3.out)
      have x4 := (hb12.cell (p := ⟨b, off + 4, none⟩) (by show b < _; omega)).trans ((HB.out.cell (p := ⟨b, off + 4, none⟩) hbl).trans Q4.out)
      change y2.cell? ⟨b, off, none⟩ = _ at x0
      have hoL := HO.out.keep hb12
      obtain ⟨-, -, hcl, hfz⟩ := hoL.cells
      have y1' := hcl (n - 1) (by omega)
      have y2' := hcl (n - 2) (by omega)
      have y3' := hcl n (by omega)
      have r1' := r1.below hb2
      obtain ⟨bs, os, rfl, -, s1⟩ := r1'.at n (by rw [Ser.mulL_length]; omega)
      obtain ⟨bs', os', es, -, s2⟩ := r1'.at (n - 1) (by rw [Ser.mulL_length]; omega)
      injection es with es
      injection es with es1 es2
      subst es1 es2
      obtain ⟨bc, oc, rfl, -, s3⟩ := r2.at n (by rw [Ser.mulL_length]; omega)
      have hfin := Ser.wei_val (m := m) (a1 := a1) (a2 := a2) (a3 := a3) (a4 := a4) (a6 := a6) (L := L) hn (Ser.co (Ser.mulL m n L L)) (Ser.co (Ser.mulL m n (Ser.mulL m n L L) L)) (Ser.mulL_eq (Ser.Eq.refl _ _ _) (Ser.Eq.refl _ _ _)) (Ser.mulL_eq (Ser.Eq.refl _ _ _) (Ser.Eq.refl _ _ _))
      have rS1 : 0 ≤ Ser.co (Ser.mulL m n L L) n ∧ Ser.co (Ser.mulL m n L L) n < m := Ser.cut_red (show 0 < m by omega) n _ n
      have rS2 : 0 ≤ Ser.co (Ser.mulL m n L L) (n - 1) ∧ Ser.co (Ser.mulL m n L L) (n - 1) < m := Ser.cut_red (show 0 < m by omega) n _ (n - 1)
      have rC : 0 ≤ Ser.co (Ser.mulL m n (Ser.mulL m n L L) L) n ∧ Ser.co (Ser.mulL m n (Ser.mulL m n L L) L) n < m := Ser.cut_red (show 0 < m by omega) n _ n
      have rW1 := HNN.out.red (n - 1)
      have rW2 := HNN.out.red (n - 2)
      change y2.cell? _ = some (.int .i64 (Ser.co L (n - 1))) at y1'
      change y2.cell? _ = some (.int .i64 (Ser.co L (n - 2))) at y2'
      obtain ⟨W1, hW1⟩ : ∃ X, Ser.co L (n - 1) = X := ⟨_, rfl⟩
      obtain ⟨W2, hW2⟩ : ∃ X, Ser.co L (n - 2) = X := ⟨_, rfl⟩
      obtain ⟨S1, hS1⟩ : ∃ X, Ser.co (Ser.mulL m n L L) n = X := ⟨_, rfl⟩
      obtain ⟨S2, hS2⟩ : ∃ X, Ser.co (Ser.mulL m n L L) (n - 1) = X := ⟨_, rfl⟩
      obtain ⟨C1, hC1⟩ : ∃ X, Ser.co (Ser.mulL m n (Ser.mulL m n L L) L) n = X := ⟨_, rfl⟩
      rw [hW1] at hfin rW1 y1'
      rw [hW2] at hfin rW2 y2'
      rw [hS1] at hfin rS1 s1
      rw [hS2] at hfin rS2 s2
      rw [hC1] at hfin rC s3
      have n0 := Int.mul_nonneg c0.1 rW1.1
      obtain ⟨u0, v0⟩ := mul_bd (x := a1) (y := W1) (by omega) (by omega) (by omega) (by omega)
      have n1 := Int.mul_nonneg c1.1 rW2.1
      obtain ⟨u1, v1⟩ := mul_bd (x := a2) (y := W2) (by omega) (by omega) (by omega) (by omega)
      have n2 := Int.mul_nonneg c2.1 rS1.1
      obtain ⟨u2, v2⟩ := mul_bd (x := a3) (y := S1) (by omega) (by omega) (by omega) (by omega)
      have n3 := Int.mul_nonneg c3.1 rS2.1
      obtain ⟨u3, v3⟩ := mul_bd (x := a4) (y := S2) (by omega) (by omega) (by omega) (by omega)
      have n4 := Int.mul_nonneg c4.1 rC.1
      obtain ⟨u4, v4⟩ := mul_bd (x := a6) (y := C1) (by omega) (by omega) (by omega) (by omega)
      have j0 : (0 : Int) ≤ (n : Int) - 1 := by omega
      have j1 : (n : Int) - 1 < (D : Int) + 1 := by omega
      have j2 : (0 : Int) ≤ (n : Int) - 2 := by omega
      have j3 : (n : Int) - 2 < (D : Int) + 1 := by omega
      have j4 : (0 : Int) ≤ (n : Int) := by omega
      have j5 : (n : Int) < (D : Int) + 1 := by omega
      have j6 : ((n : Int) - 1).toNat = n - 1 := by omega
      have j7 : ((n : Int) - 2).toNat = n - 2 := by omega
      have HFIN := Lib.hid hfin
      have HOL := Lib.hid hoL
      have HB12 := Lib.hid hb12
      have HC3 := Lib.hid y3'
      have HFZ := Lib.hid hfz
      clear hfin hoL hb12 hcl hfz r1' r1 r2 ho1 ho2 hb1 hb2 HT HT2 hW1 hW2 hS1 hS2 hC1 Q0 Q1 Q2 Q3 Q4
      go_wp2
      go_quiet (fail)
      have hf := HFIN.out
      obtain ⟨T, hT⟩ : ∃ T, a1 * W1 + a2 * W2 + a3 * S1 + a4 * S2 + a6 * C1 = T := ⟨_, rfl⟩
      have t0 : 0 ≤ T := by omega
      have t1 : T ≤ 1000000000000 := by omega
      rw [hT] at hf ⊢
      have hv : ∀ V : Int, V = (if n = 3 then T + 1 else T) → V % m = Ser.weiF a1 a2 a3 a4 a6 (Ser.co L) n % m := by
        intro V hV
        rw [← hf, hV]
        unfold Ser.mon
        split <;> simp
      have hstep : ∀ V : Int, V = (if n = 3 then T + 1 else T) → Hid (Ser.WeiN m D a1 a2 a3 a4 a6 (L.set n (V % m)) (n + 1)) := fun V hV => Lib.hid (HNN.out.step (by omega) hn hlt (hv V hV))
      have HST := Lib.hid hstep
      have d1' : (y2.drewN nq).cell? ⟨w.heap.size, n, none⟩ = some (.int .i64 (L[n]?.getD 0)) := HC3.out
      have f1' : (y2.drewN nq).frozen? ⟨w.heap.size, n, none⟩ = false := HFZ.out n
      have HO9 := Lib.hid (fun V : Int => (HOL.out.drewN nq).set n (V % m))
      have HB9 := Lib.hid (fun V : Int => (below_drewN (below_step HB.out HB12.out) nq).setCell (p := ⟨w.heap.size, n, none⟩) (Nat.le_refl _) (.int .i64 (V % m)))
      clear hT hf hv hstep n0 n1 n2 n3 n4 u0 u1 u2 u3 u4 v0 v1 v2 v3 v4 s1 s2 s3 x0 x1 x2 x3 x4 y1' y2' y3' rS1 rS2 rC rW1 rW2 j0 j1 j2 j3 j6 j7
      by_cases h3 : (n : Int) = 3
      · have h3n : n = 3 := by omega
        have NN := Lib.hid h3n
        have HT := Lib.hid (HST.out (T + 1) (by rw [if_pos h3n]))
        have d2' := d1'
        have f2' := f1'
        rw [h3n] at d2' f2'
        have t2 : IntKind.i64.wrap (T + 1) = T + 1 := by rw [IntKind.wrap_i64]; omega
        have t3 : 0 ≤ T + 1 := by omega
        clear h3n HST
        go_wp2
        go_roundw
        case rel => exact ⟨n + 1, _, by omega, by go_num, HT.out.out, by have z := HO9.out (T + 1); first | exact z | (rw [NN.out] at z ⊢; exact z), by have z := HB9.out (T + 1); first | exact z | (rw [NN.out] at z; exact z)⟩
        case measure => simp only [intOf]; omega
      · have h3n : ¬ n = 3 := by omega
        have HT := Lib.hid (HST.out T (by rw [if_neg h3n]))
        clear h3n HST
        go_wp2
        go_roundw
        case rel => exact ⟨n + 1, _, by omega, by go_num, HT.out.out, HO9.out T, HB9.out T⟩
        case measure => simp only [intOf]; omega
    · have hlt2 : ¬ (n : Int) ≤ (D : Int) := by omega
      have HE := Lib.hid (hN.done (show 0 < m by omega) (by omega))
      clear hN ho hbe
      go_wp2
      go_ret
      exact ⟨_, rfl, by rw [← HE.out]; exact HO.out, HB.out⟩
/-- the result's variable -/
theorem svar0 (w : World) : ∃ W, w.alloc (.cells #[.int .i64 0, .slice none 0 0] 24) = W ∧ Var2 W w.heap.size (.int .i64 0) (.slice none 0 0) ∧ Below w.heap.size w W :=
  ⟨_, rfl, Var2.new _ _ _, below_one _ _⟩
theorem Var2.tells {w : World} {g : Nat} {x y : Value} (h : Var2 w g x y) : w.cell? ⟨g, 0, none⟩ = some x ∧ w.cell? ⟨g, 1, none⟩ = some y ∧ w.frozen? ⟨g, 0, none⟩ = false ∧ w.frozen? ⟨g, 1, none⟩ = false := ⟨h.c0, h.c1, h.fz 0, h.fz 1⟩
set_option maxHeartbeats 4000000 in
set_option maxRecDepth 100000 in
theorem sWeierstrassSeries_any (m d : Int) (A : Option Addr) (c : Nat) (l : List Int) (w : World) (hl : l.length ≤ 1048576) (hr : RI w A l) :
    Calls Try.prog 7 #[.int .i64 m, .int .i64 d, .slice A l.length c] w fun x w' => ∃ s, x = .returned (.tuple #[.agg #[.int .i64 (weiM m d l).1, s], .int .i64 (weiM m d l).2.2]) ∧ OwnI w' w.heap.size s (weiM m d l).2.1 ∧ Below w.heap.size w w' := by
  obtain ⟨W, hW, v3, hwb⟩ := svar0 w
  have hsz := v3.lt
  have V3 := Lib.hid v3
  have HB := Lib.hid hwb
  have HW := Lib.hid hW
  have hr2 := hr.below hwb
  have HC := Lib.hid (l08List_any m d A c l W hl hr2)
  clear v3 hwb hW hr
  by_cases hk : kindW m d l = true
  · obtain ⟨h5, hkk⟩ := kindW_iff hk
    obtain ⟨h1, h2, h3⟩ := kind_iff hkk
    obtain ⟨m1, m2⟩ := (isM_iff m).1 h1
    obtain ⟨d1, d2⟩ := (inB_iff _ _ _).1 h2
    obtain ⟨n, he⟩ : ∃ n : Nat, (n : Int) = d := ⟨d.toNat, by omega⟩
    have HA : Hid (weiM m d l = (m, weiT m n l, 0)) := Lib.hid (by unfold weiM; rw [if_pos hk, ← he, show (n : Int).toNat = n by omega])
    rw [HA.out]
    rw [hk] at HC
    have HT := Lib.hid (fun (W0 : World) (h : Below W.heap.size W W0) => l08Series_any m n A c l W0 m1 m2 (by omega) (by omega) h5 (fun i => allIn_co (by omega) h3 i) (hr2.below h))
    have hTl := weiT_length m n l
    obtain ⟨T, hT⟩ : ∃ T, weiT m n l = T := ⟨_, rfl⟩
    rw [hT] at HT hTl ⊢
    rw [h5] at HC HT ⊢
    subst he
    clear hk hkk h1 h2 h3 hT HA hr2 h5
    go_enter Try.func7, Try.ntmps7
    go_wp2_with fail
    rw [HW.out]
    refine HC.out.mono ?_
    rintro x w0 ⟨rfl, hw0⟩
    subst hw0
    go_wp2_with fail
    refine (HT.out _ (Below.refl _ _)).mono ?_
    rintro x w2 ⟨v, rfl, ho, hb2⟩
    obtain ⟨A2, c2, rfl, -⟩ := ho.form
    rw [hTl] at ho ⊢
    go_wp2_with fail
    refine (l02Make_any _ _ _ _ _).mono ?_
    rintro x w5 ⟨rfl, hb5⟩
    have hb := below_step hb2 hb5
    have hv := V3.out.keep hb
    obtain ⟨q0, q1, q2, q3⟩ := hv.tells
    obtain ⟨f0, f1, f2, f3⟩ := fin_var (w := w) hv (ho.keep hb5) (by omega) (Nat.le_refl _) (below_step HB.out hb) (.int .i64 m) (.slice A2 (n + 1) c2)
    have F2 := Lib.hid f2
    have F3 := Lib.hid f3
    clear f2 f3 hv hb hb2 hb5 ho
    go_wp2
    exact bodyPost_ret (v := .tuple #[.agg #[.int .i64 m, .slice A2 (n + 1) c2], .int .i64 0]) (by simp [results, Try.results7, go_sem, f0, f1]) rfl ⟨_, rfl, F2.out, F3.out⟩
  · have hk' : kindW m d l = false := Bool.eq_false_iff.2 hk
    have HA : Hid (weiM m d l = (0, [], 2)) := Lib.hid (by unfold weiM; rw [if_neg hk])
    rw [HA.out]
    rw [hk'] at HC
    clear hk hk' HA
    go_enter Try.func7, Try.ntmps7
    go_wp2_with fail
    rw [HW.out]
    refine HC.out.mono ?_
    rintro x w0 ⟨rfl, hw0⟩
    subst hw0
    have hv := V3.out
    obtain ⟨q0, q1, q2, q3⟩ := hv.tells
    obtain ⟨f0, f1, f2, f3⟩ := fin_var (w := w) hv (OwnI.nil W W.heap.size) (by omega) (Nat.le_refl _) HB.out (.int .i64 0) (.slice none 0 0)
    have F2 := Lib.hid f2
    have F3 := Lib.hid f3
    clear f2 f3 hv
    go_wp2
    exact bodyPost_ret (v := .tuple #[.agg #[.int .i64 0, .slice none 0 0], .int .i64 2]) (by simp [results, Try.results7, go_sem, f0, f1]) rfl ⟨_, rfl, F2.out, F3.out⟩
end Go.Proofs.Ytilfjhnkjdfcoab

/- A region that draws its order, one of whose operations makes a new block when it likes: whatever the others do is shown in worlds that may have grown meanwhile. -/
namespace Go.Proofs.Ytilfjhnkjdfcoab
open Go Go.RowKit

section
variable {P : Program} {ops : Array Oper} {Q : Exit → Act → World → Prop} {md : Region.Mode} {S : World → Prop} {n f s G0 : Nat} {mk : Nat → Value} {zs : Array Value} {t : TypeId}

/-- the slot's value points at the block that has been made -/
def Ph (mk : Nat → Value) (G0 : Nat) (zs : Array Value) (t : TypeId) (v : Value) (w : World) : Prop := ∃ g, v = mk g ∧ G0 ≤ g ∧ w.heap[g]? = some (.cells zs t (0, 0))
theorem Ph.keep {v : Value} {w w' : World} (h : Ph mk G0 zs t v w) (hb : Below w.heap.size w w') : Ph mk G0 zs t v w' := by
  obtain ⟨g, h1, h2, h3⟩ := h
  exact ⟨g, h1, h2, (hb.block g (Array.getElem?_eq_some_iff.1 h3).1).trans h3⟩
/-- number f has not come up yet, or has -/
def Both (P : Program) (md : Region.Mode) (ops : Array Oper) (Q : Exit → Act → World → Prop) (S : World → Prop) (n f s G0 : Nat) (mk : Nat → Value) (zs : Array Value) (t : TypeId) (fuel : Nat) (listed : Array Bool) (a : Act) (w : World) : Prop :=
  G0 ≤ w.heap.size ∧ (∀ w', Below w.heap.size w w' → S w' → wpTilN P md ops Q S n (fuel + 1) listed a w') ∧
  (∀ v w', Below w.heap.size w w' → S w' → Ph mk G0 zs t v w' → wpTilN P md ops Q S n fuel (listed.setIfInBounds f true) (a.put (some s) v) w')
theorem put_self {a : Act} {v : Value} (h : a.tmps.getD s undef = v) : a.put (some s) v = a := by
  unfold Act.put
  dsimp only
  have : a.tmps.setIfInBounds s v = a.tmps := by
    apply Array.ext_getElem?
    intro i
    rw [Array.getElem?_setIfInBounds]
    by_cases hi : s = i
    · subst hi
      by_cases hs : s < a.tmps.size
      · simp [hs] at h ⊢
        exact h.symm
      · simp [hs]
    · simp [hi]
  rw [this]
theorem put_comm {a : Act} {dst : Option Tmp} (h : dst ≠ some s) (v v' : Value) : (a.put (some s) v').put dst v = (a.put dst v).put (some s) v' := by
  cases dst with
  | none => rfl
  | some d =>
    have hne : s ≠ d := fun e => h (by rw [e])
    unfold Act.put
    dsimp only
    rw [Array.setIfInBounds_comm _ _ hne]
theorem both_step {i : Nat} {o : Oper} {fuel : Nat} {listed : Array Bool} {a : Act} {w : World} (hal : ∀ (w : World) (K : Act → World → Prop), K (a.put (some s) (mk w.heap.size)) (w.alloc (.cells zs t)) → wpOp P ops Q f K a w)
    (hSa : ∀ w, S w → S (w.alloc (.cells zs t))) (hG : G0 ≤ w.heap.size) (hrA : (Region.ready md ops listed).all (fun j => j == f || j == i) = true) (hrC : (Region.ready md ops listed).contains i = true) (hrB : Region.ready md ops (listed.setIfInBounds f true) = [i])
    (hif : i ≠ f) (hin : i < n) (hfn : f < n) (ho : ops[i]? = some o)
    (h : ∀ (v : Value) (w' : World), Below w.heap.size w w' → S w' → ∀ K : Act → World → Prop, Shut (∀ a' w'', a'.tmps.getD s undef = v → Below w'.heap.size w' w'' → S w'' → Both P md ops Q S n f s G0 mk zs t fuel (listed.setIfInBounds i true) a' w'' → K a' w'') →
      if Region.wanted o (yielded ops (a.put (some s) v).tmps) = true then Oper.wp P o (a.put (some s) v) w' K Q else K ((a.put (some s) v).put o.dst undef) w') :
    Both P md ops Q S n f s G0 mk zs t (fuel + 1) listed a w := by
  have c2 : ∀ v w', Below w.heap.size w w' → S w' → Ph mk G0 zs t v w' → wpTilN P md ops Q S n (fuel + 1) (listed.setIfInBounds f true) (a.put (some s) v) w' := by
    intro v w' hb hS hp
    refine ⟨fun e => (by rw [e] at hrB; cases hrB), fun j hj => ?_⟩
    rw [hrB] at hj
    obtain rfl : j = i := by simpa using hj
    refine wpOp_step ho (fun K hK => h v w' hb hS K (fun a' w'' hsl hB hS' hbo => hK a' w'' ⟨fun _ => hS', ?_⟩))
    have := hbo.2.2 v w'' (Below.refl _ _) hS' (hp.keep hB)
    rw [put_self hsl, Array.setIfInBounds_comm _ _ hif] at this
    exact this
  refine ⟨hG, fun w' hb hS => ⟨fun e => (by rw [e] at hrC; cases hrC), fun j hj => ?_⟩, c2⟩
  have hj2 := List.all_eq_true.1 hrA j hj
  rw [Bool.or_eq_true, beq_iff_eq, beq_iff_eq] at hj2
  rcases hj2 with rfl | rfl
  · have hG' : G0 ≤ w'.heap.size := Nat.le_trans hG hb.size
    exact hal w' _ ⟨fun _ => hSa w' hS, c2 _ _ (hb.trans ((Below.refl _ w').alloc (hb.size) _)) (hSa w' hS) ⟨_, rfl, hG', heap_alloc_new w' _⟩⟩
  · have hps : a.put (some s) (a.tmps.getD s undef) = a := put_self rfl
    have h' := h (a.tmps.getD s undef) w' hb hS
    rw [hps] at h'
    exact wpOp_step ho (fun K hK => h' K (fun a' w'' _ _ hS' hbo => hK a' w'' ⟨fun _ => hS', hbo.2.1 w'' (Below.refl _ _) hS'⟩))
theorem both_take {i : Nat} {oi : Oper} {dst : Option Tmp} (v : Value) {fuel : Nat} {listed : Array Bool} {a : Act} {w : World} (hi : ops[i]? = some oi) (hd : oi.dst = dst) (hds : dst ≠ some s) (hs : Region.noSelect ops = true)
    (hf : Region.free md ops listed i = true) (hf' : Region.free md ops (listed.setIfInBounds f true) i = true)
    (hr : (Region.ready md ops listed).contains i = true) (hr' : (Region.ready md ops (listed.setIfInBounds f true)).contains i = true)
    (hw : waitN md ops listed n i = true) (hw' : waitN md ops (listed.setIfInBounds f true) n i = true) (hif : i ≠ f) (hQ : ∀ c a w, Q (.panic c) (a.put dst v) w → Q (.panic c) a w) (hy : ∀ v', YieldsIf P ops S oi v (a.put (some s) v'))
    (h : Both P md ops Q S n f s G0 mk zs t fuel (listed.setIfInBounds i true) (a.put dst v) w) : Both P md ops Q S n f s G0 mk zs t (fuel + 1) listed a w := by
  refine ⟨h.1, fun w' hb hS => ?_, fun v' w' hb hS hp => ?_⟩
  · have hy0 := hy (a.tmps.getD s undef)
    rw [put_self rfl] at hy0
    exact tilN_take v hi hd hs hf hr hw hQ hy0 hS (h.2.1 w' hb hS)
  · refine tilN_take v hi hd hs hf' hr' hw' hQ (hy v') hS ?_
    rw [put_comm hds, Array.setIfInBounds_comm _ _ (fun e => hif e.symm)]
    exact h.2.2 v' w' hb hS hp
theorem both_end {fuel : Nat} {listed : Array Bool} {a : Act} {w : World} (hal : ∀ (w : World) (K : Act → World → Prop), K (a.put (some s) (mk w.heap.size)) (w.alloc (.cells zs t)) → wpOp P ops Q f K a w)
    (hSa : ∀ w, S w → S (w.alloc (.cells zs t))) (hG : G0 ≤ w.heap.size) (hr : Region.ready md ops listed = [f]) (hfn : f < n)
    (h : ∀ (g : Nat) (w' : World), G0 ≤ g → Below w.heap.size w w' → S w' → w'.heap[g]? = some (.cells zs t (0, 0)) → wpTilN P md ops Q S n fuel (listed.setIfInBounds f true) (a.put (some s) (mk g)) w') :
    Both P md ops Q S n f s G0 mk zs t fuel listed a w := by
  refine ⟨hG, fun w' hb hS => ⟨fun e => (by rw [e] at hr; cases hr), fun j hj => ?_⟩, fun v w' hb hS hp => ?_⟩
  · rw [hr] at hj
    obtain rfl : j = f := by simpa using hj
    exact hal w' _ ⟨fun _ => hSa w' hS, h _ _ (Nat.le_trans hG hb.size) (hb.trans ((Below.refl _ w').alloc hb.size _)) (hSa w' hS) (heap_alloc_new w' _)⟩
  · obtain ⟨g, rfl, h1, h2⟩ := hp
    exact h g w' h1 hb hS h2
/-- from here on number f may come up -/
theorem both_in {fuel : Nat} {listed : Array Bool} {a : Act} {w : World} (f s G0 : Nat) (mk : Nat → Value) (zs : Array Value) (t : TypeId) (hS : S w) (h : Both P md ops Q S n f s G0 mk zs t fuel listed a w) : wpTilN P md ops Q S n (fuel + 1) listed a w := h.2.1 w (Below.refl _ _) hS
theorem region_free {id fuel : Nat} {a : Act} {w : World} (S : World → Prop) (n f s G0 : Nat) (mk : Nat → Value) (zs : Array Value) (t : TypeId) (hm : P.follows .mixedOrders = true) (hz : ops.size = fuel + 1) (hS : S w.drew)
    (h : Both P .any ops Q S n f s G0 mk zs t fuel (Array.replicate ops.size false) a w.drew) : (Code.region id ops true).wp P Q a w := by
  refine region_tilN S n hm ?_
  have := h.2.1 _ (Below.refl _ _) hS
  rw [hz] at this ⊢
  exact this
end
/-- a store into a variable leaves a table alone that a call has made -/
theorem OwnR.offvar {w w' : World} {lo hi g : Nat} {v : Value} {rows : List (List Int)} {T : TypeId} {cs : Array Value} (h : OwnR w lo hi v rows) (hv : VarC T w g cs) (h1 : T ≠ 22) (h2 : T ≠ 2) (hg : w.grownBy w' (some g)) : OwnR w' lo hi v rows := by
  have key : ∀ (b : Nat) (cs' : Array Value) (t' : TypeId) (f : Nat × Nat), w.heap[b]? = some (.cells cs' t' f) → t' ≠ T → (some g : Option Nat) ≠ some b := by
    intro b cs' t' f hh hne e
    injection e with e
    subst e
    unfold VarC at hv
    rw [hv] at hh
    injection hh with hh
    injection hh with e1 e2
    exact hne e2.symm
  obtain ⟨vs, k1, k2, k3, k4⟩ := h
  refine ⟨vs, ⟨k1.1, ?_⟩, k2, fun i r hr' => ?_, k4⟩
  · rcases k1.2 with hn | ⟨b, cap, cur, rfl, hg', hh, rest⟩
    · exact .inl hn
    · exact .inr ⟨b, cap, cur, rfl, hg', (hg.block b (Array.getElem?_eq_some_iff.1 hh).1 (fun e => key b _ _ _ hh (fun e => h1 e.symm) e.symm)).trans hh, rest⟩
  · obtain ⟨u, a, b, c⟩ := k3 i r hr'
    refine ⟨u, a, b.other hg ?_, c⟩
    unfold OwnI at b
    rcases b.2 with ⟨rfl, _⟩ | ⟨b0, cap, cur, rfl, _, hh, _⟩
    · exact .inl rfl
    · exact .inr (fun e => key b0 _ _ _ hh (fun e => h2 e.symm) e.symm)
/-- a grid is stored into a variable that was made on the way -/
theorem fin_free {T : TypeId} {w w2 w3 : World} {g lo hi : Nat} {v a b c : Value} {t : List (List Int)} (hv : VarC T w3 g #[a, b, c]) (ho : OwnR w2 lo hi v t) (hb : Below hi w2 w3) (h1 : T ≠ 22) (h2 : T ≠ 2) (hwg : w.heap.size ≤ g) (hhi : hi ≤ w3.heap.size) (hbw : Below w.heap.size w w3) (p q r : Value) :
    VarC T (((w3.setCell ⟨g, 0, none⟩ p).setCell ⟨g, 1, none⟩ q).setCell ⟨g, 2, none⟩ r) g #[p, q, r] ∧ OwnR (((w3.setCell ⟨g, 0, none⟩ p).setCell ⟨g, 1, none⟩ q).setCell ⟨g, 2, none⟩ r) lo hi v t ∧ Below w.heap.size w (((w3.setCell ⟨g, 0, none⟩ p).setCell ⟨g, 1, none⟩ q).setCell ⟨g, 2, none⟩ r) ∧ hi ≤ (((w3.setCell ⟨g, 0, none⟩ p).setCell ⟨g, 1, none⟩ q).setCell ⟨g, 2, none⟩ r).heap.size :=
  ⟨hv.set3 p q r, (ho.keep hb).offvar hv h1 h2 (grown_set3 w3 g p q r), below_set3 hbw hwg p q r, Nat.le_trans hhi (grown_set3 w3 g p q r).size⟩
end Go.Proofs.Ytilfjhnkjdfcoab

/- Contracts of AddSeries, of the program. -/
namespace Go.Proofs.Ytilfjhnkjdfcoab
open Go.RowKit Go.WideShapes Go.ChangeShapes Go.ChangeAt

theorem code2_iff {m : Int} {l : List Int} {m' : Int} {l' : List Int} (h : code2 m l m' l' = 0) : isS m l = true ∧ isS m' l' = true ∧ m = m' ∧ l.length = l'.length := by
  unfold code2 at h
  by_cases h1 : isS m l = true ∧ isS m' l' = true
  · rw [if_pos h1] at h
    by_cases h2 : m = m' ∧ l.length = l'.length
    · exact ⟨h1.1, h1.2, h2.1, h2.2⟩
    · rw [if_neg h2] at h; exact absurd h (by decide)
  · rw [if_neg h1] at h; exact absurd h (by decide)
theorem code2_ok {m : Int} {l : List Int} {m' : Int} {l' : List Int} (h : code2 m l m' l' = 0) : m = m' ∧ ∃ d, l.length = d + 1 ∧ l'.length = d + 1 ∧ SerOk m d l ∧ SerOk m d l' := by
  obtain ⟨h1, h2, rfl, h4⟩ := code2_iff h
  obtain ⟨d, e1, s1⟩ := serOk_of h1
  obtain ⟨d', e2, s2⟩ := serOk_of h2
  obtain rfl : d = d' := by omega
  exact ⟨rfl, d, e1, e2, s1, s2⟩

/-- a function of two series that are alike -/
def twoM (f : Int → Nat → List Int → List Int → List Int) (m : Int) (l : List Int) (m' : Int) (l' : List Int) : Int × List Int × Int :=
  if code2 m l m' l' = 0 then (m, f m (l.length - 1) l l', 0) else (0, [], code2 m l m' l')
def addL (m : Int) (d : Nat) (l l' : List Int) : List Int := Ser.cut m d fun n => Ser.co l n + Ser.co l' n
def addM := twoM addL
theorem addM_len (m : Int) (l : List Int) (m' : Int) (l' : List Int) : (addM m l m' l').2.1.length ≤ 1048576 := by
  unfold addM twoM addL
  split
  · rename_i h
    obtain ⟨_, d, e, _, s, _⟩ := code2_ok h
    have := s.d2
    dsimp only
    rw [Ser.cut_length]
    omega
  · simp

/-- the world behind both boxes, the result's variable and the list of both -/
theorem box4_new (w : World) (m m' : Int) (A A' : Option Addr) (n c n' c' : Nat) (W : World) (hW : ((((w.alloc (.cells #[.int .i64 m, .slice A n c] 24)).alloc (.cells #[.int .i64 m', .slice A' n' c'] 24)).alloc (.cells #[.int .i64 0, .slice none 0 0] 24)).alloc (.cells #[.int .i64 m, .slice A n c, .int .i64 m', .slice A' n' c'] 24)) = W) :
    Box W w.heap.size m A n c ∧ Box W (w.heap.size + 1) m' A' n' c' ∧ Var2 W (w.heap.size + 1 + 1) (.int .i64 0) (.slice none 0 0) ∧ Box4 W (w.heap.size + 1 + 1 + 1) m A n c m' A' n' c' ∧ Below w.heap.size w W := by
  obtain ⟨W0, hW0⟩ : ∃ W0, (((w.alloc (.cells #[.int .i64 m, .slice A n c] 24)).alloc (.cells #[.int .i64 m', .slice A' n' c'] 24)).alloc (.cells #[.int .i64 0, .slice none 0 0] 24)) = W0 := ⟨_, rfl⟩
  obtain ⟨h1, h2, h3, h4⟩ := box3_new w m m' A A' n c n' c' W0 hW0
  have hs : W0.heap.size = w.heap.size + 1 + 1 + 1 := by rw [← hW0]; simp
  rw [hW0] at hW
  subst hW
  refine ⟨h1.keep (below_one _ _), h2.keep (below_one _ _), h3.keep (below_one _ _), ?_, below_alloc _ h4⟩
  rw [← hs]
  exact Box4.new _ _ _ _ _ _ _ _ _

theorem OwnI.nil' (w : World) (base : Nat) : OwnI w base (.slice none 0 0) [] := OwnI.nil w base

end Go.Proofs.Ytilfjhnkjdfcoab

/- Contracts of the model's functions that look at series and make them. -/
namespace Go.Proofs.Ytilfjhnkjdfcoab
open Go.RowKit Go.WideShapes Go.ChangeShapes Go.ChangeAt

end Go.Proofs.Ytilfjhnkjdfcoab

/- Contracts of MultiplySeries, of the program and of the model. -/
namespace Go.Proofs.Ytilfjhnkjdfcoab
open Go.RowKit Go.WideShapes Go.ChangeShapes Go.ChangeAt

set_option maxHeartbeats 1000000 in
theorem timesC_any (n : Nat) (g g' : Nat) (m : Int) (d : Nat) (A : Option Addr) (c : Nat) (l : List Int) (m' : Int) (A' : Option Addr) (c' : Nat) (l' : List Int) (W : World)
    (hb : Box W g m A l.length c) (hb' : Box W g' m' A' l'.length c') (hs : SerOk m d l) (hs' : SerOk m d l') (hr : RI W A l) (hr' : RI W A' l') (hn : n ≤ d) :
    Calls Try.prog 101 #[.int .i64 n, .pointer (some ⟨g, 0, none⟩), .pointer (some ⟨g', 0, none⟩)] W fun e w' => e = .returned (.int .i64 (Ser.cv n (Ser.co l) (Ser.co l'))) ∧ Below W.heap.size W w' := by
  obtain ⟨x1, x2, _⟩ := hb
  obtain ⟨y1, y2, _⟩ := hb'
  have HP := Lib.hid (productAt_any m d n A c l m' A' c' l' W hs hs' hr hr' hn)
  clear hs hs' hr hr'
  go_enter Try.func101, Try.ntmps101
  go_wp2_with fail
  refine HP.out.mono ?_
  rintro e w1 ⟨rfl, hb1⟩
  go_wp2
  go_ret
  exact ⟨rfl, hb1⟩

theorem psum_bd (f : Nat → Int) (B : Int) (hf : ∀ i, 0 ≤ f i ∧ f i ≤ B) : ∀ n : Nat, 0 ≤ Ser.psum f n ∧ Ser.psum f n ≤ n * B := by
  intro n
  induction n with
  | zero => simp [Ser.psum]
  | succ n ih =>
    have := hf n
    have e : ((n + 1 : Nat) : Int) * B = n * B + B := by rw [show ((n + 1 : Nat) : Int) = (n : Int) + 1 by omega, Int.add_mul, Int.one_mul]
    rw [Ser.psum, e]
    omega
theorem cv_bd {m : Int} {l l' : List Int} (m2 : m ≤ 10000) (h : Ser.Red m l) (h' : Ser.Red m l') (n : Nat) (hn : n ≤ 1000) : 0 ≤ Ser.cv n (Ser.co l) (Ser.co l') ∧ Ser.cv n (Ser.co l) (Ser.co l') ≤ 100100000000 := by
  rw [Ser.cv_psum]
  have := psum_bd (fun i => Ser.co l i * Ser.co l' (n - i)) 100000000 (fun i => by
    have h1 := h i
    have h2 := h' (n - i)
    exact ⟨Int.mul_nonneg h1.1 h2.1, (mul_bd h1.1 (by omega) (by omega) (by omega)).2⟩) (n + 1)
  refine ⟨this.1, Int.le_trans this.2 ?_⟩
  omega

set_option maxHeartbeats 2000000 in
set_option maxRecDepth 100000 in
theorem times_any (m : Int) (d : Nat) (A : Option Addr) (c : Nat) (l : List Int) (m' : Int) (A' : Option Addr) (c' : Nat) (l' : List Int) (w : World) (hs : SerOk m d l) (hs' : SerOk m d l') (hr : RI w A l) (hr' : RI w A' l') :
    Calls Try.prog 60 #[.agg #[.int .i64 m, .slice A l.length c], .agg #[.int .i64 m', .slice A' l'.length c']] w fun e w' => ∃ v, e = .returned (.agg #[.int .i64 m, v]) ∧ OwnI w' w.heap.size v (Ser.mulL m d l l') ∧ Below w.heap.size w w' := by
  obtain ⟨W, hW⟩ : ∃ W, (((w.alloc (.cells #[.int .i64 m, .slice A l.length c] 24)).alloc (.cells #[.int .i64 m', .slice A' l'.length c'] 24)).alloc (.cells #[.int .i64 0, .slice none 0 0] 24)) = W := ⟨_, rfl⟩
  obtain ⟨b1, b2, v3, hwb⟩ := box3_new w m m' A A' l.length c l'.length c' W hW
  have B1 := Lib.hid b1
  have B2 := Lib.hid b2
  have V3 := Lib.hid v3
  have HB := Lib.hid hwb
  have HW := Lib.hid hW
  have R1 := Lib.hid (hr.below hwb)
  have R2 := Lib.hid (hr'.below hwb)
  have HS := Lib.hid (fun W0 (h0 : Below W.heap.size W W0) => seriesOf_any m d 101 #[.pointer (some ⟨w.heap.size, 0, none⟩), .pointer (some ⟨w.heap.size + 1, 0, none⟩)] (Ser.mul (Ser.co l) (Ser.co l')) W0 (by have := hs.m1; omega) hs.m2 (by have := hs.d2; omega)
    (fun n hn => by have := cv_bd hs.m2 hs.red hs'.red n (by have := hs.d2; omega); rw [Ser.mul_at]; omega)
    (enters_fn Try.func101 (of_decide_eq_true (by kernel_rfl)) rfl)
    (fun n W1 hn hb => by
      have hb2 := h0.trans (hb.mono h0.size)
      exact timesC_any n _ _ m d A c l m' A' c' l' W1 (B1.out.keep hb2) (B2.out.keep hb2) hs hs' (R1.out.below hb2) (R2.out.below hb2) hn))
  have HL := Lib.hid hs.len
  have HD := Lib.hid hs.d2
  obtain ⟨L, hLL⟩ : ∃ L, Ser.mulL m d l l' = L := ⟨_, rfl⟩
  unfold Ser.mulL at hLL ⊢
  rw [hLL] at HS ⊢
  clear b1 b2 v3 hwb hW hr hr' hs hs' hLL
  go_enter Try.func60, Try.ntmps60
  go_wp2
  rw [HW.out]
  obtain ⟨x1, x2, x3⟩ := B1.out
  go_region_held3 (fun w' => w'.cell? ⟨w.heap.size, 0, none⟩ = some (.int .i64 m) ∧ w'.cell? ⟨w.heap.size, 1, none⟩ = some (.slice A l.length c) ∧ w.heap.size < w'.heap.size) (first | exact ⟨x1, x2, x3⟩ | exact box_store (by omega) (by assumption) | exact box_call (by assumption) (by assumption)) (first
    | (go_at_call 98; refine (degree_nat _ _ _ _ d _ HL.out (by have := HD.out; omega)).mono ?_; rintro e1 w1 ⟨rfl, hb1⟩)
    | (go_at_call 96; refine (HS.out _ ((below_drew0 W).trans hb1)).mono ?_; rintro e2 w2 ⟨v, rfl, ho2, hb2⟩; obtain ⟨A2, c2, rfl, _⟩ := ho2.form; have hv := V3.out.keep (((below_drew0 W).trans hb1).trans (hb2.mono ((below_drew0 W).trans hb1).size)); have q0 := hv.c0; have q1 := hv.c1; have q2 := hv.fz 0; have q3 := hv.fz 1))
  all_goals
    have hz := ((below_drew0 W).trans hb1).size
    have hg := x3
    have hw2 : Below w.heap.size w w2 := (HB.out.trans (((below_drew0 W).trans hb1).mono HB.out.size)).trans (hb2.mono (by have := HB.out.size; omega))
    obtain ⟨f0, f1, f2, f3⟩ := fin_var (w := w) hv ho2 (by have := V3.out.lt; omega) (by omega) hw2 (.int .i64 m) (.slice A2 L.length c2)
    have F2 := Lib.hid f2
    have F3 := Lib.hid f3
    clear f2 f3 hw2 ho2 hb2 hb1
    go_wp2
    refine bodyPost_ret (v := .agg #[.int .i64 m, .slice A2 L.length c2]) (by simp [results, Try.results60, go_sem, f0, f1]) rfl ⟨_, rfl, F2.out, F3.out⟩

def mulM := twoM Ser.mulL
theorem mulM_len (m : Int) (l : List Int) (m' : Int) (l' : List Int) : (mulM m l m' l').2.1.length ≤ 1048576 := by
  unfold mulM twoM
  split
  · rename_i h
    obtain ⟨_, d, e, _, s, _⟩ := code2_ok h
    have := s.d2
    dsimp only
    rw [Ser.mulL_length]
    omega
  · simp
theorem l02Times_ok (m : Int) (d : Nat) (A : Option Addr) (c : Nat) (l : List Int) (A' : Option Addr) (c' : Nat) (l' : List Int) (w : World) (hs : SerOk m d l) (hs' : SerOk m d l') (hr : RI w A l) (hr' : RI w A' l') :
    Calls Try.prog 55 #[.int .i64 m, .slice A l.length c, .slice A' l'.length c', .int .i64 d] w fun e w' => ∃ v, e = .returned v ∧ OwnI w' w.heap.size v (Ser.mulL m d l l') ∧ Below w.heap.size w w' :=
  l02Times_any m d A c l A' c' l' w hs.m1 hs.m2 (by have := hs.d2; omega) (by have := hs.d2; have := hs.len; omega) (by have := hs'.d2; have := hs'.len; omega) hs.red hs'.red hr hr'
end Go.Proofs.Ytilfjhnkjdfcoab

/- Contracts of the Weierstrass series, of the program. -/
namespace Go.Proofs.Ytilfjhnkjdfcoab
open Go Go.RowKit Go.WideShapes Go.ChangeShapes Go.ChangeAt

set_option maxHeartbeats 4000000 in
set_option maxRecDepth 100000 in
theorem cubicOf_any (m d : Int) (A : Option Addr) (c : Nat) (l : List Int) (w : World) (hr : RI w A l) :
    Calls Try.prog 29 #[.int .i64 m, .int .i64 d, .slice A l.length c] w fun x w' => ∃ x1 x2 x3 x4 x6 : Int, x = .returned (.tuple #[.agg #[.int .i64 x1, .int .i64 x2, .int .i64 x3, .int .i64 x4, .int .i64 x6], .int .i64 (if kindW m d l = true then 0 else 2)]) ∧ (kindW m d l = true → x1 = Ser.co l 0 ∧ x2 = Ser.co l 1 ∧ x3 = Ser.co l 2 ∧ x4 = Ser.co l 3 ∧ x6 = Ser.co l 4) ∧ Below w.heap.size w w' := by
  obtain ⟨W, hW, hwb⟩ : ∃ W, w.alloc (.cells #[.int .i64 0, .int .i64 0, .int .i64 0, .int .i64 0, .int .i64 0] 50) = W ∧ Below w.heap.size w W := ⟨_, rfl, below_one _ _⟩
  have hv : VarC 50 W w.heap.size #[.int .i64 0, .int .i64 0, .int .i64 0, .int .i64 0, .int .i64 0] := by rw [← hW]; exact VarC.new _ _ _
  have hr2 := hr.below hwb
  by_cases h5 : l.length = 5
  · have hkw : kindW m d l = kindB m d l := by unfold kindW; rw [decide_eq_true h5, Bool.true_and]
    have hco := codeOfStandard_any m d A c l W.drew (by omega) (hr2.below (below_drew0 W))
    obtain ⟨C, hC⟩ : ∃ C, codeSt m d l = C := ⟨_, rfl⟩
    have hcc : (if kindW m d l = true then 0 else 2) = C := by rw [hkw, ← hC]; rfl
    rw [hcc]
    rw [hC] at hco
    obtain ⟨b, off, rfl, hb0, -⟩ := hr2.at 0 (by omega)
    have hat : ∀ i, i < 5 → W.drew.cell? ⟨b, off + i, none⟩ = some (.int .i64 (Ser.co l i)) := fun i hi => by
      obtain ⟨b', off', e, hb, hc⟩ := hr2.at i (by omega)
      injection e with e
      injection e with e1 e2
      subst e1 e2
      exact hc
    have x0 : W.drew.cell? ⟨b, off, none⟩ = some (.int .i64 (Ser.co l 0)) := hat 0 (by omega)
    have x1 := hat 1 (by omega)
    have x2 := hat 2 (by omega)
    have x3 := hat 3 (by omega)
    have x4 := hat 4 (by omega)
    have HCO := Lib.hid hco
    obtain ⟨a1, ha1⟩ : ∃ a, Ser.co l 0 = a := ⟨_, rfl⟩
    obtain ⟨a2, ha2⟩ : ∃ a, Ser.co l 1 = a := ⟨_, rfl⟩
    obtain ⟨a3, ha3⟩ : ∃ a, Ser.co l 2 = a := ⟨_, rfl⟩
    obtain ⟨a4, ha4⟩ : ∃ a, Ser.co l 3 = a := ⟨_, rfl⟩
    obtain ⟨a6, ha6⟩ : ∃ a, Ser.co l 4 = a := ⟨_, rfl⟩
    rw [ha1] at x0
    rw [ha2] at x1
    rw [ha3] at x2
    rw [ha4] at x3
    rw [ha6] at x4
    rw [ha1, ha2, ha3, ha4, ha6]
    rw [h5] at HCO ⊢
    have HW := Lib.hid hW
    have HB := Lib.hid hwb
    have HV := Lib.hid hv
    clear hW hwb hv hco hC hcc hkw hr hr2 hat ha1 ha2 ha3 ha4 ha6 h5 hb0
    go_enter Try.func29, Try.ntmps29
    go_upto_region 3 with fail
    rw [HW.out]
    have hv := HV.out.drew
    have HB9 := Lib.hid (HB.out.drew)
    obtain ⟨w9, hw9⟩ : ∃ w9, W.drew = w9 := ⟨_, rfl⟩
    have hS0 : w9 = w9 := rfl
    refine region_tilN (fun w' => w' = w9) 20 (by kernel_rfl) ?_
    rw [hw9] at x0 x1 x2 x3 x4 hv HCO HB9 ⊢
    have HV9 := Lib.hid hv
    clear hw9 hv
    refine tilN_take (i := 0) (dst := some 12) (.slice (some ⟨b, off, none⟩) 5 c) rfl rfl (by kernel_rfl) (by kernel_rfl) (by kernel_rfl) (by kernel_rfl) (fun _ _ _ h => h) (Or.inl ⟨by rfl, ?_⟩) hS0 ?_
    · rintro w' rfl
      go_simp
    simp only [Act.put, List.setIfInBounds_toArray, List.set_cons_zero, List.set_cons_succ]
    refine tilN_take (i := 1) (dst := some 13) (.pointer (some ⟨b, off, none⟩)) rfl rfl (by kernel_rfl) (by kernel_rfl) (by kernel_rfl) (by kernel_rfl) (fun _ _ _ h => h) (Or.inl ⟨by rfl, ?_⟩) hS0 ?_
    · rintro w' rfl
      go_simp
    simp only [Act.put, List.setIfInBounds_toArray, List.set_cons_zero, List.set_cons_succ]
    refine tilN_take (i := 2) (dst := some 14) (.int .i64 a1) rfl rfl (by kernel_rfl) (by kernel_rfl) (by kernel_rfl) (by kernel_rfl) (fun _ _ _ h => h) (Or.inl ⟨by rfl, ?_⟩) hS0 ?_
    · rintro w' rfl
      go_simp
    simp only [Act.put, List.setIfInBounds_toArray, List.set_cons_zero, List.set_cons_succ]
    refine tilN_take (i := 3) (dst := some 15) (.slice (some ⟨b, off, none⟩) 5 c) rfl rfl (by kernel_rfl) (by kernel_rfl) (by kernel_rfl) (by kernel_rfl) (fun _ _ _ h => h) (Or.inl ⟨by rfl, ?_⟩) hS0 ?_
    · rintro w' rfl
      go_simp
    simp only [Act.put, List.setIfInBounds_toArray, List.set_cons_zero, List.set_cons_succ]
    refine tilN_take (i := 4) (dst := some 16) (.pointer (some ⟨b, off + 1, none⟩)) rfl rfl (by kernel_rfl) (by kernel_rfl) (by kernel_rfl) (by kernel_rfl) (fun _ _ _ h => h) (Or.inl ⟨by rfl, ?_⟩) hS0 ?_
    · rintro w' rfl
      go_simp
    simp only [Act.put, List.setIfInBounds_toArray, List.set_cons_zero, List.set_cons_succ]
    refine tilN_take (i := 5) (dst := some 17) (.int .i64 a2) rfl rfl (by kernel_rfl) (by kernel_rfl) (by kernel_rfl) (by kernel_rfl) (fun _ _ _ h => h) (Or.inl ⟨by rfl, ?_⟩) hS0 ?_
    · rintro w' rfl
      go_simp
    simp only [Act.put, List.setIfInBounds_toArray, List.set_cons_zero, List.set_cons_succ]
    refine tilN_take (i := 6) (dst := some 18) (.slice (some ⟨b, off, none⟩) 5 c) rfl rfl (by kernel_rfl) (by kernel_rfl) (by kernel_rfl) (by kernel_rfl) (fun _ _ _ h => h) (Or.inl ⟨by rfl, ?_⟩) hS0 ?_
    · rintro w' rfl
      go_simp
    simp only [Act.put, List.setIfInBounds_toArray, List.set_cons_zero, List.set_cons_succ]
    refine tilN_take (i := 7) (dst := some 19) (.pointer (some ⟨b, off + 2, none⟩)) rfl rfl (by kernel_rfl) (by kernel_rfl) (by kernel_rfl) (by kernel_rfl) (fun _ _ _ h => h) (Or.inl ⟨by rfl, ?_⟩) hS0 ?_
    · rintro w' rfl
      go_simp
    simp only [Act.put, List.setIfInBounds_toArray, List.set_cons_zero, List.set_cons_succ]
    refine tilN_take (i := 8) (dst := some 20) (.int .i64 a3) rfl rfl (by kernel_rfl) (by kernel_rfl) (by kernel_rfl) (by kernel_rfl) (fun _ _ _ h => h) (Or.inl ⟨by rfl, ?_⟩) hS0 ?_
    · rintro w' rfl
      go_simp
    simp only [Act.put, List.setIfInBounds_toArray, List.set_cons_zero, List.set_cons_succ]
    refine tilN_take (i := 9) (dst := some 21) (.slice (some ⟨b, off, none⟩) 5 c) rfl rfl (by kernel_rfl) (by kernel_rfl) (by kernel_rfl) (by kernel_rfl) (fun _ _ _ h => h) (Or.inl ⟨by rfl, ?_⟩) hS0 ?_
    · rintro w' rfl
      go_simp
    simp only [Act.put, List.setIfInBounds_toArray, List.set_cons_zero, List.set_cons_succ]
    refine tilN_take (i := 10) (dst := some 22) (.pointer (some ⟨b, off + 3, none⟩)) rfl rfl (by kernel_rfl) (by kernel_rfl) (by kernel_rfl) (by kernel_rfl) (fun _ _ _ h => h) (Or.inl ⟨by rfl, ?_⟩) hS0 ?_
    · rintro w' rfl
      go_simp
    simp only [Act.put, List.setIfInBounds_toArray, List.set_cons_zero, List.set_cons_succ]
    refine tilN_take (i := 11) (dst := some 23) (.int .i64 a4) rfl rfl (by kernel_rfl) (by kernel_rfl) (by kernel_rfl) (by kernel_rfl) (fun _ _ _ h => h) (Or.inl ⟨by rfl, ?_⟩) hS0 ?_
    · rintro w' rfl
      go_simp
    simp only [Act.put, List.setIfInBounds_toArray, List.set_cons_zero, List.set_cons_succ]
    refine tilN_take (i := 12) (dst := some 24) (.slice (some ⟨b, off, none⟩) 5 c) rfl rfl (by kernel_rfl) (by kernel_rfl) (by kernel_rfl) (by kernel_rfl) (fun _ _ _ h => h) (Or.inl ⟨by rfl, ?_⟩) hS0 ?_
    · rintro w' rfl
      go_simp
    simp only [Act.put, List.setIfInBounds_toArray, List.set_cons_zero, List.set_cons_succ]
    refine tilN_take (i := 13) (dst := some 25) (.pointer (some ⟨b, off + 4, none⟩)) rfl rfl (by kernel_rfl) (by kernel_rfl) (by kernel_rfl) (by kernel_rfl) (fun _ _ _ h => h) (Or.inl ⟨by rfl, ?_⟩) hS0 ?_
    · rintro w' rfl
      go_simp
    simp only [Act.put, List.setIfInBounds_toArray, List.set_cons_zero, List.set_cons_succ]
    refine tilN_take (i := 14) (dst := some 26) (.int .i64 a6) rfl rfl (by kernel_rfl) (by kernel_rfl) (by kernel_rfl) (by kernel_rfl) (fun _ _ _ h => h) (Or.inl ⟨by rfl, ?_⟩) hS0 ?_
    · rintro w' rfl
      go_simp
    simp only [Act.put, List.setIfInBounds_toArray, List.set_cons_zero, List.set_cons_succ]
    refine tilN_take (i := 15) (dst := some 27) (.agg #[.int .i64 a1, .int .i64 a2, .int .i64 a3, .int .i64 a4, .int .i64 a6]) rfl rfl (by kernel_rfl) (by kernel_rfl) (by kernel_rfl) (by kernel_rfl) (fun _ _ _ h => h) (Or.inl ⟨by rfl, ?_⟩) hS0 ?_
    · rintro w' rfl
      go_simp
    simp only [Act.put, List.setIfInBounds_toArray, List.set_cons_zero, List.set_cons_succ]
    refine tilN_take (i := 16) (dst := some 28) (.int .i64 m) rfl rfl (by kernel_rfl) (by kernel_rfl) (by kernel_rfl) (by kernel_rfl) (fun _ _ _ h => h) (Or.inl ⟨by rfl, ?_⟩) hS0 ?_
    · rintro w' rfl
      go_simp
    simp only [Act.put, List.setIfInBounds_toArray, List.set_cons_zero, List.set_cons_succ]
    refine tilN_take (i := 17) (dst := some 29) (.int .i64 d) rfl rfl (by kernel_rfl) (by kernel_rfl) (by kernel_rfl) (by kernel_rfl) (fun _ _ _ h => h) (Or.inl ⟨by rfl, ?_⟩) hS0 ?_
    · rintro w' rfl
      go_simp
    simp only [Act.put, List.setIfInBounds_toArray, List.set_cons_zero, List.set_cons_succ]
    refine tilN_take (i := 18) (dst := some 30) (.slice (some ⟨b, off, none⟩) 5 c) rfl rfl (by kernel_rfl) (by kernel_rfl) (by kernel_rfl) (by kernel_rfl) (fun _ _ _ h => h) (Or.inl ⟨by rfl, ?_⟩) hS0 ?_
    · rintro w' rfl
      go_simp
    simp only [Act.put, List.setIfInBounds_toArray, List.set_cons_zero, List.set_cons_succ]
    have hv := HV9.out
    have q0 := hv.cell 0 _ rfl
    have z0 := hv.fz 0
    have q1 := hv.cell 1 _ rfl
    have z1 := hv.fz 1
    have q2 := hv.cell 2 _ rfl
    have z2 := hv.fz 2
    have q3 := hv.cell 3 _ rfl
    have z3 := hv.fz 3
    have q4 := hv.cell 4 _ rfl
    have z4 := hv.fz 4
    clear hv
    refine tilN_one (i := 19) (by kernel_rfl) rfl (fun K hK => ?_)
    go_simp
    (go_at_call 56; with_reducible refine Calls.mono HCO.out ?_; rintro x w' ⟨rfl, hw'⟩; subst hw')
    dsimp only
    refine hK.out _ _ (fun _ => rfl) ?_
    clear hK K
    try simp only [Act.put, List.setIfInBounds_toArray, List.set_cons_zero, List.set_cons_succ]
    refine tilN_one (i := 20) (by kernel_rfl) rfl (fun K hK => ?_)
    go_simp
    refine hK.out _ _ (fun hlt => absurd hlt (by decide)) ?_
    clear hK K
    have hv5 := ((((HV9.out.set 0 (.int .i64 a1)).set 1 (.int .i64 a2)).set 2 (.int .i64 a3)).set 3 (.int .i64 a4)).set 4 (.int .i64 a6)
    have F0 := hv5.cell 0 _ rfl
    have F1 := hv5.cell 1 _ rfl
    have F2 := hv5.cell 2 _ rfl
    have F3 := hv5.cell 3 _ rfl
    have F4 := hv5.cell 4 _ rfl
    have hb5 := Lib.hid (((((HB9.out.setCell (p := ⟨w.heap.size, 0, none⟩) (Nat.le_refl _) (.int .i64 a1)).setCell (p := ⟨w.heap.size, 1, none⟩) (Nat.le_refl _) (.int .i64 a2)).setCell (p := ⟨w.heap.size, 2, none⟩) (Nat.le_refl _) (.int .i64 a3)).setCell (p := ⟨w.heap.size, 3, none⟩) (Nat.le_refl _) (.int .i64 a4)).setCell (p := ⟨w.heap.size, 4, none⟩) (Nat.le_refl _) (.int .i64 a6))
    clear hv5
    refine tilN_one (i := 21) (by kernel_rfl) rfl (fun K hK => ?_)
    go_simp
    refine hK.out _ _ (fun hlt => absurd hlt (by decide)) ?_
    clear hK K
    refine tilN_done (by kernel_rfl) ?_
    go_wp2
    exact bodyPost_ret (v := .tuple #[.agg #[.int .i64 a1, .int .i64 a2, .int .i64 a3, .int .i64 a4, .int .i64 a6], .int .i64 C]) (by simp [results, Try.results29, go_sem, F0, F1, F2, F3, F4]) rfl ⟨_, _, _, _, _, rfl, fun _ => ⟨rfl, rfl, rfl, rfl, rfl⟩, hb5.out⟩
  · have hkw : kindW m d l = false := by unfold kindW; rw [decide_eq_false h5, Bool.false_and]
    rw [hkw]
    have h5' : ¬ (l.length : Int) = 5 := by omega
    have n1 : ((l.length : Int) == 5) = false := beq_eq_false_iff_ne.2 h5'
    have n2 : ((l.length : Int) != 5) = true := by rw [bne, n1]; rfl
    have q0 : W.cell? ⟨w.heap.size, 0, none⟩ = some (.int .i64 0) := hv.cell 0 _ rfl
    have q1 : W.cell? ⟨w.heap.size, 1, none⟩ = some (.int .i64 0) := hv.cell 1 _ rfl
    have q2 : W.cell? ⟨w.heap.size, 2, none⟩ = some (.int .i64 0) := hv.cell 2 _ rfl
    have q3 : W.cell? ⟨w.heap.size, 3, none⟩ = some (.int .i64 0) := hv.cell 3 _ rfl
    have q4 : W.cell? ⟨w.heap.size, 4, none⟩ = some (.int .i64 0) := hv.cell 4 _ rfl
    have z0 := hv.fz 0
    have z1 := hv.fz 1
    have z2 := hv.fz 2
    have z3 := hv.fz 3
    have z4 := hv.fz 4
    have hv5 := ((((hv.set 0 (.int .i64 0)).set 1 (.int .i64 0)).set 2 (.int .i64 0)).set 3 (.int .i64 0)).set 4 (.int .i64 0)
    have F0 : (((((W.setCell ⟨w.heap.size, 0, none⟩ (.int .i64 0)).setCell ⟨w.heap.size, 1, none⟩ (.int .i64 0)).setCell ⟨w.heap.size, 2, none⟩ (.int .i64 0)).setCell ⟨w.heap.size, 3, none⟩ (.int .i64 0)).setCell ⟨w.heap.size, 4, none⟩ (.int .i64 0)).cell? ⟨w.heap.size, 0, none⟩ = some (.int .i64 0) := hv5.cell 0 _ rfl
    have F1 : (((((W.setCell ⟨w.heap.size, 0, none⟩ (.int .i64 0)).setCell ⟨w.heap.size, 1, none⟩ (.int .i64 0)).setCell ⟨w.heap.size, 2, none⟩ (.int .i64 0)).setCell ⟨w.heap.size, 3, none⟩ (.int .i64 0)).setCell ⟨w.heap.size, 4, none⟩ (.int .i64 0)).cell? ⟨w.heap.size, 1, none⟩ = some (.int .i64 0) := hv5.cell 1 _ rfl
    have F2 : (((((W.setCell ⟨w.heap.size, 0, none⟩ (.int .i64 0)).setCell ⟨w.heap.size, 1, none⟩ (.int .i64 0)).setCell ⟨w.heap.size, 2, none⟩ (.int .i64 0)).setCell ⟨w.heap.size, 3, none⟩ (.int .i64 0)).setCell ⟨w.heap.size, 4, none⟩ (.int .i64 0)).cell? ⟨w.heap.size, 2, none⟩ = some (.int .i64 0) := hv5.cell 2 _ rfl
    have F3 : (((((W.setCell ⟨w.heap.size, 0, none⟩ (.int .i64 0)).setCell ⟨w.heap.size, 1, none⟩ (.int .i64 0)).setCell ⟨w.heap.size, 2, none⟩ (.int .i64 0)).setCell ⟨w.heap.size, 3, none⟩ (.int .i64 0)).setCell ⟨w.heap.size, 4, none⟩ (.int .i64 0)).cell? ⟨w.heap.size, 3, none⟩ = some (.int .i64 0) := hv5.cell 3 _ rfl
    have F4 : (((((W.setCell ⟨w.heap.size, 0, none⟩ (.int .i64 0)).setCell ⟨w.heap.size, 1, none⟩ (.int .i64 0)).setCell ⟨w.heap.size, 2, none⟩ (.int .i64 0)).setCell ⟨w.heap.size, 3, none⟩ (.int .i64 0)).setCell ⟨w.heap.size, 4, none⟩ (.int .i64 0)).cell? ⟨w.heap.size, 4, none⟩ = some (.int .i64 0) := hv5.cell 4 _ rfl
    have hb5 := Lib.hid (((((hwb.setCell (p := ⟨w.heap.size, 0, none⟩) (Nat.le_refl _) (.int .i64 0)).setCell (p := ⟨w.heap.size, 1, none⟩) (Nat.le_refl _) (.int .i64 0)).setCell (p := ⟨w.heap.size, 2, none⟩) (Nat.le_refl _) (.int .i64 0)).setCell (p := ⟨w.heap.size, 3, none⟩) (Nat.le_refl _) (.int .i64 0)).setCell (p := ⟨w.heap.size, 4, none⟩) (Nat.le_refl _) (.int .i64 0))
    have HW := Lib.hid hW
    clear hv5 hv hwb hW hkw hr hr2 h5
    go_enter Try.func29, Try.ntmps29
    go_upto_region 1 with fail
    rw [HW.out]
    clear HW
    go_upto_region 2 with fail
    iterate 12 (first | go_values | go_skip | go_guarded | go_step | go_upon | skip)
    rename_i QQ KK hK KK2 hh
    refine hh _ _ ?_
    clear hh
    go_step
    show QQ Exit.ret _ _
    dsimp only [QQ]
    exact bodyPost_ret (v := .tuple #[.agg #[.int .i64 0, .int .i64 0, .int .i64 0, .int .i64 0, .int .i64 0], .int .i64 2]) (by simp [results, Try.results29, go_sem, F0, F1, F2, F3, F4]) rfl ⟨_, _, _, _, _, rfl, fun h => absurd h (by decide), hb5.out⟩
theorem okW {m : Int} {d : Nat} (m1 : 2 ≤ m) (m2 : m ≤ 10000) (d1 : 1 ≤ d) (d2 : d ≤ 10) (f : Nat → Int) : SerOk m d (Ser.cut m d f) := ⟨m1, m2, d1, d2, Ser.cut_length _ _ _, Ser.cut_red (by omega) _ _⟩
theorem plusW (m : Int) (d : Nat) (l l' : List Int) (hs : SerOk m d l) (hs' : SerOk m d l') (A : Option Addr) (c : Nat) (A' : Option Addr) (c' : Nat) (w : World) (hr : RI w A l) (hr' : RI w A' l') :
    Calls Try.prog 58 #[.agg #[.int .i64 m, .slice A (d + 1) c], .agg #[.int .i64 m, .slice A' (d + 1) c']] w fun e w' => ∃ v, e = .returned (.agg #[.int .i64 m, v]) ∧ OwnI w' w.heap.size v (Ser.addL m d l l') ∧ Below w.heap.size w w' := by
  have := plus_any m d A c l m A' c' l' w hs hs' hr hr'
  rw [hs.len, hs'.len] at this
  exact this
theorem timesW (m : Int) (d : Nat) (l l' : List Int) (hs : SerOk m d l) (hs' : SerOk m d l') (A : Option Addr) (c : Nat) (A' : Option Addr) (c' : Nat) (w : World) (hr : RI w A l) (hr' : RI w A' l') :
    Calls Try.prog 60 #[.agg #[.int .i64 m, .slice A (d + 1) c], .agg #[.int .i64 m, .slice A' (d + 1) c']] w fun e w' => ∃ v, e = .returned (.agg #[.int .i64 m, v]) ∧ OwnI w' w.heap.size v (Ser.mulL m d l l') ∧ Below w.heap.size w w' := by
  have := times_any m d A c l m A' c' l' w hs hs' hr hr'
  rw [hs.len, hs'.len] at this
  exact this
theorem scaledW (m : Int) (d : Nat) (l : List Int) (k : Int) (hs : SerOk m d l) (h5 : -10000 ≤ k) (h6 : k ≤ 10000) (A : Option Addr) (c : Nat) (w : World) (hr : RI w A l) :
    Calls Try.prog 59 #[.agg #[.int .i64 m, .slice A (d + 1) c], .int .i64 k] w fun e w' => ∃ v, e = .returned (.agg #[.int .i64 m, v]) ∧ OwnI w' w.heap.size v (Ser.mulK m d l k) ∧ Below w.heap.size w w' := by
  have := scaled_any m d A c l k w hs hr h5 h6
  rw [hs.len] at this
  exact this
theorem monW (m : Int) (d k : Nat) (c : Int) (m1 : 2 ≤ m) (m2 : m ≤ 10000) (d2 : d ≤ 10) (h3 : -1000000 ≤ c) (h4 : c ≤ 1000000) (w : World) :
    Calls Try.prog 57 #[.int .i64 m, .int .i64 d, .int .i64 k, .int .i64 c] w fun e w' => ∃ v, e = .returned (.agg #[.int .i64 m, v]) ∧ OwnI w' w.heap.size v (Ser.monL m d k c) ∧ Below w.heap.size w w' := monomial_any m d k c w (by omega) m2 (by omega) h3 h4
/-- a store into a variable leaves a list alone that a call has made -/
theorem OwnI.offvar {w w' : World} {lo g : Nat} {v x y : Value} {l : List Int} (h : OwnI w lo v l) (hv : Var2 w g x y) (hg : w.grownBy w' (some g)) : OwnI w' lo v l := by
  refine h.other hg ?_
  have h0 := h
  unfold OwnI at h0
  rcases h0.2 with ⟨rfl, _⟩ | ⟨b, cap, cur, rfl, _, hh, _⟩
  · exact .inl rfl
  · refine .inr (fun e => ?_)
    have e' : b = g := by
      change some b = some g at e
      injection e
    subst e'
    unfold Var2 at hv
    rw [hh] at hv
    injection hv with hv
    injection hv with e1 e2
    exact absurd e2 (by decide)
/-- a series is stored into a variable that was made on the way -/
theorem fin_free2 {w w2 w3 : World} {g lo : Nat} {v a b : Value} {l : List Int} (hv : Var2 w3 g a b) (ho : OwnI w2 lo v l) (hb : Below w2.heap.size w2 w3) (hwg : w.heap.size ≤ g) (hbw : Below w.heap.size w w3) (p q : Value) :
    ∃ w4, (w3.setCell ⟨g, 0, none⟩ p).setCell ⟨g, 1, none⟩ q = w4 ∧ Var2 w4 g p q ∧ OwnI w4 lo v l ∧ Below w.heap.size w w4 ∧ Below w2.heap.size w2 w3 :=
  ⟨_, rfl, hv.set2 p q, (ho.keep hb).offvar hv (grown_set2 w3 g p q), below_set2 hbw hwg p q, hb⟩
set_option maxHeartbeats 16000000 in
set_option maxRecDepth 100000 in
theorem series_any (m : Int) (d : Nat) (a1 a2 a3 a4 a6 : Int) (w : World) (m1 : 2 ≤ m) (m2 : m ≤ 10000) (d1 : 1 ≤ d) (d2 : d ≤ 10) (b1 : 0 ≤ a1 ∧ a1 < m) (b2 : 0 ≤ a2 ∧ a2 < m) (b3 : 0 ≤ a3 ∧ a3 < m) (b4 : 0 ≤ a4 ∧ a4 < m) (b6 : 0 ≤ a6 ∧ a6 < m) :
    Calls Try.prog 30 #[.agg #[.int .i64 a1, .int .i64 a2, .int .i64 a3, .int .i64 a4, .int .i64 a6], .int .i64 m, .int .i64 d] w fun x w' => ∃ v, x = .returned (.agg #[.int .i64 m, v]) ∧ OwnI w' w.heap.size v (Ser.weiL m d a1 a2 a3 a4 a6 d) ∧ Below w.heap.size w w' := by
  obtain ⟨W, hW, hcb, hv6, hwb⟩ : ∃ W, (w.alloc (.cells #[.int .i64 a1, .int .i64 a2, .int .i64 a3, .int .i64 a4, .int .i64 a6] 50)).alloc (.cells #[.int .i64 0, .slice none 0 0] 24) = W ∧ VarC 50 W w.heap.size #[.int .i64 a1, .int .i64 a2, .int .i64 a3, .int .i64 a4, .int .i64 a6] ∧ Var2 W (w.heap.size + 1) (.int .i64 0) (.slice none 0 0) ∧ Below w.heap.size w W := by
    refine ⟨_, rfl, (VarC.new _ _ _).keep (below_one _ _), ?_, below_alloc _ (below_one _ _)⟩
    have := Var2.new (w.alloc (.cells #[.int .i64 a1, .int .i64 a2, .int .i64 a3, .int .i64 a4, .int .i64 a6] 50)) (.int .i64 0) (.slice none 0 0)
    rwa [World.size_alloc] at this
  have hsz := hv6.lt
  have CB := Lib.hid hcb
  have V6 := Lib.hid hv6
  have HB := Lib.hid hwb
  have HW := Lib.hid hW
  have okc := fun f => okW m1 m2 d1 d2 f
  have HM0 := Lib.hid (fun W0 => monW m d 0 0 m1 m2 d2 (by omega) (by omega) W0)
  have HM1 := Lib.hid (fun W0 => monW m d 0 a3 m1 m2 d2 (by omega) (by omega) W0)
  have HM2 := Lib.hid (fun W0 => monW m d 1 a4 m1 m2 d2 (by omega) (by omega) W0)
  have HM3 := Lib.hid (fun W0 => monW m d 1 a1 m1 m2 d2 (by omega) (by omega) W0)
  have HM4 := Lib.hid (fun W0 => monW m d 2 a2 m1 m2 d2 (by omega) (by omega) W0)
  have HM5 := Lib.hid (fun W0 => monW m d 3 1 m1 m2 d2 (by omega) (by omega) W0)
  have HP1 := Lib.hid (plusW m d (Ser.monL m d 0 a3) (Ser.monL m d 1 a4) (okc _) (okc _))
  have HP2 := Lib.hid (plusW m d (Ser.monL m d 1 a1) (Ser.monL m d 2 a2) (okc _) (okc _))
  have HWL := Lib.hid (fun k => Ser.weiL_length m d a1 a2 a3 a4 a6 k)
  have l1 : (Ser.monL m d 0 a3).length = d + 1 := Ser.cut_length _ _ _
  have l2 : (Ser.monL m d 1 a4).length = d + 1 := Ser.cut_length _ _ _
  have l3 : (Ser.monL m d 1 a1).length = d + 1 := Ser.cut_length _ _ _
  have l4 : (Ser.monL m d 2 a2).length = d + 1 := Ser.cut_length _ _ _
  have l5 : (Ser.monL m d 3 1).length = d + 1 := Ser.cut_length _ _ _
  have l6 : (Ser.addL m d (Ser.monL m d 0 a3) (Ser.monL m d 1 a4)).length = d + 1 := Ser.cut_length _ _ _
  have l7 : (Ser.addL m d (Ser.monL m d 1 a1) (Ser.monL m d 2 a2)).length = d + 1 := Ser.cut_length _ _ _
  have l0 : (Ser.monL m d 0 0).length = d + 1 := Ser.cut_length _ _ _
  have L0 := Lib.hid l0
  have L1 := Lib.hid l1
  have L2 := Lib.hid l2
  have L3 := Lib.hid l3
  have L4 := Lib.hid l4
  have L5 := Lib.hid l5
  have L6 := Lib.hid l6
  have L7 := Lib.hid l7
  clear hcb hv6 hwb hW l0 l1 l2 l3 l4 l5 l6 l7
  go_enter Try.func30, Try.ntmps30
  go_wp2_with fail
  rw [HW.out]
  refine (HM0.out _).mono ?_
  rintro x y1 ⟨v, rfl, ho, hb⟩
  obtain ⟨A7, c7, rfl, -⟩ := ho.form
  rw [L0.out] at ho ⊢
  obtain ⟨y2, hy2, v7, hb2⟩ : ∃ y2, y1.alloc (.cells #[.int .i64 m, .slice A7 (d + 1) c7] 24) = y2 ∧ Var2 y2 y1.heap.size (.int .i64 m) (.slice A7 (d + 1) c7) ∧ Below y1.heap.size y1 y2 :=
    ⟨_, rfl, Var2.new y1 _ _, below_one _ _⟩
  have HY := Lib.hid hy2
  have V7 := Lib.hid v7
  have HO := Lib.hid ((ho.keep hb2).more (show w.heap.size ≤ W.heap.size by omega))
  have HB2 := Lib.hid (below_step HB.out (below_step hb hb2))
  have CB2 := Lib.hid (CB.out.keep (below_step hb hb2))
  have V62 := Lib.hid (V6.out.keep (below_step hb hb2))
  have g7w := hb.size
  clear hy2 v7 hb2 ho hb
  obtain ⟨g7, hg7⟩ : ∃ g, y1.heap.size = g := ⟨_, rfl⟩
  go_wp2
  rw [HY.out]
  rw [hg7] at V7
  (try rw [hg7])
  have hg6 : w.heap.size + 1 < g7 := by omega
  have hgW : W.heap.size ≤ g7 := by omega
  clear HY hg7 g7w
  go_loopw [8, 9, 14] (fun _ _ s wr => ∃ (k : Nat) (A7 : Option Addr) (c7 : Nat), k ≤ d ∧ s = .int .i64 k ∧ OwnI wr w.heap.size (.slice A7 (d + 1) c7) (Ser.weiL m d a1 a2 a3 a4 a6 k) ∧ Var2 wr g7 (.int .i64 m) (.slice A7 (d + 1) c7) ∧ Var2 wr (w.heap.size + 1) (.int .i64 0) (.slice none 0 0) ∧ VarC 50 wr w.heap.size #[.int .i64 a1, .int .i64 a2, .int .i64 a3, .int .i64 a4, .int .i64 a6] ∧ Below w.heap.size w wr) (fun _ _ s _ => d - (intOf s).toNat)
  case atStart => exact ⟨0, A7, c7, Nat.zero_le _, rfl, HO.out, V7.out, V62.out, CB2.out, HB2.out⟩
  case round =>
    clear HO V7 V62 CB2 HB2
    obtain ⟨k, A7, c7, hk, rfl, ho, v7, v6, cb, hbe⟩ := hrel
    have HO := Lib.hid ho
    have V7 := Lib.hid v7
    have V6 := Lib.hid v6
    have CB := Lib.hid cb
    have HBE := Lib.hid hbe
    by_cases hlt : k < d
    · have hlt2 : (k : Int) < (d : Int) := by omega
      have hnx : Ser.weiL m d a1 a2 a3 a4 a6 (k + 1) = Ser.weiP m d a1 a2 a3 a4 a6 (Ser.weiL m d a1 a2 a3 a4 a6 k) := rfl
      have okL : SerOk m d (Ser.weiL m d a1 a2 a3 a4 a6 k) := ⟨m1, m2, d1, d2, Ser.weiL_length _ _ _ _ _ _ _ _, Ser.weiL_red (by omega) _ _ _ _ _ _ _⟩
      obtain ⟨LK, hLK⟩ : ∃ L, Ser.weiL m d a1 a2 a3 a4 a6 k = L := ⟨_, rfl⟩
      rw [hLK] at okL HO hnx
      have HK := Lib.hid (fun (W0 : World) (h : Below wr.heap.size wr W0) => (show ((W0.cell? ⟨w.heap.size, 2, none⟩ = some (.int .i64 a3) ∧ W0.cell? ⟨w.heap.size, 3, none⟩ = some (.int .i64 a4) ∧ W0.cell? ⟨w.heap.size, 4, none⟩ = some (.int .i64 a6)) ∧ (W0.cell? ⟨g7, 0, none⟩ = some (.int .i64 m) ∧ W0.cell? ⟨g7, 1, none⟩ = some (.slice A7 (d + 1) c7)) ∧ Below wr.heap.size wr W0) from ⟨⟨(cb.keep h).cell 2 _ rfl, (cb.keep h).cell 3 _ rfl, (cb.keep h).cell 4 _ rfl⟩, ⟨(v7.keep h).c0, (v7.keep h).c1⟩, h⟩))
      have HS4 := Lib.hid (scaledW m d LK a6 okL (by omega) (by omega))
      have HP4 := Lib.hid (plusW m d (Ser.addL m d (Ser.monL m d 0 a3) (Ser.monL m d 1 a4)) (Ser.mulK m d LK a6) (okc _) (okc _))
      have l8 : (Ser.mulK m d LK a6).length = d + 1 := Ser.cut_length _ _ _
      have hwq : Ser.addL m d (Ser.addL m d (Ser.monL m d 0 a3) (Ser.monL m d 1 a4)) (Ser.mulK m d LK a6) = Ser.weiQ m d a3 a4 a6 LK := rfl
      have okQ : SerOk m d (Ser.weiQ m d a3 a4 a6 LK) := okc _
      have l9 : (Ser.weiQ m d a3 a4 a6 LK).length = d + 1 := okQ.len
      rw [hwq] at HP4
      have L8 := Lib.hid l8
      have L9 := Lib.hid l9
      have HLK := Lib.hid hLK
      have HNX := Lib.hid hnx
      have OKL := Lib.hid okL
      have OKQ := Lib.hid okQ
      have k0 := below_drew0 wr
      clear ho v7 v6 cb hbe hLK hnx hwq l8 l9 okL okQ
      go_upto_region 4 with fail
      have HSA : Hid (∀ W0, ((W0.cell? ⟨w.heap.size, 2, none⟩ = some (.int .i64 a3) ∧ W0.cell? ⟨w.heap.size, 3, none⟩ = some (.int .i64 a4) ∧ W0.cell? ⟨w.heap.size, 4, none⟩ = some (.int .i64 a6)) ∧ (W0.cell? ⟨g7, 0, none⟩ = some (.int .i64 m) ∧ W0.cell? ⟨g7, 1, none⟩ = some (.slice A7 (d + 1) c7)) ∧ Below wr.heap.size wr W0) → (((W0.alloc (.cells #[.int .i64 0, .slice none 0 0] 24)).cell? ⟨w.heap.size, 2, none⟩ = some (.int .i64 a3) ∧ (W0.alloc (.cells #[.int .i64 0, .slice none 0 0] 24)).cell? ⟨w.heap.size, 3, none⟩ = some (.int .i64 a4) ∧ (W0.alloc (.cells #[.int .i64 0, .slice none 0 0] 24)).cell? ⟨w.heap.size, 4, none⟩ = some (.int .i64 a6)) ∧ ((W0.alloc (.cells #[.int .i64 0, .slice none 0 0] 24)).cell? ⟨g7, 0, none⟩ = some (.int .i64 m) ∧ (W0.alloc (.cells #[.int .i64 0, .slice none 0 0] 24)).cell? ⟨g7, 1, none⟩ = some (.slice A7 (d + 1) c7)) ∧ Below wr.heap.size wr (W0.alloc (.cells #[.int .i64 0, .slice none 0 0] 24)))) := Lib.hid (fun W0 h => HK.out _ (below_alloc _ h.2.2))
      refine region_free (fun w' => ((w'.cell? ⟨w.heap.size, 2, none⟩ = some (.int .i64 a3) ∧ w'.cell? ⟨w.heap.size, 3, none⟩ = some (.int .i64 a4) ∧ w'.cell? ⟨w.heap.size, 4, none⟩ = some (.int .i64 a6)) ∧ (w'.cell? ⟨g7, 0, none⟩ = some (.int .i64 m) ∧ w'.cell? ⟨g7, 1, none⟩ = some (.slice A7 (d + 1) c7)) ∧ Below wr.heap.size wr w')) 17 16 8 wr.heap.size (fun g => .pointer (some ⟨g, 0, none⟩)) #[.int .i64 0, .slice none 0 0] 24 (by kernel_rfl) rfl (HK.out _ k0) ?_
      refine both_take (i := 0) (dst := some 16) ((.int .i64 m)) rfl rfl (by decide) (by kernel_rfl) (by kernel_rfl) (by kernel_rfl) (by kernel_rfl) (by kernel_rfl) (by kernel_rfl) (by kernel_rfl) (by decide) (fun _ _ _ h => h) (fun v' => Or.inl ⟨by rfl, ?_⟩) ?_
      · rintro w' ⟨⟨p2, p3, p4⟩, ⟨p7, p8⟩, -⟩
        simp only [Act.put, List.setIfInBounds_toArray, List.set_cons_zero, List.set_cons_succ]
        go_simp
      simp only [Act.put, List.setIfInBounds_toArray, List.set_cons_zero, List.set_cons_succ]
      refine both_take (i := 1) (dst := some 17) ((.int .i64 d)) rfl rfl (by decide) (by kernel_rfl) (by kernel_rfl) (by kernel_rfl) (by kernel_rfl) (by kernel_rfl) (by kernel_rfl) (by kernel_rfl) (by decide) (fun _ _ _ h => h) (fun v' => Or.inl ⟨by rfl, ?_⟩) ?_
      · rintro w' ⟨⟨p2, p3, p4⟩, ⟨p7, p8⟩, -⟩
        simp only [Act.put, List.setIfInBounds_toArray, List.set_cons_zero, List.set_cons_succ]
        go_simp
      simp only [Act.put, List.setIfInBounds_toArray, List.set_cons_zero, List.set_cons_succ]
      refine both_take (i := 2) (dst := some 18) ((.pointer (some ⟨w.heap.size, 2, none⟩))) rfl rfl (by decide) (by kernel_rfl) (by kernel_rfl) (by kernel_rfl) (by kernel_rfl) (by kernel_rfl) (by kernel_rfl) (by kernel_rfl) (by decide) (fun _ _ _ h => h) (fun v' => Or.inl ⟨by rfl, ?_⟩) ?_
      · rintro w' ⟨⟨p2, p3, p4⟩, ⟨p7, p8⟩, -⟩
        simp only [Act.put, List.setIfInBounds_toArray, List.set_cons_zero, List.set_cons_succ]
        go_simp
      simp only [Act.put, List.setIfInBounds_toArray, List.set_cons_zero, List.set_cons_succ]
      refine both_take (i := 3) (dst := some 19) ((.int .i64 a3)) rfl rfl (by decide) (by kernel_rfl) (by kernel_rfl) (by kernel_rfl) (by kernel_rfl) (by kernel_rfl) (by kernel_rfl) (by kernel_rfl) (by decide) (fun _ _ _ h => h) (fun v' => Or.inl ⟨by rfl, ?_⟩) ?_
      · rintro w' ⟨⟨p2, p3, p4⟩, ⟨p7, p8⟩, -⟩
        simp only [Act.put, List.setIfInBounds_toArray, List.set_cons_zero, List.set_cons_succ]
        go_simp
      simp only [Act.put, List.setIfInBounds_toArray, List.set_cons_zero, List.set_cons_succ]
      refine both_take (i := 5) (dst := some 21) ((.int .i64 m)) rfl rfl (by decide) (by kernel_rfl) (by kernel_rfl) (by kernel_rfl) (by kernel_rfl) (by kernel_rfl) (by kernel_rfl) (by kernel_rfl) (by decide) (fun _ _ _ h => h) (fun v' => Or.inl ⟨by rfl, ?_⟩) ?_
      · rintro w' ⟨⟨p2, p3, p4⟩, ⟨p7, p8⟩, -⟩
        simp only [Act.put, List.setIfInBounds_toArray, List.set_cons_zero, List.set_cons_succ]
        go_simp
      simp only [Act.put, List.setIfInBounds_toArray, List.set_cons_zero, List.set_cons_succ]
      refine both_take (i := 6) (dst := some 22) ((.int .i64 d)) rfl rfl (by decide) (by kernel_rfl) (by kernel_rfl) (by kernel_rfl) (by kernel_rfl) (by kernel_rfl) (by kernel_rfl) (by kernel_rfl) (by decide) (fun _ _ _ h => h) (fun v' => Or.inl ⟨by rfl, ?_⟩) ?_
      · rintro w' ⟨⟨p2, p3, p4⟩, ⟨p7, p8⟩, -⟩
        simp only [Act.put, List.setIfInBounds_toArray, List.set_cons_zero, List.set_cons_succ]
        go_simp
      simp only [Act.put, List.setIfInBounds_toArray, List.set_cons_zero, List.set_cons_succ]
      refine both_take (i := 7) (dst := some 23) ((.pointer (some ⟨w.heap.size, 3, none⟩))) rfl rfl (by decide) (by kernel_rfl) (by kernel_rfl) (by kernel_rfl) (by kernel_rfl) (by kernel_rfl) (by kernel_rfl) (by kernel_rfl) (by decide) (fun _ _ _ h => h) (fun v' => Or.inl ⟨by rfl, ?_⟩) ?_
      · rintro w' ⟨⟨p2, p3, p4⟩, ⟨p7, p8⟩, -⟩
        simp only [Act.put, List.setIfInBounds_toArray, List.set_cons_zero, List.set_cons_succ]
        go_simp
      simp only [Act.put, List.setIfInBounds_toArray, List.set_cons_zero, List.set_cons_succ]
      refine both_take (i := 8) (dst := some 24) ((.int .i64 a4)) rfl rfl (by decide) (by kernel_rfl) (by kernel_rfl) (by kernel_rfl) (by kernel_rfl) (by kernel_rfl) (by kernel_rfl) (by kernel_rfl) (by decide) (fun _ _ _ h => h) (fun v' => Or.inl ⟨by rfl, ?_⟩) ?_
      · rintro w' ⟨⟨p2, p3, p4⟩, ⟨p7, p8⟩, -⟩
        simp only [Act.put, List.setIfInBounds_toArray, List.set_cons_zero, List.set_cons_succ]
        go_simp
      simp only [Act.put, List.setIfInBounds_toArray, List.set_cons_zero, List.set_cons_succ]
      refine both_take (i := 11) (dst := some 27) ((.agg #[.int .i64 m, .slice A7 (d + 1) c7])) rfl rfl (by decide) (by kernel_rfl) (by kernel_rfl) (by kernel_rfl) (by kernel_rfl) (by kernel_rfl) (by kernel_rfl) (by kernel_rfl) (by decide) (fun _ _ _ h => h) (fun v' => Or.inl ⟨by rfl, ?_⟩) ?_
      · rintro w' ⟨⟨p2, p3, p4⟩, ⟨p7, p8⟩, -⟩
        simp only [Act.put, List.setIfInBounds_toArray, List.set_cons_zero, List.set_cons_succ]
        go_simp
      simp only [Act.put, List.setIfInBounds_toArray, List.set_cons_zero, List.set_cons_succ]
      refine both_take (i := 12) (dst := some 28) ((.pointer (some ⟨w.heap.size, 4, none⟩))) rfl rfl (by decide) (by kernel_rfl) (by kernel_rfl) (by kernel_rfl) (by kernel_rfl) (by kernel_rfl) (by kernel_rfl) (by kernel_rfl) (by decide) (fun _ _ _ h => h) (fun v' => Or.inl ⟨by rfl, ?_⟩) ?_
      · rintro w' ⟨⟨p2, p3, p4⟩, ⟨p7, p8⟩, -⟩
        simp only [Act.put, List.setIfInBounds_toArray, List.set_cons_zero, List.set_cons_succ]
        go_simp
      simp only [Act.put, List.setIfInBounds_toArray, List.set_cons_zero, List.set_cons_succ]
      refine both_take (i := 13) (dst := some 29) ((.int .i64 a6)) rfl rfl (by decide) (by kernel_rfl) (by kernel_rfl) (by kernel_rfl) (by kernel_rfl) (by kernel_rfl) (by kernel_rfl) (by kernel_rfl) (by decide) (fun _ _ _ h => h) (fun v' => Or.inl ⟨by rfl, ?_⟩) ?_
      · rintro w' ⟨⟨p2, p3, p4⟩, ⟨p7, p8⟩, -⟩
        simp only [Act.put, List.setIfInBounds_toArray, List.set_cons_zero, List.set_cons_succ]
        go_simp
      simp only [Act.put, List.setIfInBounds_toArray, List.set_cons_zero, List.set_cons_succ]
      refine both_step (i := 4) (fun w K h => wpOp_step rfl (fun K' hK' => by go_simp; exact hK' _ _ h)) HSA.out k0.size (by kernel_rfl) (by kernel_rfl) (by kernel_rfl) (by decide) (by decide) (by decide) rfl ?_
      intro v4 x4 hbx4 hsx4 K hK
      simp only [Act.put, List.setIfInBounds_toArray, List.set_cons_zero, List.set_cons_succ]
      go_simp
      (go_at_call 57; with_reducible refine Calls.mono (HM1.out _) ?_; rintro x y4 ⟨v, rfl, ho4, hb4⟩; obtain ⟨A4, c4, rfl, -⟩ := ho4.form; rw [L1.out] at ho4 ⊢; have k4 := below_step hsx4.2.2 hb4)
      dsimp only
      refine hK.out _ _ rfl hb4 (HK.out _ k4) ?_
      clear hK K
      try simp only [Act.put, List.setIfInBounds_toArray, List.set_cons_zero, List.set_cons_succ]
      refine both_step (i := 9) (fun w K h => wpOp_step rfl (fun K' hK' => by go_simp; exact hK' _ _ h)) HSA.out k4.size (by kernel_rfl) (by kernel_rfl) (by kernel_rfl) (by decide) (by decide) (by decide) rfl ?_
      intro v9 x9 hbx9 hsx9 K hK
      simp only [Act.put, List.setIfInBounds_toArray, List.set_cons_zero, List.set_cons_succ]
      go_simp
      (go_at_call 57; with_reducible refine Calls.mono (HM2.out _) ?_; rintro x y9 ⟨v, rfl, ho9, hb9⟩; obtain ⟨A9, c9, rfl, -⟩ := ho9.form; rw [L2.out] at ho9 ⊢; have k9 := below_step hsx9.2.2 hb9)
      dsimp only
      refine hK.out _ _ rfl hb9 (HK.out _ k9) ?_
      clear hK K
      try simp only [Act.put, List.setIfInBounds_toArray, List.set_cons_zero, List.set_cons_succ]
      refine both_step (i := 10) (fun w K h => wpOp_step rfl (fun K' hK' => by go_simp; exact hK' _ _ h)) HSA.out k9.size (by kernel_rfl) (by kernel_rfl) (by kernel_rfl) (by decide) (by decide) (by decide) rfl ?_
      intro v10 x10 hbx10 hsx10 K hK
      simp only [Act.put, List.setIfInBounds_toArray, List.set_cons_zero, List.set_cons_succ]
      go_simp
      (go_at_call 58; with_reducible refine Calls.mono (HP1.out _ _ _ _ _ (((ho4.ri.below hbx9).below hb9).below hbx10) (ho9.ri.below hbx10)) ?_; rintro x y10 ⟨v, rfl, ho10, hb10⟩; obtain ⟨A10, c10, rfl, -⟩ := ho10.form; rw [L6.out] at ho10 ⊢; have k10 := below_step hsx10.2.2 hb10)
      dsimp only
      refine hK.out _ _ rfl hb10 (HK.out _ k10) ?_
      clear hK K
      try simp only [Act.put, List.setIfInBounds_toArray, List.set_cons_zero, List.set_cons_succ]
      refine both_step (i := 14) (fun w K h => wpOp_step rfl (fun K' hK' => by go_simp; exact hK' _ _ h)) HSA.out k10.size (by kernel_rfl) (by kernel_rfl) (by kernel_rfl) (by decide) (by decide) (by decide) rfl ?_
      intro v14 x14 hbx14 hsx14 K hK
      simp only [Act.put, List.setIfInBounds_toArray, List.set_cons_zero, List.set_cons_succ]
      go_simp
      (go_at_call 59; with_reducible refine Calls.mono (HS4.out _ _ _ (HO.out.ri.below hsx14.2.2)) ?_; rintro x y14 ⟨v, rfl, ho14, hb14⟩; obtain ⟨A14, c14, rfl, -⟩ := ho14.form; rw [L8.out] at ho14 ⊢; have k14 := below_step hsx14.2.2 hb14)
      dsimp only
      refine hK.out _ _ rfl hb14 (HK.out _ k14) ?_
      clear hK K
      try simp only [Act.put, List.setIfInBounds_toArray, List.set_cons_zero, List.set_cons_succ]
      refine both_step (i := 15) (fun w K h => wpOp_step rfl (fun K' hK' => by go_simp; exact hK' _ _ h)) HSA.out k14.size (by kernel_rfl) (by kernel_rfl) (by kernel_rfl) (by decide) (by decide) (by decide) rfl ?_
      intro v15 x15 hbx15 hsx15 K hK
      simp only [Act.put, List.setIfInBounds_toArray, List.set_cons_zero, List.set_cons_succ]
      go_simp
      (go_at_call 58; with_reducible refine Calls.mono (HP4.out _ _ _ _ _ (((ho10.ri.below hbx14).below hb14).below hbx15) (ho14.ri.below hbx15)) ?_; rintro x y15 ⟨v, rfl, ho15, hb15⟩; obtain ⟨A15, c15, rfl, -⟩ := ho15.form; rw [L9.out] at ho15 ⊢; have k15 := below_step hsx15.2.2 hb15)
      dsimp only
      refine hK.out _ _ rfl hb15 (HK.out _ k15) ?_
      clear hK K
      try simp only [Act.put, List.setIfInBounds_toArray, List.set_cons_zero, List.set_cons_succ]
      refine both_end (fun w K h => wpOp_step rfl (fun K' hK' => by go_simp; exact hK' _ _ h)) HSA.out k15.size (by kernel_rfl) (by decide) ?_
      intro gn xn hgn hbn hsn hzn
      simp only [Act.put, List.setIfInBounds_toArray, List.set_cons_zero, List.set_cons_succ]
      have hvn : Var2 xn gn (.int .i64 0) (.slice none 0 0) := hzn
      obtain ⟨q0, q1, q2, q3⟩ := hvn.tells
      refine tilN_one (i := 17) (by kernel_rfl) rfl (fun K hK => ?_)
      go_simp
      refine hK.out _ _ (fun hlt => absurd hlt (by decide)) ?_
      clear hK K
      refine tilN_done (by kernel_rfl) ?_
      obtain ⟨w4, hw4, vn, on, bn, -⟩ := fin_free2 (w := wr) hvn ho15 hbn hgn (below_step k15 hbn) (.int .i64 m) (.slice A15 (d + 1) c15)
      have HX4 := Lib.hid hw4
      have VN := Lib.hid vn
      have RN := Lib.hid on.ri
      have HB4 := Lib.hid bn
      clear vn on bn hw4 hvn hbn hzn hsn q0 q1 q2 q3 ho4 ho9 ho10 ho14 ho15 hb4 hb9 hb10 hb14 hb15 hbx4 hbx9 hbx10 hbx14 hbx15 hsx4 hsx9 hsx10 hsx14 hsx15 k0 k4 k9 k10 k14 k15 HSA HK HS4 HP4
      have BW4 := Lib.hid (below_step HBE.out HB4.out)
      have CB4 := Lib.hid (CB.out.keep HB4.out)
      have V74 := Lib.hid (V7.out.keep HB4.out)
      have V64 := Lib.hid (V6.out.keep HB4.out)
      have HO4 := Lib.hid (HO.out.keep HB4.out)
      have HK5 := Lib.hid (fun (W0 : World) (h : Below w4.heap.size w4 W0) => (show ((W0.cell? ⟨w.heap.size, 0, none⟩ = some (.int .i64 a1) ∧ W0.cell? ⟨w.heap.size, 1, none⟩ = some (.int .i64 a2)) ∧ ((W0.cell? ⟨g7, 0, none⟩ = some (.int .i64 m) ∧ W0.cell? ⟨g7, 1, none⟩ = some (.slice A7 (d + 1) c7)) ∧ (W0.cell? ⟨gn, 0, none⟩ = some (.int .i64 m) ∧ W0.cell? ⟨gn, 1, none⟩ = some (.slice A15 (d + 1) c15))) ∧ Below w4.heap.size w4 W0) from ⟨⟨(CB4.out.keep h).cell 0 _ rfl, (CB4.out.keep h).cell 1 _ rfl⟩, ⟨⟨(V74.out.keep h).c0, (V74.out.keep h).c1⟩, (VN.out.keep h).c0, (VN.out.keep h).c1⟩, h⟩))
      have HT5 := Lib.hid (timesW m d LK (Ser.weiQ m d a3 a4 a6 LK) OKL.out OKQ.out)
      have HP5 := Lib.hid (plusW m d (Ser.addL m d (Ser.monL m d 1 a1) (Ser.monL m d 2 a2)) (Ser.mulL m d LK (Ser.weiQ m d a3 a4 a6 LK)) (okc _) (okc _))
      have l10 : (Ser.mulL m d LK (Ser.weiQ m d a3 a4 a6 LK)).length = d + 1 := Ser.cut_length _ _ _
      have hws : Ser.addL m d (Ser.addL m d (Ser.monL m d 1 a1) (Ser.monL m d 2 a2)) (Ser.mulL m d LK (Ser.weiQ m d a3 a4 a6 LK)) = Ser.weiS m d a1 a2 a3 a4 a6 LK := rfl
      have okS : SerOk m d (Ser.weiS m d a1 a2 a3 a4 a6 LK) := okc _
      have l11 : (Ser.weiS m d a1 a2 a3 a4 a6 LK).length = d + 1 := okS.len
      rw [hws] at HP5
      have L10 := Lib.hid l10
      have L11 := Lib.hid l11
      have OKS := Lib.hid okS
      have k0 := below_drew0 w4
      clear hws l10 l11 okS
      go_upto_region 5 with fail
      rw [HX4.out]
      clear HX4
      have HSA : Hid (∀ W0, ((W0.cell? ⟨w.heap.size, 0, none⟩ = some (.int .i64 a1) ∧ W0.cell? ⟨w.heap.size, 1, none⟩ = some (.int .i64 a2)) ∧ ((W0.cell? ⟨g7, 0, none⟩ = some (.int .i64 m) ∧ W0.cell? ⟨g7, 1, none⟩ = some (.slice A7 (d + 1) c7)) ∧ (W0.cell? ⟨gn, 0, none⟩ = some (.int .i64 m) ∧ W0.cell? ⟨gn, 1, none⟩ = some (.slice A15 (d + 1) c15))) ∧ Below w4.heap.size w4 W0) → (((W0.alloc (.cells #[.int .i64 0, .slice none 0 0] 24)).cell? ⟨w.heap.size, 0, none⟩ = some (.int .i64 a1) ∧ (W0.alloc (.cells #[.int .i64 0, .slice none 0 0] 24)).cell? ⟨w.heap.size, 1, none⟩ = some (.int .i64 a2)) ∧ (((W0.alloc (.cells #[.int .i64 0, .slice none 0 0] 24)).cell? ⟨g7, 0, none⟩ = some (.int .i64 m) ∧ (W0.alloc (.cells #[.int .i64 0, .slice none 0 0] 24)).cell? ⟨g7, 1, none⟩ = some (.slice A7 (d + 1) c7)) ∧ ((W0.alloc (.cells #[.int .i64 0, .slice none 0 0] 24)).cell? ⟨gn, 0, none⟩ = some (.int .i64 m) ∧ (W0.alloc (.cells #[.int .i64 0, .slice none 0 0] 24)).cell? ⟨gn, 1, none⟩ = some (.slice A15 (d + 1) c15))) ∧ Below w4.heap.size w4 (W0.alloc (.cells #[.int .i64 0, .slice none 0 0] 24)))) := Lib.hid (fun W0 h => HK5.out _ (below_alloc _ h.2.2))
      refine region_free (fun w' => ((w'.cell? ⟨w.heap.size, 0, none⟩ = some (.int .i64 a1) ∧ w'.cell? ⟨w.heap.size, 1, none⟩ = some (.int .i64 a2)) ∧ ((w'.cell? ⟨g7, 0, none⟩ = some (.int .i64 m) ∧ w'.cell? ⟨g7, 1, none⟩ = some (.slice A7 (d + 1) c7)) ∧ (w'.cell? ⟨gn, 0, none⟩ = some (.int .i64 m) ∧ w'.cell? ⟨gn, 1, none⟩ = some (.slice A15 (d + 1) c15))) ∧ Below w4.heap.size w4 w')) 16 15 9 w4.heap.size (fun g => .pointer (some ⟨g, 0, none⟩)) #[.int .i64 0, .slice none 0 0] 24 (by kernel_rfl) rfl (HK5.out _ k0) ?_
      refine both_take (i := 0) (dst := some 32) ((.int .i64 m)) rfl rfl (by decide) (by kernel_rfl) (by kernel_rfl) (by kernel_rfl) (by kernel_rfl) (by kernel_rfl) (by kernel_rfl) (by kernel_rfl) (by decide) (fun _ _ _ h => h) (fun v' => Or.inl ⟨by rfl, ?_⟩) ?_
      · rintro w' ⟨⟨p2, p3⟩, ⟨⟨p7, p8⟩, p9, p10⟩, -⟩
        simp only [Act.put, List.setIfInBounds_toArray, List.set_cons_zero, List.set_cons_succ]
        go_simp
      simp only [Act.put, List.setIfInBounds_toArray, List.set_cons_zero, List.set_cons_succ]
      refine both_take (i := 1) (dst := some 33) ((.int .i64 d)) rfl rfl (by decide) (by kernel_rfl) (by kernel_rfl) (by kernel_rfl) (by kernel_rfl) (by kernel_rfl) (by kernel_rfl) (by kernel_rfl) (by decide) (fun _ _ _ h => h) (fun v' => Or.inl ⟨by rfl, ?_⟩) ?_
      · rintro w' ⟨⟨p2, p3⟩, ⟨⟨p7, p8⟩, p9, p10⟩, -⟩
        simp only [Act.put, List.setIfInBounds_toArray, List.set_cons_zero, List.set_cons_succ]
        go_simp
      simp only [Act.put, List.setIfInBounds_toArray, List.set_cons_zero, List.set_cons_succ]
      refine both_take (i := 2) (dst := some 34) ((.pointer (some ⟨w.heap.size, 0, none⟩))) rfl rfl (by decide) (by kernel_rfl) (by kernel_rfl) (by kernel_rfl) (by kernel_rfl) (by kernel_rfl) (by kernel_rfl) (by kernel_rfl) (by decide) (fun _ _ _ h => h) (fun v' => Or.inl ⟨by rfl, ?_⟩) ?_
      · rintro w' ⟨⟨p2, p3⟩, ⟨⟨p7, p8⟩, p9, p10⟩, -⟩
        simp only [Act.put, List.setIfInBounds_toArray, List.set_cons_zero, List.set_cons_succ]
        go_simp
      simp only [Act.put, List.setIfInBounds_toArray, List.set_cons_zero, List.set_cons_succ]
      refine both_take (i := 3) (dst := some 35) ((.int .i64 a1)) rfl rfl (by decide) (by kernel_rfl) (by kernel_rfl) (by kernel_rfl) (by kernel_rfl) (by kernel_rfl) (by kernel_rfl) (by kernel_rfl) (by decide) (fun _ _ _ h => h) (fun v' => Or.inl ⟨by rfl, ?_⟩) ?_
      · rintro w' ⟨⟨p2, p3⟩, ⟨⟨p7, p8⟩, p9, p10⟩, -⟩
        simp only [Act.put, List.setIfInBounds_toArray, List.set_cons_zero, List.set_cons_succ]
        go_simp
      simp only [Act.put, List.setIfInBounds_toArray, List.set_cons_zero, List.set_cons_succ]
      refine both_take (i := 5) (dst := some 37) ((.int .i64 m)) rfl rfl (by decide) (by kernel_rfl) (by kernel_rfl) (by kernel_rfl) (by kernel_rfl) (by kernel_rfl) (by kernel_rfl) (by kernel_rfl) (by decide) (fun _ _ _ h => h) (fun v' => Or.inl ⟨by rfl, ?_⟩) ?_
      · rintro w' ⟨⟨p2, p3⟩, ⟨⟨p7, p8⟩, p9, p10⟩, -⟩
        simp only [Act.put, List.setIfInBounds_toArray, List.set_cons_zero, List.set_cons_succ]
        go_simp
      simp only [Act.put, List.setIfInBounds_toArray, List.set_cons_zero, List.set_cons_succ]
      refine both_take (i := 6) (dst := some 38) ((.int .i64 d)) rfl rfl (by decide) (by kernel_rfl) (by kernel_rfl) (by kernel_rfl) (by kernel_rfl) (by kernel_rfl) (by kernel_rfl) (by kernel_rfl) (by decide) (fun _ _ _ h => h) (fun v' => Or.inl ⟨by rfl, ?_⟩) ?_
      · rintro w' ⟨⟨p2, p3⟩, ⟨⟨p7, p8⟩, p9, p10⟩, -⟩
        simp only [Act.put, List.setIfInBounds_toArray, List.set_cons_zero, List.set_cons_succ]
        go_simp
      simp only [Act.put, List.setIfInBounds_toArray, List.set_cons_zero, List.set_cons_succ]
      refine both_take (i := 7) (dst := some 39) ((.pointer (some ⟨w.heap.size, 1, none⟩))) rfl rfl (by decide) (by kernel_rfl) (by kernel_rfl) (by kernel_rfl) (by kernel_rfl) (by kernel_rfl) (by kernel_rfl) (by kernel_rfl) (by decide) (fun _ _ _ h => h) (fun v' => Or.inl ⟨by rfl, ?_⟩) ?_
      · rintro w' ⟨⟨p2, p3⟩, ⟨⟨p7, p8⟩, p9, p10⟩, -⟩
        simp only [Act.put, List.setIfInBounds_toArray, List.set_cons_zero, List.set_cons_succ]
        go_simp
      simp only [Act.put, List.setIfInBounds_toArray, List.set_cons_zero, List.set_cons_succ]
      refine both_take (i := 8) (dst := some 40) ((.int .i64 a2)) rfl rfl (by decide) (by kernel_rfl) (by kernel_rfl) (by kernel_rfl) (by kernel_rfl) (by kernel_rfl) (by kernel_rfl) (by kernel_rfl) (by decide) (fun _ _ _ h => h) (fun v' => Or.inl ⟨by rfl, ?_⟩) ?_
      · rintro w' ⟨⟨p2, p3⟩, ⟨⟨p7, p8⟩, p9, p10⟩, -⟩
        simp only [Act.put, List.setIfInBounds_toArray, List.set_cons_zero, List.set_cons_succ]
        go_simp
      simp only [Act.put, List.setIfInBounds_toArray, List.set_cons_zero, List.set_cons_succ]
      refine both_take (i := 11) (dst := some 43) ((.agg #[.int .i64 m, .slice A7 (d + 1) c7])) rfl rfl (by decide) (by kernel_rfl) (by kernel_rfl) (by kernel_rfl) (by kernel_rfl) (by kernel_rfl) (by kernel_rfl) (by kernel_rfl) (by decide) (fun _ _ _ h => h) (fun v' => Or.inl ⟨by rfl, ?_⟩) ?_
      · rintro w' ⟨⟨p2, p3⟩, ⟨⟨p7, p8⟩, p9, p10⟩, -⟩
        simp only [Act.put, List.setIfInBounds_toArray, List.set_cons_zero, List.set_cons_succ]
        go_simp
      simp only [Act.put, List.setIfInBounds_toArray, List.set_cons_zero, List.set_cons_succ]
      refine both_take (i := 12) (dst := some 44) ((.agg #[.int .i64 m, .slice A15 (d + 1) c15])) rfl rfl (by decide) (by kernel_rfl) (by kernel_rfl) (by kernel_rfl) (by kernel_rfl) (by kernel_rfl) (by kernel_rfl) (by kernel_rfl) (by decide) (fun _ _ _ h => h) (fun v' => Or.inl ⟨by rfl, ?_⟩) ?_
      · rintro w' ⟨⟨p2, p3⟩, ⟨⟨p7, p8⟩, p9, p10⟩, -⟩
        simp only [Act.put, List.setIfInBounds_toArray, List.set_cons_zero, List.set_cons_succ]
        go_simp
      simp only [Act.put, List.setIfInBounds_toArray, List.set_cons_zero, List.set_cons_succ]
      refine both_step (i := 4) (fun w K h => wpOp_step rfl (fun K' hK' => by go_simp; exact hK' _ _ h)) HSA.out k0.size (by kernel_rfl) (by kernel_rfl) (by kernel_rfl) (by decide) (by decide) (by decide) rfl ?_
      intro v4 x4 hbx4 hsx4 K hK
      simp only [Act.put, List.setIfInBounds_toArray, List.set_cons_zero, List.set_cons_succ]
      go_simp
      (go_at_call 57; with_reducible refine Calls.mono (HM3.out _) ?_; rintro x y4 ⟨v, rfl, ho4, hb4⟩; obtain ⟨A4, c4, rfl, -⟩ := ho4.form; rw [L3.out] at ho4 ⊢; have k4 := below_step hsx4.2.2 hb4)
      dsimp only
      refine hK.out _ _ rfl hb4 (HK5.out _ k4) ?_
      clear hK K
      try simp only [Act.put, List.setIfInBounds_toArray, List.set_cons_zero, List.set_cons_succ]
      refine both_step (i := 9) (fun w K h => wpOp_step rfl (fun K' hK' => by go_simp; exact hK' _ _ h)) HSA.out k4.size (by kernel_rfl) (by kernel_rfl) (by kernel_rfl) (by decide) (by decide) (by decide) rfl ?_
      intro v9 x9 hbx9 hsx9 K hK
      simp only [Act.put, List.setIfInBounds_toArray, List.set_cons_zero, List.set_cons_succ]
      go_simp
      (go_at_call 57; with_reducible refine Calls.mono (HM4.out _) ?_; rintro x y9 ⟨v, rfl, ho9, hb9⟩; obtain ⟨A9, c9, rfl, -⟩ := ho9.form; rw [L4.out] at ho9 ⊢; have k9 := below_step hsx9.2.2 hb9)
      dsimp only
      refine hK.out _ _ rfl hb9 (HK5.out _ k9) ?_
      clear hK K
      try simp only [Act.put, List.setIfInBounds_toArray, List.set_cons_zero, List.set_cons_succ]
      refine both_step (i := 10) (fun w K h => wpOp_step rfl (fun K' hK' => by go_simp; exact hK' _ _ h)) HSA.out k9.size (by kernel_rfl) (by kernel_rfl) (by kernel_rfl) (by decide) (by decide) (by decide) rfl ?_
      intro v10 x10 hbx10 hsx10 K hK
      simp only [Act.put, List.setIfInBounds_toArray, List.set_cons_zero, List.set_cons_succ]
      go_simp
      (go_at_call 58; with_reducible refine Calls.mono (HP2.out _ _ _ _ _ (((ho4.ri.below hbx9).below hb9).below hbx10) (ho9.ri.below hbx10)) ?_; rintro x y10 ⟨v, rfl, ho10, hb10⟩; obtain ⟨A10, c10, rfl, -⟩ := ho10.form; rw [L7.out] at ho10 ⊢; have k10 := below_step hsx10.2.2 hb10)
      dsimp only
      refine hK.out _ _ rfl hb10 (HK5.out _ k10) ?_
      clear hK K
      try simp only [Act.put, List.setIfInBounds_toArray, List.set_cons_zero, List.set_cons_succ]
      refine both_step (i := 13) (fun w K h => wpOp_step rfl (fun K' hK' => by go_simp; exact hK' _ _ h)) HSA.out k10.size (by kernel_rfl) (by kernel_rfl) (by kernel_rfl) (by decide) (by decide) (by decide) rfl ?_
      intro v13 x13 hbx13 hsx13 K hK
      simp only [Act.put, List.setIfInBounds_toArray, List.set_cons_zero, List.set_cons_succ]
      go_simp
      (go_at_call 60; with_reducible refine Calls.mono (HT5.out _ _ _ _ _ (HO4.out.ri.below hsx13.2.2) (RN.out.below hsx13.2.2)) ?_; rintro x y13 ⟨v, rfl, ho13, hb13⟩; obtain ⟨A13, c13, rfl, -⟩ := ho13.form; rw [L10.out] at ho13 ⊢; have k13 := below_step hsx13.2.2 hb13)
      dsimp only
      refine hK.out _ _ rfl hb13 (HK5.out _ k13) ?_
      clear hK K
      try simp only [Act.put, List.setIfInBounds_toArray, List.set_cons_zero, List.set_cons_succ]
      refine both_step (i := 14) (fun w K h => wpOp_step rfl (fun K' hK' => by go_simp; exact hK' _ _ h)) HSA.out k13.size (by kernel_rfl) (by kernel_rfl) (by kernel_rfl) (by decide) (by decide) (by decide) rfl ?_
      intro v14 x14 hbx14 hsx14 K hK
      simp only [Act.put, List.setIfInBounds_toArray, List.set_cons_zero, List.set_cons_succ]
      go_simp
      (go_at_call 58; with_reducible refine Calls.mono (HP5.out _ _ _ _ _ (((ho10.ri.below hbx13).below hb13).below hbx14) (ho13.ri.below hbx14)) ?_; rintro x y14 ⟨v, rfl, ho14, hb14⟩; obtain ⟨A14, c14, rfl, -⟩ := ho14.form; rw [L11.out] at ho14 ⊢; have k14 := below_step hsx14.2.2 hb14)
      dsimp only
      refine hK.out _ _ rfl hb14 (HK5.out _ k14) ?_
      clear hK K
      try simp only [Act.put, List.setIfInBounds_toArray, List.set_cons_zero, List.set_cons_succ]
      refine both_end (fun w K h => wpOp_step rfl (fun K' hK' => by go_simp; exact hK' _ _ h)) HSA.out k14.size (by kernel_rfl) (by decide) ?_
      intro gs xs hgs hbs hss hzs
      simp only [Act.put, List.setIfInBounds_toArray, List.set_cons_zero, List.set_cons_succ]
      have hvn : Var2 xs gs (.int .i64 0) (.slice none 0 0) := hzs
      obtain ⟨q0, q1, q2, q3⟩ := hvn.tells
      refine tilN_one (i := 16) (by kernel_rfl) rfl (fun K hK => ?_)
      go_simp
      refine hK.out _ _ (fun hlt => absurd hlt (by decide)) ?_
      clear hK K
      refine tilN_done (by kernel_rfl) ?_
      obtain ⟨w5, hw5, vs, os, bs, -⟩ := fin_free2 (w := w4) hvn ho14 hbs hgs (below_step k14 hbs) (.int .i64 m) (.slice A14 (d + 1) c14)
      have HX5 := Lib.hid hw5
      have VS := Lib.hid vs
      have RS := Lib.hid os.ri
      have HB5 := Lib.hid bs
      clear vs os bs hw5 hvn hbs hzs hss q0 q1 q2 q3 ho4 ho9 ho10 ho13 ho14 hb4 hb9 hb10 hb13 hb14 hbx4 hbx9 hbx10 hbx13 hbx14 hsx4 hsx9 hsx10 hsx13 hsx14 k0 k4 k9 k10 k13 k14 HSA HK5 HT5 HP5
      have BW5 := Lib.hid (below_step BW4.out HB5.out)
      have V75 := Lib.hid (V74.out.keep HB5.out)
      have V65 := Lib.hid (V64.out.keep HB5.out)
      have CB5 := Lib.hid (CB4.out.keep HB5.out)
      have HO5 := Lib.hid (HO4.out.keep HB5.out)
      have HK6 := Lib.hid (fun (W0 : World) (h : Below w5.heap.size w5 W0) => (show ((W0.cell? ⟨g7, 0, none⟩ = some (.int .i64 m) ∧ W0.cell? ⟨g7, 1, none⟩ = some (.slice A7 (d + 1) c7)) ∧ (W0.cell? ⟨gs, 0, none⟩ = some (.int .i64 m) ∧ W0.cell? ⟨gs, 1, none⟩ = some (.slice A14 (d + 1) c14)) ∧ Below w5.heap.size w5 W0) from ⟨⟨(V75.out.keep h).c0, (V75.out.keep h).c1⟩, ⟨(VS.out.keep h).c0, (VS.out.keep h).c1⟩, h⟩))
      have HT6 := Lib.hid (timesW m d LK (Ser.weiS m d a1 a2 a3 a4 a6 LK) OKL.out OKS.out)
      have HP6 := Lib.hid (plusW m d (Ser.monL m d 3 1) (Ser.mulL m d LK (Ser.weiS m d a1 a2 a3 a4 a6 LK)) (okc _) (okc _))
      have l12 : (Ser.mulL m d LK (Ser.weiS m d a1 a2 a3 a4 a6 LK)).length = d + 1 := Ser.cut_length _ _ _
      have hwp : Ser.addL m d (Ser.monL m d 3 1) (Ser.mulL m d LK (Ser.weiS m d a1 a2 a3 a4 a6 LK)) = Ser.weiP m d a1 a2 a3 a4 a6 LK := rfl
      have l13 : (Ser.weiP m d a1 a2 a3 a4 a6 LK).length = d + 1 := Ser.cut_length _ _ _
      rw [hwp] at HP6
      have L12 := Lib.hid l12
      have L13 := Lib.hid l13
      have k0 := below_drew0 w5
      clear hwp l12 l13
      go_upto_region 6 with fail
      rw [HX5.out]
      clear HX5
      have hS0 := HK6.out _ k0
      refine region_tilN (fun w' => ((w'.cell? ⟨g7, 0, none⟩ = some (.int .i64 m) ∧ w'.cell? ⟨g7, 1, none⟩ = some (.slice A7 (d + 1) c7)) ∧ (w'.cell? ⟨gs, 0, none⟩ = some (.int .i64 m) ∧ w'.cell? ⟨gs, 1, none⟩ = some (.slice A14 (d + 1) c14)) ∧ Below w5.heap.size w5 w')) 7 (by kernel_rfl) ?_
      refine tilN_take (i := 0) (dst := some 47) (.int .i64 m) rfl rfl (by kernel_rfl) (by kernel_rfl) (by kernel_rfl) (by kernel_rfl) (fun _ _ _ h => h) (Or.inl ⟨by rfl, ?_⟩) hS0 ?_
      · rintro w' ⟨⟨p7, p8⟩, ⟨p9, p10⟩, -⟩
        go_simp
      simp only [Act.put, List.setIfInBounds_toArray, List.set_cons_zero, List.set_cons_succ]
      refine tilN_take (i := 1) (dst := some 48) (.int .i64 d) rfl rfl (by kernel_rfl) (by kernel_rfl) (by kernel_rfl) (by kernel_rfl) (fun _ _ _ h => h) (Or.inl ⟨by rfl, ?_⟩) hS0 ?_
      · rintro w' ⟨⟨p7, p8⟩, ⟨p9, p10⟩, -⟩
        go_simp
      simp only [Act.put, List.setIfInBounds_toArray, List.set_cons_zero, List.set_cons_succ]
      refine tilN_take (i := 3) (dst := some 50) (.agg #[.int .i64 m, .slice A7 (d + 1) c7]) rfl rfl (by kernel_rfl) (by kernel_rfl) (by kernel_rfl) (by kernel_rfl) (fun _ _ _ h => h) (Or.inl ⟨by rfl, ?_⟩) hS0 ?_
      · rintro w' ⟨⟨p7, p8⟩, ⟨p9, p10⟩, -⟩
        go_simp
      simp only [Act.put, List.setIfInBounds_toArray, List.set_cons_zero, List.set_cons_succ]
      refine tilN_take (i := 4) (dst := some 51) (.agg #[.int .i64 m, .slice A14 (d + 1) c14]) rfl rfl (by kernel_rfl) (by kernel_rfl) (by kernel_rfl) (by kernel_rfl) (fun _ _ _ h => h) (Or.inl ⟨by rfl, ?_⟩) hS0 ?_
      · rintro w' ⟨⟨p7, p8⟩, ⟨p9, p10⟩, -⟩
        go_simp
      simp only [Act.put, List.setIfInBounds_toArray, List.set_cons_zero, List.set_cons_succ]
      refine tilN_one (i := 2) (by kernel_rfl) rfl (fun K hK => ?_)
      go_simp
      (go_at_call 57; with_reducible refine Calls.mono (HM5.out _) ?_; rintro x y2 ⟨v, rfl, ho2, hb2⟩; obtain ⟨A2, c2, rfl, -⟩ := ho2.form; rw [L5.out] at ho2 ⊢; have k2 := below_step k0 hb2)
      dsimp only
      refine hK.out _ _ (fun _ => HK6.out _ k2) ?_
      clear hK K
      try simp only [Act.put, List.setIfInBounds_toArray, List.set_cons_zero, List.set_cons_succ]
      refine tilN_one (i := 5) (by kernel_rfl) rfl (fun K hK => ?_)
      go_simp
      (go_at_call 60; with_reducible refine Calls.mono (HT6.out _ _ _ _ _ (HO5.out.ri.below k2) (RS.out.below k2)) ?_; rintro x y5 ⟨v, rfl, ho5, hb5⟩; obtain ⟨A5, c5, rfl, -⟩ := ho5.form; rw [L12.out] at ho5 ⊢; have k5 := below_step k2 hb5)
      dsimp only
      refine hK.out _ _ (fun _ => HK6.out _ k5) ?_
      clear hK K
      try simp only [Act.put, List.setIfInBounds_toArray, List.set_cons_zero, List.set_cons_succ]
      refine tilN_one (i := 6) (by kernel_rfl) rfl (fun K hK => ?_)
      go_simp
      (go_at_call 58; with_reducible refine Calls.mono (HP6.out _ _ _ _ _ (ho2.ri.below hb5) ho5.ri) ?_; rintro x y6 ⟨v, rfl, ho6, hb6⟩; obtain ⟨A6, c6, rfl, -⟩ := ho6.form; rw [L13.out] at ho6 ⊢; have k6 := below_step k5 hb6)
      dsimp only
      refine hK.out _ _ (fun _ => HK6.out _ k6) ?_
      clear hK K
      try simp only [Act.put, List.setIfInBounds_toArray, List.set_cons_zero, List.set_cons_succ]
      have hvn := V75.out.keep k6
      obtain ⟨q0, q1, q2, q3⟩ := hvn.tells
      refine tilN_one (i := 7) (by kernel_rfl) rfl (fun K hK => ?_)
      go_simp
      refine hK.out _ _ (fun hlt => absurd hlt (by decide)) ?_
      clear hK K
      refine tilN_done (by kernel_rfl) ?_
      obtain ⟨w6, hw6, v7, o7, bw, -⟩ := fin_free2 (w := w) hvn ho6 (Below.refl _ _) (by omega) (below_step BW5.out k6) (.int .i64 m) (.slice A6 (d + 1) c6)
      have V6x : Var2 w6 (w.heap.size + 1) (.int .i64 0) (.slice none 0 0) := by rw [← hw6]; exact ((V65.out.keep k6).far g7 0 _ (by omega)).far g7 1 _ (by omega)
      have C6x : VarC 50 w6 w.heap.size #[.int .i64 a1, .int .i64 a2, .int .i64 a3, .int .i64 a4, .int .i64 a6] := by rw [← hw6]; exact ((CB5.out.keep k6).far g7 0 _ (by omega)).far g7 1 _ (by omega)
      have hz5 := BW5.out.size
      have hz6 := k5.size
      have HX6 := Lib.hid hw6
      have F1 := Lib.hid (o7.more (show w.heap.size ≤ y5.heap.size by omega))
      have F2 := Lib.hid v7
      have F3 := Lib.hid V6x
      have F4 := Lib.hid C6x
      have F5 := Lib.hid bw
      clear v7 o7 bw hw6 hvn q0 q1 q2 q3 ho2 ho5 ho6 hb2 hb5 hb6 k0 k2 k5 k6 hS0 HK6 HT6 HP6 V6x C6x
      go_wp2
      rw [HX6.out]
      go_roundw
      case rel => exact ⟨k + 1, A6, c6, by omega, by go_num, by rw [HNX.out]; exact F1.out, F2.out, F3.out, F4.out, F5.out⟩
      case measure => simp only [intOf]; omega
    · have hlt2 : ¬ (k : Int) < (d : Int) := by omega
      obtain rfl : d = k := by omega
      have q0 := V7.out.c0
      have q1 := V7.out.c1
      have q2 := V6.out.c0
      have q3 := V6.out.c1
      have q4 := V6.out.fz 0
      have q5 := V6.out.fz 1
      obtain ⟨w6, hw6, v7, o7, bw, -⟩ := fin_free2 (w := w) V6.out HO.out (Below.refl _ _) (by omega) HBE.out (.int .i64 m) (.slice A7 (d + 1) c7)
      have f0 := v7.c0
      have f1 := v7.c1
      rw [← hw6] at f0 f1
      have F1 := Lib.hid o7
      have F5 := Lib.hid bw
      have HX6 := Lib.hid hw6
      clear ho v7 v6 cb hbe o7 bw hw6
      go_wp2
      exact bodyPost_ret (v := .agg #[.int .i64 m, .slice A7 (d + 1) c7]) (by simp [results, Try.results30, go_sem, f0, f1]) rfl ⟨_, rfl, by rw [HX6.out]; exact F1.out, by rw [HX6.out]; exact F5.out⟩
set_option maxHeartbeats 4000000 in
set_option maxRecDepth 100000 in
theorem WeierstrassSeries_any (m d : Int) (A : Option Addr) (c : Nat) (l : List Int) (w : World) (_hl : l.length ≤ 1048576) (hr : RI w A l) :
    Calls Try.prog 9 #[.int .i64 m, .int .i64 d, .slice A l.length c] w fun x w' => ∃ s, x = .returned (.tuple #[.agg #[.int .i64 (weiM m d l).1, s], .int .i64 (weiM m d l).2.2]) ∧ OwnI w' w.heap.size s (weiM m d l).2.1 ∧ Below w.heap.size w w' := by
  obtain ⟨W, hW, v3, hwb⟩ := svar0 w
  have hsz := v3.lt
  have V3 := Lib.hid v3
  have HB := Lib.hid hwb
  have HW := Lib.hid hW
  have HC := Lib.hid (cubicOf_any m d A c l W (hr.below hwb))
  clear v3 hwb hW hr
  by_cases hk : kindW m d l = true
  · obtain ⟨-, hkk⟩ := kindW_iff hk
    obtain ⟨h1, h2, h3⟩ := kind_iff hkk
    obtain ⟨m1, m2⟩ := (isM_iff m).1 h1
    obtain ⟨d1, d2⟩ := (inB_iff _ _ _).1 h2
    obtain ⟨n, he⟩ : ∃ n : Nat, (n : Int) = d := ⟨d.toNat, by omega⟩
    have HA : Hid (weiM m d l = (m, weiT m n l, 0)) := Lib.hid (by unfold weiM; rw [if_pos hk, ← he, show (n : Int).toNat = n by omega])
    rw [HA.out]
    rw [hk, if_pos rfl] at HC
    have hco : ∀ i, 0 ≤ Ser.co l i ∧ Ser.co l i < m := fun i => allIn_co (by omega) h3 i
    have HT := Lib.hid (fun W0 => series_any m n (Ser.co l 0) (Ser.co l 1) (Ser.co l 2) (Ser.co l 3) (Ser.co l 4) W0 m1 m2 (by omega) (by omega) (hco 0) (hco 1) (hco 2) (hco 3) (hco 4))
    have hTl := weiT_length m n l
    change Hid (∀ W0, Calls Try.prog 30 #[.agg #[.int .i64 (Ser.co l 0), .int .i64 (Ser.co l 1), .int .i64 (Ser.co l 2), .int .i64 (Ser.co l 3), .int .i64 (Ser.co l 4)], .int .i64 m, .int .i64 n] W0 fun x w' => ∃ v, x = .returned (.agg #[.int .i64 m, v]) ∧ OwnI w' W0.heap.size v (weiT m n l) ∧ Below W0.heap.size W0 w') at HT
    obtain ⟨a1, ha1⟩ : ∃ a, Ser.co l 0 = a := ⟨_, rfl⟩
    obtain ⟨a2, ha2⟩ : ∃ a, Ser.co l 1 = a := ⟨_, rfl⟩
    obtain ⟨a3, ha3⟩ : ∃ a, Ser.co l 2 = a := ⟨_, rfl⟩
    obtain ⟨a4, ha4⟩ : ∃ a, Ser.co l 3 = a := ⟨_, rfl⟩
    obtain ⟨a6, ha6⟩ : ∃ a, Ser.co l 4 = a := ⟨_, rfl⟩
    obtain ⟨T, hT⟩ : ∃ T, weiT m n l = T := ⟨_, rfl⟩
    rw [hT] at HT hTl ⊢
    rw [ha1, ha2, ha3, ha4, ha6] at HT HC
    subst he
    clear hk hkk h1 h2 h3 hT HA hco ha1 ha2 ha3 ha4 ha6
    go_enter Try.func9, Try.ntmps9
    go_wp2_with fail
    rw [HW.out]
    refine HC.out.mono ?_
    rintro x y1 ⟨x1, x2, x3, x4, x6, rfl, hcv, hb1⟩
    obtain ⟨rfl, rfl, rfl, rfl, rfl⟩ := hcv trivial
    obtain ⟨y2, hy2, hb2⟩ : ∃ y2, y1.alloc (.cells #[.int .i64 x1, .int .i64 x2, .int .i64 x3, .int .i64 x4, .int .i64 x6] 50) = y2 ∧ Below y1.heap.size y1 y2 := ⟨_, rfl, below_one _ _⟩
    have hv8 : VarC 50 y2 y1.heap.size #[.int .i64 x1, .int .i64 x2, .int .i64 x3, .int .i64 x4, .int .i64 x6] := by rw [← hy2]; exact VarC.new _ _ _
    have z0 : y2.cell? ⟨y1.heap.size, 0, none⟩ = some (.int .i64 x1) := hv8.cell 0 _ rfl
    have z1 : y2.cell? ⟨y1.heap.size, 1, none⟩ = some (.int .i64 x2) := hv8.cell 1 _ rfl
    have z2 : y2.cell? ⟨y1.heap.size, 2, none⟩ = some (.int .i64 x3) := hv8.cell 2 _ rfl
    have z3 : y2.cell? ⟨y1.heap.size, 3, none⟩ = some (.int .i64 x4) := hv8.cell 3 _ rfl
    have z4 : y2.cell? ⟨y1.heap.size, 4, none⟩ = some (.int .i64 x6) := hv8.cell 4 _ rfl
    have HY := Lib.hid hy2
    have HB2 := Lib.hid (below_step hb1 hb2)
    clear hy2 hb1 hb2 hv8 hcv
    go_upto_region 4 with fail
    rw [HY.out]
    go_wp2_with fail
    refine (HT.out _).mono ?_
    rintro x w2 ⟨v, rfl, ho, hb3⟩
    obtain ⟨A2, c2, rfl, -⟩ := ho.form
    rw [hTl] at ho ⊢
    have hb := below_step HB2.out hb3
    have hz2 := HB2.out.size
    have hv := V3.out.keep hb
    obtain ⟨q0, q1, q2, q3⟩ := hv.tells
    obtain ⟨f0, f1, f2, f3⟩ := fin_var (w := w) hv ho (by omega) (Nat.le_refl _) (below_step HB.out hb) (.int .i64 m) (.slice A2 (n + 1) c2)
    have F2 := Lib.hid f2
    have F3 := Lib.hid f3
    clear f2 f3 hv hb hb3 ho z0 z1 z2 z3 z4
    go_wp2
    exact bodyPost_ret (v := .tuple #[.agg #[.int .i64 m, .slice A2 (n + 1) c2], .int .i64 0]) (by simp [results, Try.results9, go_sem, f0, f1]) rfl ⟨_, rfl, F2.out, F3.out⟩
  · have hk' : kindW m d l = false := Bool.eq_false_iff.2 hk
    have HA : Hid (weiM m d l = (0, [], 2)) := Lib.hid (by unfold weiM; rw [if_neg hk])
    rw [HA.out]
    rw [hk', if_neg (by decide)] at HC
    clear hk hk' HA
    go_enter Try.func9, Try.ntmps9
    go_wp2_with fail
    rw [HW.out]
    refine HC.out.mono ?_
    rintro x y1 ⟨x1, x2, x3, x4, x6, rfl, -, hb1⟩
    obtain ⟨y2, hy2, hb2⟩ : ∃ y2, y1.alloc (.cells #[.int .i64 x1, .int .i64 x2, .int .i64 x3, .int .i64 x4, .int .i64 x6] 50) = y2 ∧ Below y1.heap.size y1 y2 := ⟨_, rfl, below_one _ _⟩
    have HY := Lib.hid hy2
    have hb := below_step hb1 hb2
    have hv := V3.out.keep hb
    clear hy2 hb1 hb2
    obtain ⟨q0, q1, q2, q3⟩ := hv.tells
    obtain ⟨f0, f1, f2, f3⟩ := fin_var (w := w) hv (OwnI.nil y2 W.heap.size) (by omega) (Nat.le_refl _) (below_step HB.out hb) (.int .i64 0) (.slice none 0 0)
    have F2 := Lib.hid f2
    have F3 := Lib.hid f3
    clear f2 f3 hv hb
    go_upto_region 3 with fail
    rw [HY.out]
    clear HY
    go_wp2
    exact bodyPost_ret (v := .tuple #[.agg #[.int .i64 0, .slice none 0 0], .int .i64 2]) (by simp [results, Try.results9, go_sem, f0, f1]) rfl ⟨_, rfl, F2.out, F3.out⟩
end Go.Proofs.Ytilfjhnkjdfcoab

/- A series among a law's arguments: what its reading tells. -/
namespace Go.Proofs.Ytilfjhnkjdfcoab
open Go.RowKit Go.WideShapes Go.ChangeShapes Go.ChangeAt

theorem use_it {p q : Prop} (h : p) (k : p → q) : q := k h
theorem Var2.drew {w : World} {g : Nat} {x y : Value} (h : Var2 w g x y) : Var2 w.drew g x y := h
theorem cells_i64 : Try.prog.cellsOf 2 = 1 := by kernel_rfl
theorem cells_i64s : Try.prog.cellsOf 22 = 1 := by kernel_rfl
end Go.Proofs.Ytilfjhnkjdfcoab

/- A plane among a law's arguments: what its reading tells. -/
namespace Go.Proofs.Ytilfjhnkjdfcoab
open Go.RowKit Go.WideShapes Go.ChangeShapes Go.ChangeAt

theorem cells_pla : Try.prog.cellsOf 42 = 2 := by kernel_rfl
theorem cells_i64ss : Try.prog.cellsOf 33 = 1 := by kernel_rfl
set_option maxRecDepth 100000 in
theorem open_pla {H : Type} {enc : TypeId × Value → H} {W : World} {base : Nat} {v : Value} {d : DataW H} {p : List MemPlace}
    (hv : Value.okWide Try.prog W .any base 42 v) (h : DataW.Trod enc Try.prog W 0 (fun _ => true) true 42 v d p) :
    ∃ (m : Int) (A : Option Addr) (c : Nat) (t : List (List Int)), v = .agg #[.int .i64 m, .slice A t.length c] ∧ (t.length ≤ 9223372036854775807 ∧ ∀ k, (Pl.rw' t k).length ≤ 9223372036854775807) ∧ RQ W A t := by
  obtain ⟨cs, rfl, hsz⟩ := okWide_struct Try.underlying42 hv
  rw [cells_pla] at hsz
  obtain ⟨l⟩ := cs
  match l, hsz with
  | [c0, c1], _ =>
    obtain ⟨fuel, hf⟩ := h
    obtain ⟨y0, y1, m, hx, _, hy0, hy1⟩ := trod_struct2 Try.underlying42 hf
    obtain ⟨a, e0, -, -⟩ := DataW.trod_int Try.underlying2 hy0
    simp [Value.cells, cells_i64] at e0
    subst e0
    rcases Go.Deep.open_int_rows Try.underlying33 Try.underlying22 Try.underlying2 (by kernel_rfl) (by kernel_rfl) hy1 with ⟨hcs, -⟩ | ⟨ad, n, cap, A, L, C, Z, hcs, -, hl, hm, -, hr⟩
    · simp [Value.cells, cells_i64ss] at hcs
      subst hcs
      exact ⟨a, none, 0, [], rfl, ⟨Nat.zero_le _, fun k => Nat.zero_le _⟩, fun h => absurd rfl h⟩
    · simp [Value.cells, cells_i64ss] at hcs
      subst hcs
      have key : ∀ r, r < n → Pl.rw' ((List.range n).map fun r => (Z r).take (L r)) r = (Z r).take (L r) := by
        intro r h
        unfold Pl.rw'
        rw [List.getElem?_map, List.getElem?_range h]; rfl
      have klen : ∀ r, r < n → ((Z r).take (L r)).length = L r := by
        intro r h
        obtain ⟨_, h2, _, h4, _⟩ := hr r (by omega)
        rw [List.length_take]; omega
      have hlen : ((List.range n).map fun r => (Z r).take (L r)).length = n := by simp
      refine ⟨a, some ad, cap, (List.range n).map fun r => (Z r).take (L r), by rw [hlen], ⟨by rw [hlen]; unfold maxLen at hm; omega, fun k => ?_⟩, fun hne => ?_⟩
      · by_cases hk : k < n
        · rw [key k hk, klen k hk]
          obtain ⟨_, h2, h3, _⟩ := hr k (by omega)
          unfold maxLen at h3; omega
        · rw [Pl.rw_over (by rw [hlen]; omega)]; exact Nat.zero_le _
      · have hn : 0 < n := by
          rcases Nat.eq_zero_or_pos n with e | e
          · subst e; exact absurd rfl hne
          · exact e
        refine ⟨ad, rfl, ?_, fun k hk => ?_⟩
        · have := World.block_lt_of_cell? W _ (hr 0 (by omega)).1
          rwa [add_block] at this
        · rw [hlen] at hk
          obtain ⟨h1, h2, h3, h4, _, _, h7⟩ := hr k (by omega)
          refine ⟨A k, C k, by rw [key k hk, klen k hk]; exact h1, ?_⟩
          rw [key k hk]
          intro hne2
          have hL : 0 < L k := by
            rcases Nat.eq_zero_or_pos (L k) with e | e
            · rw [e] at hne2; exact absurd rfl hne2
            · exact e
          rcases hA : A k with _ | a'
          · obtain ⟨_, _, _, _, _, h6, _⟩ := hr k (by omega)
            have := h6 hA
            omega
          · obtain ⟨_, h8⟩ := h7 a' hA
            refine ⟨a', rfl, ?_, fun j hj => ?_⟩
            · have := World.block_lt_of_cell? W _ (h8 0 (by omega))
              rwa [add_block] at this
            · rw [klen k hk] at hj
              rw [h8 j (by omega), List.getElem?_take, if_pos hj]
              simp [List.getD_eq_getElem?_getD]
end Go.Proofs.Ytilfjhnkjdfcoab

/- A list among a law's arguments: what its reading tells. -/
namespace Go.Proofs.Ytilfjhnkjdfcoab
open Go.RowKit Go.WideShapes Go.ChangeShapes Go.ChangeAt

set_option maxRecDepth 100000 in
theorem open_lst {H : Type} {enc : TypeId × Value → H} {W : World} {base : Nat} {v : Value} {d : DataW H} {p : List MemPlace}
    (hv : Value.okWide Try.prog W .any base 22 v) (h : DataW.Trod enc Try.prog W 0 (fun _ => true) true 22 v d p) :
    ∃ (A : Option Addr) (c : Nat) (l : List Int), v = .slice A l.length c ∧ l.length ≤ maxLen ∧ RA W A l := by
  obtain ⟨a0, n0, c0, rfl⟩ := okWide_slice Try.underlying22 hv
  obtain ⟨fuel, hf⟩ := h
  rcases open_ints Try.underlying22 Try.underlying2 (by kernel_rfl) hf with ⟨hcs, -⟩ | ⟨x, n, c, zs, hcs, -, hl, hm, hz, -, hcell, hwz⟩
  · simp [Value.cells] at hcs
    obtain ⟨rfl, rfl, rfl⟩ := hcs
    exact ⟨none, 0, [], rfl, Nat.zero_le _, fun h => absurd rfl h⟩
  · simp [Value.cells] at hcs
    obtain ⟨rfl, rfl, rfl⟩ := hcs
    obtain ⟨l, rfl, h1, h2⟩ := ra_of_row (w := W) (a := some x) (len := n0) (cap := c0) (zs := zs) (.inr ⟨x, rfl, hl, hm, by simpa using hz, hcell, hwz⟩)
    exact ⟨some x, c0, l, rfl, h1, h2⟩
end Go.Proofs.Ytilfjhnkjdfcoab

