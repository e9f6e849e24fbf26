/- Texts of contracts, joined. -/
import Derived.Test.YtilfjhnkjdfcoaaMgac
import Derived.Test.YtilfjhnkjdfcoaaMgaa
import Derived.ProofKit
import Derived.OpenShut
import Derived.ChangeSame
import Derived.Test.YtilfjhnkjdfcoaaMgab
import Derived.Deep.Matrix
/- Contracts of CoordinatePlane, of the program and of the model. -/
namespace Go.Proofs.Ytilfjhnkjdfcoaa
open Go.RowKit Go.WideShapes Go.ChangeShapes Go.ChangeAt

/-- the table of a coordinate -/
def corT (m : Int) (d : Nat) (k : Int) : List (List Int) := Pl.tab m d (gosF (Ser.cut m d (Ser.mon 1 1)) k)
/-- the model of CoordinatePlane -/
def corP (m d k : Int) : Int × List (List Int) × Int :=
  if isM m = true then (if inB d 1 10 = true ∧ inB k 0 1 = true then (m, corT m d.toNat k, 0) else (0, [], 2)) else (0, [], 1)
theorem corP_len (m d k : Int) : szT (corP m d k).2.1 ≤ 1048576 := by
  unfold corP
  by_cases hm : isM m = true
  · rw [if_pos hm]
    obtain ⟨m1, m2⟩ := (isM_iff m).1 hm
    by_cases h : inB d 1 10 = true ∧ inB k 0 1 = true
    · rw [if_pos h]
      obtain ⟨d1, d2⟩ := (inB_iff _ _ _).1 h.1
      exact szT_ok (Pl.Ok.of_tab m1 m2 (by omega) (by omega) _)
    · rw [if_neg h]; exact Nat.zero_le _
  · rw [if_neg hm]; exact Nat.zero_le _
theorem var0 (w : World) : ∃ W, w.alloc (.cells #[.int .i64 0, .slice none 0 0] 24) = W ∧ VarC 24 W w.heap.size #[.int .i64 0, .slice none 0 0] ∧ Below w.heap.size w W :=
  ⟨_, rfl, VarC.new _ _ _, below_one _ _⟩
end Go.Proofs.Ytilfjhnkjdfcoaa

/- Contracts of the chapter of standard laws: codes, the frame of all laws. -/
namespace Go.Proofs.Ytilfjhnkjdfcoaa
open Go Go.RowKit Go.WideShapes Go.ChangeShapes Go.ChangeAt

/-- modulus, degree and parameters are in their ranges -/
def kindB (m d : Int) (l : List Int) : Bool := isM m && (inB d 1 10 && allIn 0 (m - 1) l)
def codeSt (m d : Int) (l : List Int) : Int := if kindB m d l = true then 0 else 2
theorem kind_iff {m d : Int} {l : List Int} (h : kindB m d l = true) : isM m = true ∧ inB d 1 10 = true ∧ allIn 0 (m - 1) l = true := by
  unfold kindB at h
  rw [Bool.and_eq_true, Bool.and_eq_true] at h
  exact h
theorem kind_no {m d : Int} {l : List Int} (h : ¬ kindB m d l = true) : codeSt m d l = 2 := by unfold codeSt; rw [if_neg h]
theorem kind_yes {m d : Int} {l : List Int} (h : kindB m d l = true) : codeSt m d l = 0 := by unfold codeSt; rw [if_pos h]
theorem codeOfStandard_any (m d : Int) (A : Option Addr) (c : Nat) (l : List Int) (w : World) (hl : l.length ≤ 9223372036854775807) (hr : RI w A l) :
    Calls Try.prog 34 #[.int .i64 m, .int .i64 d, .slice A l.length c] w fun e w' => e = .returned (.int .i64 (codeSt m d l)) ∧ w = w' := by
  have HC := Lib.hid (codeOfNumbers_any m A c l w hl hr)
  have HI := Lib.hid (fun W0 => isWithin_any d 1 10 W0)
  by_cases h0 : codeN m l = 0
  · rw [h0] at HC
    by_cases hd : inB d 1 10 = true
    · rw [hd] at HI
      have HE : Hid (codeSt m d l = 0) := Lib.hid (kind_yes (by
        unfold codeN at h0
        by_cases hm : isM m = true
        · rw [if_pos hm] at h0
          by_cases ha : allIn 0 (m - 1) l = true
          · unfold kindB; rw [hm, hd, ha]; rfl
          · rw [if_neg ha] at h0; exact absurd h0 (by decide)
        · rw [if_neg hm] at h0; exact absurd h0 (by decide)))
      clear hd h0
      go_enter Try.func34, Try.ntmps34
      go_wp2_with fail
      refine HC.out.mono ?_
      rintro e w' ⟨rfl, rfl⟩
      go_wp2_with fail
      refine (HI.out _).mono ?_
      rintro e w' ⟨rfl, rfl⟩
      go_wp2
      go_ret
      exact ⟨ret_int HE.out.symm, rfl⟩
    · have hd' : inB d 1 10 = false := by simpa using hd
      rw [hd'] at HI
      have HE : Hid (codeSt m d l = 2) := Lib.hid (kind_no (fun h => hd (kind_iff h).2.1))
      clear hd hd' h0
      go_enter Try.func34, Try.ntmps34
      go_wp2_with fail
      refine HC.out.mono ?_
      rintro e w' ⟨rfl, rfl⟩
      go_wp2_with fail
      refine (HI.out _).mono ?_
      rintro e w' ⟨rfl, rfl⟩
      go_wp2
      go_ret
      exact ⟨ret_int HE.out.symm, rfl⟩
  · have HE : Hid (codeSt m d l = 2) := Lib.hid (kind_no (fun h => h0 (by obtain ⟨h1, _, h3⟩ := kind_iff h; unfold codeN; rw [if_pos h1, if_pos h3])))
    obtain ⟨X, hX⟩ : ∃ X, codeN m l = X := ⟨_, rfl⟩
    rw [hX] at HC h0
    obtain ⟨n1, n2⟩ := ne_facts h0
    clear hX
    go_enter Try.func34, Try.ntmps34
    go_wp2_with fail
    refine HC.out.mono ?_
    rintro e w' ⟨rfl, rfl⟩
    go_wp2
    go_ret
    exact ⟨ret_int HE.out.symm, rfl⟩
set_option maxHeartbeats 1000000 in
theorem l08Kind_any (m d : Int) (A : Option Addr) (c : Nat) (l : List Int) (w : World) (hl : l.length ≤ 9223372036854775807) (hr : RI w A l) :
    Calls Try.prog 18 #[.int .i64 m, .int .i64 d, .slice A l.length c] w fun e w' => e = .returned (.bool (kindB m d l)) ∧ w = w' := by
  have HM := Lib.hid (fun W0 => l01In_any m 2 10000 W0)
  have HI := Lib.hid (fun W0 => l01In_any d 1 10 W0)
  by_cases hm : isM m = true
  · obtain ⟨m1, m2⟩ := (isM_iff m).1 hm
    have hm' : inB m 2 10000 = true := hm
    rw [hm'] at HM
    by_cases hd : inB d 1 10 = true
    · rw [hd] at HI
      have HE : Hid (kindB m d l = allIn 0 (m - 1) l) := Lib.hid (by unfold kindB; rw [hm, hd]; rfl)
      rw [HE.out]
      clear HE hm hd hm'
      go_enter Try.func18, Try.ntmps18
      go_wp2_with fail
      refine (HM.out _).mono ?_
      rintro e w' ⟨rfl, rfl⟩
      go_wp2_with fail
      refine (HI.out _).mono ?_
      rintro e w' ⟨rfl, rfl⟩
      go_wp2
      go_loop [7] (fun i => ∃ k : Nat, k ≤ l.length ∧ i = .int .i64 k ∧ allIn 0 (m - 1) (l.take k) = true) (fun i => l.length - (intOf i).toNat)
      case atStart => exact ⟨0, Nat.zero_le _, rfl, rfl⟩
      case round =>
        obtain ⟨k, hk, rfl, hall⟩ := hrel
        have HA := Lib.hid hall
        clear hall
        by_cases hlt : k < l.length
        · obtain ⟨b, off, rfl, hb, hc⟩ := hr (by rintro rfl; simp at hlt)
          have hck := hc k hlt
          clear hc hr
          obtain ⟨x, hx⟩ : ∃ x, l[k]?.getD 0 = x := ⟨_, rfl⟩
          rw [hx] at hck
          have HX := Lib.hid hx
          clear hx
          by_cases hin : inB x 0 (m - 1) = true
          · go_wp2_with (go_at_call 38; refine (l01In_any _ _ _ _).mono ?_; rintro e w' ⟨rfl, rfl⟩)
            go_round
            case rel => exact ⟨k + 1, by omega, by go_num, by rw [allIn_take_succ _ _ _ _ hlt, HA.out, HX.out, hin]; rfl⟩
            case measure => simp [intOf]; omega
          · have hin' : inB x 0 (m - 1) = false := by simpa using hin
            clear hin
            go_wp2_with (go_at_call 38; refine (l01In_any _ _ _ _).mono ?_; rintro e w' ⟨rfl, rfl⟩)
            go_ret
            exact ⟨ret_bool (by rw [allIn_split _ _ _ _ hlt, HX.out, hin']; simp), rfl⟩
        · go_wp2
          go_ret
          exact ⟨ret_bool (by have := HA.out; rw [List.take_of_length_le (by omega)] at this; rw [this]), rfl⟩
    · have hd' : inB d 1 10 = false := by simpa using hd
      rw [hd'] at HI
      have HE : Hid (kindB m d l = false) := Lib.hid (by unfold kindB; rw [hd']; simp)
      rw [HE.out]
      clear hm hd hd' hm'
      go_enter Try.func18, Try.ntmps18
      go_wp2_with fail
      refine (HM.out _).mono ?_
      rintro e w' ⟨rfl, rfl⟩
      go_wp2_with fail
      refine (HI.out _).mono ?_
      rintro e w' ⟨rfl, rfl⟩
      go_wp2
      go_ret
      exact ⟨rfl, rfl⟩
  · have hm' : inB m 2 10000 = false := Bool.eq_false_iff.2 hm
    rw [hm'] at HM
    have HE : Hid (kindB m d l = false) := Lib.hid (by unfold kindB; rw [show isM m = false from hm']; rfl)
    rw [HE.out]
    clear hm hm'
    go_enter Try.func18, Try.ntmps18
    go_wp2_with fail
    refine (HM.out _).mono ?_
    rintro e w' ⟨rfl, rfl⟩
    go_wp2
    go_ret
    exact ⟨rfl, rfl⟩
/-- the model of a standard law -/
def stP (m d : Int) (l : List Int) (T : Nat → List (List Int)) : Int × List (List Int) × Int := if kindB m d l = true then (m, T d.toNat, 0) else (0, [], 2)
theorem stP_len (m d : Int) (l : List Int) (T : Nat → List (List Int)) (h : ∀ e, 2 ≤ m → m ≤ 10000 → 1 ≤ e → e ≤ 10 → Pl.Ok m e (T e)) : szT (stP m d l T).2.1 ≤ 1048576 := by
  unfold stP
  by_cases hk : kindB m d l = true
  · rw [if_pos hk]
    obtain ⟨h1, h2, -⟩ := kind_iff hk
    obtain ⟨m1, m2⟩ := (isM_iff m).1 h1
    obtain ⟨d1, d2⟩ := (inB_iff _ _ _).1 h2
    exact szT_ok (h d.toNat m1 m2 (by omega) (by omega))
  · rw [if_neg hk]; exact Nat.zero_le _
theorem corT_x {m : Int} {d : Nat} : Pl.Eq m d (Pl.pc (corT m d 0)) (Pl.mon2 1 0) := by
  intro i j h
  unfold corT gosF
  rw [Pl.pc_tab h, Int.emod_emod, if_pos rfl]
  unfold Pl.mon2
  by_cases hj : j = 0
  · rw [if_pos hj, Ser.co_cut (by omega)]
    unfold Ser.mon
    by_cases hi : i = 1
    · rw [if_pos hi, if_pos ⟨hi, hj⟩, Int.emod_emod]
    · rw [if_neg hi, if_neg (fun e => hi e.1), Int.emod_emod]
  · rw [if_neg hj, if_neg (fun e => hj e.2)]
theorem corT_y {m : Int} {d : Nat} : Pl.Eq m d (Pl.pc (corT m d 1)) (Pl.mon2 0 1) := by
  intro i j h
  unfold corT gosF
  rw [Pl.pc_tab h, Int.emod_emod, if_neg (by decide)]
  unfold Pl.mon2
  by_cases hi : i = 0
  · rw [if_pos hi, Ser.co_cut (by omega)]
    unfold Ser.mon
    by_cases hj : j = 1
    · rw [if_pos hj, if_pos ⟨hi, hj⟩, Int.emod_emod]
    · rw [if_neg hj, if_neg (fun e => hj e.2), Int.emod_emod]
  · rw [if_neg hi, if_neg (fun e => hi e.1)]
set_option maxHeartbeats 8000000 in
set_option maxRecDepth 100000 in
theorem standardLaw_any (m d : Int) (fn : Nat) (bnd cap : Array Value) (B : Option Addr) (cb : Nat) (l : List Int) (T : Nat → List (List Int)) (w : World) (hl : l.length ≤ 9223372036854775807) (hrb : RI w B l)
    (hok : ∀ e, 2 ≤ m → m ≤ 10000 → 1 ≤ e → e ≤ 10 → Pl.Ok m e (T e))
    (hen : ∀ (args : Array Value) (W : World), (callFunc fn args).run Try.prog W = .ok (.enter fn args) W)
    (hf : ∀ (e : Nat) (A1 : Option Addr) (c1 : Nat) (A2 : Option Addr) (c2 : Nat) (W : World), (e : Int) = d → kindB m d l = true → Below w.heap.size w W → RP W A1 (corT m e 0) → RP W A2 (corT m e 1) →
      Calls Try.prog fn (bnd ++ (#[.agg #[.int .i64 m, .int .i64 e, .slice A1 (e + 1) c1], .agg #[.int .i64 m, .int .i64 e, .slice A2 (e + 1) c2]] ++ cap)) W fun x w' => ∃ v, x = .returned (.agg #[.int .i64 m, .int .i64 e, v]) ∧ OwnR w' W.heap.size w'.heap.size v (T e) ∧ Below W.heap.size W w') :
    Calls Try.prog 21 #[.int .i64 m, .int .i64 d, .func (.func fn) bnd cap, .slice B l.length cb] w fun e w' => ∃ s, e = .returned (.tuple #[.agg #[.int .i64 (stP m d l T).1, s], .int .i64 (stP m d l T).2.2]) ∧ OwnR w' w.heap.size w'.heap.size s (stP m d l T).2.1 ∧ Below w.heap.size w w' := by
  obtain ⟨W, hW, v3, hwb⟩ := var0 w
  have V3 := Lib.hid v3
  have HB := Lib.hid hwb
  have HW := Lib.hid hW
  have HC := Lib.hid (codeOfStandard_any m d B cb l W hl (hrb.below hwb))
  have HEN := Lib.hid hen
  obtain ⟨n, hn⟩ : ∃ n, l.length = n := ⟨_, rfl⟩
  by_cases hk : kindB m d l = true
  · obtain ⟨h1, h2, -⟩ := kind_iff hk
    obtain ⟨m1, m2⟩ := (isM_iff m).1 h1
    obtain ⟨d1, d2⟩ := (inB_iff _ _ _).1 h2
    rw [kind_yes hk] at HC
    obtain ⟨e, he⟩ : ∃ e : Nat, (e : Int) = d := ⟨d.toNat, by omega⟩
    have HA : Hid (stP m d l T = (m, T e, 0)) := Lib.hid (by unfold stP; rw [if_pos hk, ← he, show (e : Int).toNat = e by omega])
    rw [HA.out]
    have HF := Lib.hid (fun (A1 : Option Addr) (c1 : Nat) (A2 : Option Addr) (c2 : Nat) (W0 : World) (h : Below W.heap.size W W0) (r1 : RP W0 A1 (corT m e 0)) (r2 : RP W0 A2 (corT m e 1)) => hf e A1 c1 A2 c2 W0 he hk (below_step hwb h) r1 r2)
    have HN := Lib.hid (fun W0 => monomial_any m e 1 1 W0 (by omega) m2 (by omega) (by omega) (by omega))
    have hso : SerOk m e (Ser.cut m e (Ser.mon 1 1)) := ⟨m1, m2, by omega, by omega, Ser.cut_length _ _ _, Ser.cut_red (by omega) _ _⟩
    have hll := hso.len
    have hg0 : ∀ (W0 : World) (A0 : Option Addr) (c0 : Nat) (h : RI W0 A0 (Ser.cut m e (Ser.mon 1 1))), Calls Try.prog 41 #[.agg #[.int .i64 m, .slice A0 (Ser.cut m e (Ser.mon 1 1)).length c0], .int .i64 0] W0 fun x w' => ∃ v, x = .returned (.agg #[.int .i64 m, .int .i64 e, v]) ∧ OwnR w' W0.heap.size w'.heap.size v (corT m e 0) ∧ Below W0.heap.size W0 w' := fun W0 A0 c0 h => gridOfSeries_any m e A0 c0 _ 0 W0 hso h
    have hg1 : ∀ (W0 : World) (A0 : Option Addr) (c0 : Nat) (h : RI W0 A0 (Ser.cut m e (Ser.mon 1 1))), Calls Try.prog 41 #[.agg #[.int .i64 m, .slice A0 (Ser.cut m e (Ser.mon 1 1)).length c0], .int .i64 1] W0 fun x w' => ∃ v, x = .returned (.agg #[.int .i64 m, .int .i64 e, v]) ∧ OwnR w' W0.heap.size w'.heap.size v (corT m e 1) ∧ Below W0.heap.size W0 w' := fun W0 A0 c0 h => gridOfSeries_any m e A0 c0 _ 1 W0 hso h
    have hx : (corT m e 0).length = e + 1 := Pl.tab_length _ _ _
    have hy : (corT m e 1).length = e + 1 := Pl.tab_length _ _ _
    obtain ⟨TX, hTX⟩ : ∃ T, corT m e 0 = T := ⟨_, rfl⟩
    obtain ⟨TY, hTY⟩ : ∃ T, corT m e 1 = T := ⟨_, rfl⟩
    have hT := (hok e m1 m2 (by omega) (by omega)).len
    obtain ⟨TT, hTT⟩ : ∃ t, T e = t := ⟨_, rfl⟩
    rw [hTX] at hg0 HF hx
    rw [hTY] at hg1 HF hy
    rw [hTT] at HF hT ⊢
    obtain ⟨li, hli⟩ : ∃ li, Ser.cut m e (Ser.mon 1 1) = li := ⟨_, rfl⟩
    rw [hli] at hg0 hg1 HN hll
    rw [hll] at hg0 hg1
    have HG0 := Lib.hid hg0
    have HG1 := Lib.hid hg1
    have HLL := Lib.hid hll
    have HX := Lib.hid hx
    have HY := Lib.hid hy
    have HTL := Lib.hid hT
    subst he
    rw [hn] at HC ⊢
    clear hk h1 h2 hf hen hso hll hx hy hTX hTY hTT hT hli hg0 hg1 v3 hwb hW hrb hok HA
    go_enter Try.func21, Try.ntmps21
    go_wp2_with fail
    rw [HW.out]
    refine HC.out.mono ?_
    rintro x w' ⟨rfl, rfl⟩
    go_wp2_with fail
    refine (HN.out _).mono ?_
    rintro x w1 ⟨v, rfl, ho1, hb1⟩
    obtain ⟨A1, c1, rfl, -⟩ := ho1.form
    rw [HLL.out] at ho1 ⊢
    obtain ⟨w2, hw2⟩ : ∃ w2, w1.alloc (.cells #[.int .i64 m, .slice A1 (e + 1) c1] 52) = w2 := ⟨_, rfl⟩
    have hb2 : Below W.heap.size W w2 := by rw [← hw2]; exact below_alloc _ hb1
    have hbx : Box w2 w1.heap.size m A1 (e + 1) c1 := by rw [← hw2]; exact Box.newT _ _ _ _ _ _
    have hrl : RI w2 A1 li := by rw [← hw2]; exact ho1.ri.below (below_one _ _)
    have HB2 := Lib.hid hb2
    have HBX := Lib.hid hbx
    have HRL := Lib.hid hrl
    have HX2 := Lib.hid hw2
    clear hb2 hbx hrl hw2 ho1 hb1
    go_wp2_with fail
    rw [HX2.out]
    clear HX2
    have HK := Lib.hid (fun W0 (h : Below w2.heap.size w2 W0) => box_in HBX.out h)
    have HS0 := Lib.hid (HK.out _ (below_drew0 w2))
    refine region_tilN (fun w' => w'.cell? ⟨w1.heap.size, 0, none⟩ = some (.int .i64 m) ∧ w'.cell? ⟨w1.heap.size, 1, none⟩ = some (.slice A1 (e + 1) c1)) 7 (by kernel_rfl) ?_
    refine tilN_take (i := 0) (dst := some 23) (.func (.func fn) bnd cap) rfl rfl (by kernel_rfl) (by kernel_rfl) (by kernel_rfl) (by kernel_rfl) (fun _ _ _ h => h) (Or.inl ⟨by rfl, ?_⟩) HS0.out ?_
    · rintro w' ⟨a1, a2⟩
      go_simp
    simp only [Act.put, List.setIfInBounds_toArray, List.set_cons_zero, List.set_cons_succ]
    refine tilN_take (i := 1) (dst := some 24) (.agg #[.int .i64 m, .slice A1 (e + 1) c1]) rfl rfl (by kernel_rfl) (by kernel_rfl) (by kernel_rfl) (by kernel_rfl) (fun _ _ _ h => h) (Or.inl ⟨by rfl, ?_⟩) HS0.out ?_
    · rintro w' ⟨a1, a2⟩
      go_simp
    simp only [Act.put, List.setIfInBounds_toArray, List.set_cons_zero, List.set_cons_succ]
    refine tilN_take (i := 3) (dst := some 26) (.agg #[.int .i64 m, .slice A1 (e + 1) c1]) rfl rfl (by kernel_rfl) (by kernel_rfl) (by kernel_rfl) (by kernel_rfl) (fun _ _ _ h => h) (Or.inl ⟨by rfl, ?_⟩) HS0.out ?_
    · rintro w' ⟨a1, a2⟩
      go_simp
    simp only [Act.put, List.setIfInBounds_toArray, List.set_cons_zero, List.set_cons_succ]
    refine tilN_one (i := 2) (by kernel_rfl) rfl (fun K hK => ?_)
    go_simp
    (go_at_call 41; with_reducible refine Calls.mono (HG0.out _ _ _ (HRL.out.below (below_drew0 w2))) ?_; rintro x w4 ⟨v4, rfl, ho4, hb4⟩; obtain ⟨A4, c4, rfl, -⟩ := ho4.len; rw [HX.out] at ho4 ⊢; have b4 := below_step (below_drew0 w2) hb4)
    dsimp only
    refine hK.out _ _ (fun _ => HK.out _ b4) ?_
    clear hK K
    try simp only [Act.put, List.setIfInBounds_toArray, List.set_cons_zero, List.set_cons_succ]
    refine tilN_one (i := 4) (by kernel_rfl) rfl (fun K hK => ?_)
    go_simp
    (go_at_call 41; with_reducible refine Calls.mono (HG1.out _ _ _ (HRL.out.below b4)) ?_; rintro x w5 ⟨v5, rfl, ho5, hb5⟩; obtain ⟨A5, c5, rfl, -⟩ := ho5.len; rw [HY.out] at ho5 ⊢; have b5 := below_step b4 hb5)
    dsimp only
    refine hK.out _ _ (fun _ => HK.out _ b5) ?_
    clear hK K
    try simp only [Act.put, List.setIfInBounds_toArray, List.set_cons_zero, List.set_cons_succ]
    have hen0 := HEN.out
    refine tilN_one (i := 5) (by kernel_rfl) rfl (fun K hK => ?_)
    go_simp
    (with_reducible refine Calls.mono (HF.out _ _ _ _ _ (below_step HB2.out b5) (ho4.rp.below hb5) ho5.rp) ?_; rintro x w6 ⟨v6, rfl, ho6, hb6⟩; obtain ⟨A6, c6, rfl, -⟩ := ho6.len; rw [HTL.out] at ho6 ⊢; have b6 := below_step b5 hb6)
    dsimp only
    refine hK.out _ _ (fun _ => HK.out _ b6) ?_
    clear hK K
    try simp only [Act.put, List.setIfInBounds_toArray, List.set_cons_zero, List.set_cons_succ]
    clear hen0
    refine tilN_one (i := 6) (by kernel_rfl) rfl (fun K hK => ?_)
    go_simp
    (refine (plane_any _ _ _ _ _ _).mono ?_; rintro x w7 ⟨rfl, hb7⟩; have b7 := below_step b6 hb7; have hv := V3.out.keep (below_step HB2.out b7); obtain ⟨q0, q1, q2, q3⟩ := hv.tells2)
    dsimp only
    refine hK.out _ _ (fun _ => HK.out _ b7) ?_
    clear hK K
    try simp only [Act.put, List.setIfInBounds_toArray, List.set_cons_zero, List.set_cons_succ]
    refine tilN_one (i := 7) (by kernel_rfl) rfl (fun K hK => ?_)
    go_simp
    refine hK.out _ _ (fun hlt => absurd hlt (by decide)) ?_
    clear hK K
    refine tilN_one (i := 8) (by kernel_rfl) rfl (fun K hK => ?_)
    go_simp
    refine hK.out _ _ (fun hlt => absurd hlt (by decide)) ?_
    clear hK K
    refine tilN_done (by kernel_rfl) ?_
    have hz1 := (below_step HB2.out b5).size
    have hz2 := V3.out.lt
    obtain ⟨f0, f1, f2, f3⟩ := fin_plane (w := w) hv (ho6.keep hb7) (.inl (by omega)) (Nat.le_refl _) hb7.size (below_step HB.out (below_step HB2.out b7)) (.int .i64 m) (.slice A6 (e + 1) c6)
    have F2 := Lib.hid (f2.low (lo' := w.heap.size) (by omega))
    have F3 := Lib.hid f3
    clear f2 f3 hv ho4 ho5 ho6 hb4 hb5 hb6 hb7 b4 b5 b6 b7 HS0 HK
    go_wp2
    exact bodyPost_ret (v := .tuple #[.agg #[.int .i64 m, .slice A6 (e + 1) c6], .int .i64 0]) (by simp [results, Try.results21, go_sem, f0, f1]) rfl ⟨_, rfl, F2.out, F3.out⟩
  · have HA : Hid (stP m d l T = (0, [], 2)) := Lib.hid (by unfold stP; rw [if_neg hk])
    rw [HA.out]
    rw [kind_no hk] at HC
    rw [hn] at HC ⊢
    clear hk hf hen v3 hwb hW hrb hok HEN
    go_enter Try.func21, Try.ntmps21
    go_wp2_with fail
    rw [HW.out]
    refine HC.out.mono ?_
    rintro x w' ⟨rfl, rfl⟩
    have hv := V3.out.keep (Below.refl _ _)
    obtain ⟨q0, q1, q2, q3⟩ := hv.tells2
    obtain ⟨f0, f1, f2, f3⟩ := fin_plane (w := w) hv (OwnR.nil _ w.heap.size 0) (.inr (Nat.zero_le _)) (by omega) (Nat.zero_le _) (below_step HB.out (Below.refl _ _)) (.int .i64 0) (.slice none 0 0)
    have F2 := Lib.hid f2
    have F3 := Lib.hid f3
    clear f2 f3 hv
    go_wp2
    exact bodyPost_ret (v := .tuple #[.agg #[.int .i64 0, .slice none 0 0], .int .i64 (2)]) (by simp [results, Try.results21, go_sem, f0, f1]) rfl ⟨_, rfl, F2.out, F3.out⟩
end Go.Proofs.Ytilfjhnkjdfcoaa

/- Contracts of the additive and the multiplicative law and of that of the tangent, of the program. -/
namespace Go.Proofs.Ytilfjhnkjdfcoaa
open Go Go.RowKit Go.WideShapes Go.ChangeShapes Go.ChangeAt

def addlP (m d : Int) : Int × List (List Int) × Int := stP m d [] (fun e => Pl.tab m e (Pl.muF 0))
def mullP (m d c : Int) : Int × List (List Int) × Int := stP m d [c] (fun e => Pl.tab m e (Pl.muF c))
def tanlP (m d c : Int) : Int × List (List Int) × Int := stP m d [c] (fun e => Pl.tab m e (Pl.taF (m - c)))
theorem addlP_len (m d : Int) : szT (addlP m d).2.1 ≤ 1048576 := stP_len _ _ _ _ (fun _ m1 m2 d1 d2 => Pl.Ok.of_tab m1 m2 d1 d2 _)
theorem mullP_len (m d c : Int) : szT (mullP m d c).2.1 ≤ 1048576 := stP_len _ _ _ _ (fun _ m1 m2 d1 d2 => Pl.Ok.of_tab m1 m2 d1 d2 _)
theorem tanlP_len (m d c : Int) : szT (tanlP m d c).2.1 ≤ 1048576 := stP_len _ _ _ _ (fun _ m1 m2 d1 d2 => Pl.Ok.of_tab m1 m2 d1 d2 _)
/-- one parameter -/
theorem kind_one {m d c : Int} (h : kindB m d [c] = true) : 0 ≤ c ∧ c < m := by
  obtain ⟨-, -, h3⟩ := kind_iff h
  have : inB c 0 (m - 1) = true := by
    unfold allIn at h3
    simpa using h3
  obtain ⟨h1, h2⟩ := (inB_iff _ _ _).1 this
  omega
theorem ri_one (W : World) (a : Int) (T : TypeId) : RI (W.alloc (.cells #[.int .i64 a] T)) (some ⟨W.heap.size, 0, none⟩) [a] := ri_lit W [a] T
theorem ri_nil (W : World) (A : Option Addr) : RI W A [] := fun h => absurd rfl h
theorem add_tab (m : Int) (d : Nat) : (Pl.tab m d fun i j => Pl.pc (corT m d 0) i j + Pl.pc (corT m d 1) i j) = Pl.tab m d (Pl.muF 0) :=
  Pl.tab_congr ((Pl.Eq.pl corT_x corT_y).trans (Pl.Eq.fn Pl.mu_zero))
set_option maxHeartbeats 2000000 in
set_option maxRecDepth 100000 in
theorem AdditiveLaw_any (m d : Int) (w : World) :
    Calls Try.prog 8 #[.int .i64 m, .int .i64 d] w fun e w' => ∃ s, e = .returned (.tuple #[.agg #[.int .i64 (addlP m d).1, s], .int .i64 (addlP m d).2.2]) ∧ OwnR w' w.heap.size w'.heap.size s (addlP m d).2.1 ∧ Below w.heap.size w w' := by
  obtain ⟨W, hW, v3, hwb⟩ := var0 w
  have HS := Lib.hid (standardLaw_any m d 22 #[] #[] none 0 [] (fun e => Pl.tab m e (Pl.muF 0)) W (by simp) (ri_nil _ _) (fun _ m1 m2 d1 d2 => Pl.Ok.of_tab m1 m2 d1 d2 _)
    (enters_fn Try.func22 (of_decide_eq_true (by kernel_rfl)) rfl)
    (fun e A1 c1 A2 c2 W0 he hk hb r1 r2 => by
      obtain ⟨h1, h2, -⟩ := kind_iff hk
      obtain ⟨m1, m2⟩ := (isM_iff m).1 h1
      obtain ⟨d1, d2⟩ := (inB_iff _ _ _).1 h2
      have := gplus_any m e A1 c1 (corT m e 0) A2 c2 (corT m e 1) W0 (Pl.Ok.of_tab m1 m2 (by omega) (by omega) _) (Pl.Ok.of_tab m1 m2 (by omega) (by omega) _) r1 r2
      rw [add_tab, show (corT m e 0).length = e + 1 from Pl.tab_length _ _ _, show (corT m e 1).length = e + 1 from Pl.tab_length _ _ _] at this
      exact this))
  obtain ⟨MV, hMV⟩ : ∃ x, (addlP m d).1 = x := ⟨_, rfl⟩
  obtain ⟨CV, hCV⟩ : ∃ x, (addlP m d).2.2 = x := ⟨_, rfl⟩
  obtain ⟨TV, hTV⟩ : ∃ x, (addlP m d).2.1 = x := ⟨_, rfl⟩
  unfold addlP at hMV hCV hTV
  unfold addlP
  rw [hMV, hCV, hTV] at HS ⊢
  have V3 := Lib.hid v3
  have HB := Lib.hid hwb
  have HW := Lib.hid hW
  clear v3 hwb hW hMV hCV hTV
  go_enter Try.func8, Try.ntmps8
  go_wp2_with fail
  rw [HW.out]
  refine HS.out.mono ?_
  rintro x w3 ⟨s, rfl, ho, hb3⟩
  obtain ⟨A2, c2, rfl, -⟩ := ho.len
  have hv := V3.out.keep hb3
  obtain ⟨q0, q1, q2, q3⟩ := hv.tells2
  obtain ⟨f0, f1, f2, f3⟩ := fin_plane (w := w) hv ho (.inl V3.out.lt) (by have := V3.out.lt; have := HB.out.size; omega) (Nat.le_refl _) (below_step HB.out hb3) (.int .i64 MV) (.slice A2 TV.length c2)
  have F2 := Lib.hid (f2.low (show w.heap.size ≤ W.heap.size from HB.out.size))
  have F3 := Lib.hid f3
  clear f2 f3 hv ho hb3
  go_wp2
  exact bodyPost_ret (v := .tuple #[.agg #[.int .i64 MV, .slice A2 TV.length c2], .int .i64 CV]) (by simp [results, Try.results8, go_sem, f0, f1]) rfl ⟨_, rfl, F2.out, F3.out⟩
theorem mul_tab (m : Int) (d : Nat) (c : Int) : (Pl.tab m d fun i j => Pl.pc (Pl.tab m d fun i j => Pl.pc (corT m d 0) i j + Pl.pc (corT m d 1) i j) i j + Pl.pc (Pl.tab m d fun i j => Pl.pc (Pl.tab m d (Pl.mul2 (Pl.pc (corT m d 0)) (Pl.pc (corT m d 1)))) i j * c) i j) = Pl.tab m d (Pl.muF c) := by
  have h1 : Pl.Eq m d (Pl.pc (Pl.tab m d fun i j => Pl.pc (corT m d 0) i j + Pl.pc (corT m d 1) i j)) (Pl.pl (Pl.mon2 1 0) (Pl.mon2 0 1)) := (Pl.pc_tab_eq _ _ _).trans (Pl.Eq.pl corT_x corT_y)
  have h2 : Pl.Eq m d (Pl.pc (Pl.tab m d (Pl.mul2 (Pl.pc (corT m d 0)) (Pl.pc (corT m d 1))))) (Pl.mul2 (Pl.mon2 1 0) (Pl.mon2 0 1)) := (Pl.pc_tab_eq _ _ _).trans (Pl.Eq.mul2 corT_x corT_y)
  have h3 : Pl.Eq m d (Pl.pc (Pl.tab m d fun i j => Pl.pc (Pl.tab m d (Pl.mul2 (Pl.pc (corT m d 0)) (Pl.pc (corT m d 1)))) i j * c)) (Pl.sm c (Pl.mul2 (Pl.mon2 1 0) (Pl.mon2 0 1))) :=
    (Pl.pc_tab_eq _ _ _).trans (fun i j hij => by
      rw [Int.mul_comm]
      exact Ser.mul_cong rfl (h2 i j hij))
  exact Pl.tab_congr ((Pl.Eq.pl h1 h3).trans (Pl.Eq.fn (Pl.mu_eq c)))
/-- three boxes: two grids' and their result's -/
def gridS (m : Int) (d : Nat) (g1 g2 : Nat) (s1 s2 : Value) (w : World) : Prop :=
  (w.cell? ⟨g1, 0, none⟩ = some (.int .i64 m) ∧ w.cell? ⟨g1, 1, none⟩ = some (.int .i64 d) ∧ w.cell? ⟨g1, 2, none⟩ = some s1) ∧
  (w.cell? ⟨g2, 0, none⟩ = some (.int .i64 m) ∧ w.cell? ⟨g2, 1, none⟩ = some (.int .i64 d) ∧ w.cell? ⟨g2, 2, none⟩ = some s2)
theorem grid_keep {W W0 : World} {g1 g2 : Nat} {m : Int} {d : Nat} {A1 A2 : Option Addr} {n1 n2 c1 c2 : Nat} (h1 : GBox W g1 m d A1 n1 c1) (h2 : GBox W g2 m d A2 n2 c2) (h : Below W.heap.size W W0) : gridS m d g1 g2 (.slice A1 n1 c1) (.slice A2 n2 c2) W0 := by
  obtain ⟨a1, a2, a3, -⟩ := h1.keep h
  obtain ⟨b1, b2, b3, -⟩ := h2.keep h
  exact ⟨⟨a1, a2, a3⟩, b1, b2, b3⟩
set_option maxHeartbeats 8000000 in
set_option maxRecDepth 100000 in
theorem mulC_any (m : Int) (e : Nat) (c : Int) (g : Nat) (A1 : Option Addr) (c1 : Nat) (A2 : Option Addr) (c2 : Nat) (w : World) (m1 : 2 ≤ m) (m2 : m ≤ 10000) (d1 : 1 ≤ e) (d2 : e ≤ 10) (h0 : 0 ≤ c) (h1 : c < m) (hg : Cel w g c) (r1 : RP w A1 (corT m e 0)) (r2 : RP w A2 (corT m e 1)) :
    Calls Try.prog 26 #[.agg #[.int .i64 m, .int .i64 e, .slice A1 (e + 1) c1], .agg #[.int .i64 m, .int .i64 e, .slice A2 (e + 1) c2], .pointer (some ⟨g, 0, none⟩)] w fun x w' => ∃ v, x = .returned (.agg #[.int .i64 m, .int .i64 e, v]) ∧ OwnR w' w.heap.size w'.heap.size v (Pl.tab m e (Pl.muF c)) ∧ Below w.heap.size w w' := by
  have hx : (corT m e 0).length = e + 1 := Pl.tab_length _ _ _
  have hy : (corT m e 1).length = e + 1 := Pl.tab_length _ _ _
  have okx : Pl.Ok m e (corT m e 0) := Pl.Ok.of_tab m1 m2 d1 d2 _
  have oky : Pl.Ok m e (corT m e 1) := Pl.Ok.of_tab m1 m2 d1 d2 _
  obtain ⟨W, hW, b1, b2, v3, hwb⟩ := gpro2 w m e A1 (e + 1) c1 m e A2 (e + 1) c2
  have HP1 := Lib.hid (fun (W0 : World) (h : Below W.heap.size W W0) => by
    have := gplus_any m e A1 c1 (corT m e 0) A2 c2 (corT m e 1) W0 okx oky ((r1.below hwb).below h) ((r2.below hwb).below h)
    rw [hx, hy] at this
    exact this)
  have HT := Lib.hid (fun (W0 : World) (h : Below W.heap.size W W0) => by
    have := gtimes_any m e A1 c1 (corT m e 0) A2 c2 (corT m e 1) W0 okx oky ((r1.below hwb).below h) ((r2.below hwb).below h)
    rw [hx, hy] at this
    exact this)
  have HSC := Lib.hid (fun (A : Option Addr) (c0 : Nat) (W0 : World) (h : RP W0 A (Pl.tab m e (Pl.mul2 (Pl.pc (corT m e 0)) (Pl.pc (corT m e 1))))) => by
    have := gscaled_any m e A c0 _ c W0 (okx.tab _) h (by omega) (by omega)
    rw [Pl.tab_length] at this
    exact this)
  have HP2 := Lib.hid (fun (A : Option Addr) (c0 : Nat) (A' : Option Addr) (c0' : Nat) (W0 : World) (h : RP W0 A (Pl.tab m e fun i j => Pl.pc (corT m e 0) i j + Pl.pc (corT m e 1) i j)) (h' : RP W0 A' (Pl.tab m e fun i j => Pl.pc (Pl.tab m e (Pl.mul2 (Pl.pc (corT m e 0)) (Pl.pc (corT m e 1)))) i j * c)) => by
    have := gplus_any m e A c0 _ A' c0' _ W0 (okx.tab _) (okx.tab _) h h'
    rw [Pl.tab_length, Pl.tab_length, mul_tab] at this
    exact this)
  have l1 : (Pl.tab m e fun i j => Pl.pc (corT m e 0) i j + Pl.pc (corT m e 1) i j).length = e + 1 := Pl.tab_length _ _ _
  have l2 : (Pl.tab m e (Pl.mul2 (Pl.pc (corT m e 0)) (Pl.pc (corT m e 1)))).length = e + 1 := Pl.tab_length _ _ _
  have l3 : (Pl.tab m e fun i j => Pl.pc (Pl.tab m e (Pl.mul2 (Pl.pc (corT m e 0)) (Pl.pc (corT m e 1)))) i j * c).length = e + 1 := Pl.tab_length _ _ _
  have l4 : (Pl.tab m e (Pl.muF c)).length = e + 1 := Pl.tab_length _ _ _
  obtain ⟨T1, hT1⟩ : ∃ T, (Pl.tab m e fun i j => Pl.pc (corT m e 0) i j + Pl.pc (corT m e 1) i j) = T := ⟨_, rfl⟩
  obtain ⟨T3, hT3⟩ : ∃ T, (Pl.tab m e fun i j => Pl.pc (Pl.tab m e (Pl.mul2 (Pl.pc (corT m e 0)) (Pl.pc (corT m e 1)))) i j * c) = T := ⟨_, rfl⟩
  obtain ⟨T2, hT2⟩ : ∃ T, Pl.tab m e (Pl.mul2 (Pl.pc (corT m e 0)) (Pl.pc (corT m e 1))) = T := ⟨_, rfl⟩
  obtain ⟨T4, hT4⟩ : ∃ T, Pl.tab m e (Pl.muF c) = T := ⟨_, rfl⟩
  rw [hT1] at HP1 HP2 l1
  rw [hT3] at HSC HP2 l3
  rw [hT2] at HT HSC l2
  rw [hT4] at HP2 l4 ⊢
  have L1 := Lib.hid l1
  have L2 := Lib.hid l2
  have L3 := Lib.hid l3
  have L4 := Lib.hid l4
  have V3 := Lib.hid v3
  have HB := Lib.hid hwb
  have HW := Lib.hid hW
  have B1 := Lib.hid b1
  have B2 := Lib.hid b2
  have HG := Lib.hid (hg.keep hwb)
  have hsz : w.heap.size + 1 + 1 < W.heap.size := v3.lt
  have HK := Lib.hid (fun W0 (h : Below W.heap.size W W0) => (⟨grid_keep B1.out B2.out h, ((HG.out.keep h) : Cel W0 g c).1⟩ : gridS m e w.heap.size (w.heap.size + 1) (.slice A1 (e + 1) c1) (.slice A2 (e + 1) c2) W0 ∧ W0.cell? ⟨g, 0, none⟩ = some (.int .i64 c)))
  have HS0 := Lib.hid (HK.out _ (below_drew0 W))
  clear hx hy okx oky l1 l2 l3 l4 hT1 hT2 hT3 hT4 v3 hwb hW b1 b2 hg r1 r2
  go_enter Try.func26, Try.ntmps26
  go_upto_region 1 with fail
  rw [HW.out]
  refine region_tilN (fun w' => gridS m e w.heap.size (w.heap.size + 1) (.slice A1 (e + 1) c1) (.slice A2 (e + 1) c2) w' ∧ w'.cell? ⟨g, 0, none⟩ = some (.int .i64 c)) 9 (by kernel_rfl) ?_
  refine tilN_take (i := 0) (dst := some 6) (.agg #[.int .i64 m, .int .i64 e, .slice A1 (e + 1) c1]) rfl rfl (by kernel_rfl) (by kernel_rfl) (by kernel_rfl) (by kernel_rfl) (fun _ _ _ h => h) (Or.inl ⟨by rfl, ?_⟩) HS0.out ?_
  · rintro w' ⟨⟨⟨a1, a2, a3⟩, ⟨b1, b2, b3⟩⟩, k1⟩
    go_simp
  simp only [Act.put, List.setIfInBounds_toArray, List.set_cons_zero, List.set_cons_succ]
  refine tilN_take (i := 1) (dst := some 7) (.agg #[.int .i64 m, .int .i64 e, .slice A2 (e + 1) c2]) rfl rfl (by kernel_rfl) (by kernel_rfl) (by kernel_rfl) (by kernel_rfl) (fun _ _ _ h => h) (Or.inl ⟨by rfl, ?_⟩) HS0.out ?_
  · rintro w' ⟨⟨⟨a1, a2, a3⟩, ⟨b1, b2, b3⟩⟩, k1⟩
    go_simp
  simp only [Act.put, List.setIfInBounds_toArray, List.set_cons_zero, List.set_cons_succ]
  refine tilN_take (i := 3) (dst := some 9) (.agg #[.int .i64 m, .int .i64 e, .slice A1 (e + 1) c1]) rfl rfl (by kernel_rfl) (by kernel_rfl) (by kernel_rfl) (by kernel_rfl) (fun _ _ _ h => h) (Or.inl ⟨by rfl, ?_⟩) HS0.out ?_
  · rintro w' ⟨⟨⟨a1, a2, a3⟩, ⟨b1, b2, b3⟩⟩, k1⟩
    go_simp
  simp only [Act.put, List.setIfInBounds_toArray, List.set_cons_zero, List.set_cons_succ]
  refine tilN_take (i := 4) (dst := some 10) (.agg #[.int .i64 m, .int .i64 e, .slice A2 (e + 1) c2]) rfl rfl (by kernel_rfl) (by kernel_rfl) (by kernel_rfl) (by kernel_rfl) (fun _ _ _ h => h) (Or.inl ⟨by rfl, ?_⟩) HS0.out ?_
  · rintro w' ⟨⟨⟨a1, a2, a3⟩, ⟨b1, b2, b3⟩⟩, k1⟩
    go_simp
  simp only [Act.put, List.setIfInBounds_toArray, List.set_cons_zero, List.set_cons_succ]
  refine tilN_take (i := 6) (dst := some 12) (.int .i64 c) rfl rfl (by kernel_rfl) (by kernel_rfl) (by kernel_rfl) (by kernel_rfl) (fun _ _ _ h => h) (Or.inl ⟨by rfl, ?_⟩) HS0.out ?_
  · rintro w' ⟨⟨⟨a1, a2, a3⟩, ⟨b1, b2, b3⟩⟩, k1⟩
    go_simp
  simp only [Act.put, List.setIfInBounds_toArray, List.set_cons_zero, List.set_cons_succ]
  refine tilN_one (i := 2) (by kernel_rfl) rfl (fun K hK => ?_)
  go_simp
  (go_at_call 22; with_reducible refine Calls.mono (HP1.out _ (below_drew0 W)) ?_; rintro x w2 ⟨v2, rfl, ho2, hb2⟩; obtain ⟨A3, c3, rfl, -⟩ := ho2.len; rw [L1.out] at ho2 ⊢; have k2 := below_step (below_drew0 W) hb2)
  dsimp only
  refine hK.out _ _ (fun _ => HK.out _ k2) ?_
  clear hK K
  try simp only [Act.put, List.setIfInBounds_toArray, List.set_cons_zero, List.set_cons_succ]
  refine tilN_one (i := 5) (by kernel_rfl) rfl (fun K hK => ?_)
  go_simp
  (go_at_call 27; with_reducible refine Calls.mono (HT.out _ k2) ?_; rintro x w3 ⟨v3, rfl, ho3, hb3⟩; obtain ⟨A4, c4, rfl, -⟩ := ho3.len; rw [L2.out] at ho3 ⊢; have k3 := below_step k2 hb3)
  dsimp only
  refine hK.out _ _ (fun _ => HK.out _ k3) ?_
  clear hK K
  try simp only [Act.put, List.setIfInBounds_toArray, List.set_cons_zero, List.set_cons_succ]
  refine tilN_one (i := 7) (by kernel_rfl) rfl (fun K hK => ?_)
  go_simp
  (go_at_call 28; with_reducible refine Calls.mono (HSC.out _ _ _ ho3.rp) ?_; rintro x w4 ⟨v4, rfl, ho4, hb4⟩; obtain ⟨A5, c5, rfl, -⟩ := ho4.len; rw [L3.out] at ho4 ⊢; have k4 := below_step k3 hb4)
  dsimp only
  refine hK.out _ _ (fun _ => HK.out _ k4) ?_
  clear hK K
  try simp only [Act.put, List.setIfInBounds_toArray, List.set_cons_zero, List.set_cons_succ]
  refine tilN_one (i := 8) (by kernel_rfl) rfl (fun K hK => ?_)
  go_simp
  (go_at_call 22; with_reducible refine Calls.mono (HP2.out _ _ _ _ _ ((ho2.rp.below hb3).below hb4) ho4.rp) ?_; rintro x w5 ⟨v5, rfl, ho5, hb5⟩; obtain ⟨A6, c6, rfl, -⟩ := ho5.len; rw [L4.out] at ho5 ⊢; have k5 := below_step k4 hb5; have hv := V3.out.keep k5; obtain ⟨q0, q1, q2, q3, q4, q5⟩ := hv.tells3)
  dsimp only
  refine hK.out _ _ (fun _ => HK.out _ k5) ?_
  clear hK K
  try simp only [Act.put, List.setIfInBounds_toArray, List.set_cons_zero, List.set_cons_succ]
  refine tilN_one (i := 9) (by kernel_rfl) rfl (fun K hK => ?_)
  go_simp
  refine hK.out _ _ (fun hlt => absurd hlt (by decide)) ?_
  clear hK K
  refine tilN_done (by kernel_rfl) ?_
  have hz1 := k4.size
  obtain ⟨f0, f1, f2, f3, f4⟩ := fin_grid (w := w) hv ho5 (.inl (by omega)) (by omega) (Nat.le_refl _) (below_step HB.out k5) (.int .i64 m) (.int .i64 e) (.slice A6 (e + 1) c6)
  have F3 := Lib.hid (f3.low (lo' := w.heap.size) (by omega))
  have F4 := Lib.hid f4
  unfold set3 at f0 f1 f2
  clear f3 f4 hv ho5 HS0 HK
  go_wp2
  exact bodyPost_ret (v := .agg #[.int .i64 m, .int .i64 e, .slice A6 (e + 1) c6]) (by simp [results, Try.results26, go_sem, f0, f1, f2]) rfl ⟨_, rfl, F3.out, F4.out⟩
end Go.Proofs.Ytilfjhnkjdfcoaa

/- Contracts of the multiplicative law and of the law of the tangent, of the program. -/
namespace Go.Proofs.Ytilfjhnkjdfcoaa
open Go Go.RowKit Go.WideShapes Go.ChangeShapes Go.ChangeAt

/-- a parameter's box and the result's variable -/
theorem cvarP (w : World) (c : Int) : ∃ W, (w.alloc (.cells #[.int .i64 c] 2)).alloc (.cells #[.int .i64 0, .slice none 0 0] 24) = W ∧ Cel W w.heap.size c ∧ VarC 24 W (w.heap.size + 1) #[.int .i64 0, .slice none 0 0] ∧ W.heap.size = w.heap.size + 1 + 1 ∧ Below w.heap.size w W := by
  refine ⟨_, rfl, (Cel.new w c).keep (below_one _ _), ?_, by simp, below_alloc _ (below_one _ _)⟩
  have := VarC.new 24 (w.alloc (.cells #[.int .i64 c] 2)) #[.int .i64 0, .slice none 0 0]
  simpa using this
set_option maxHeartbeats 2000000 in
set_option maxRecDepth 100000 in
theorem MultiplicativeLaw_any (m d c : Int) (w : World) :
    Calls Try.prog 13 #[.int .i64 m, .int .i64 d, .int .i64 c] w fun e w' => ∃ s, e = .returned (.tuple #[.agg #[.int .i64 (mullP m d c).1, s], .int .i64 (mullP m d c).2.2]) ∧ OwnR w' w.heap.size w'.heap.size s (mullP m d c).2.1 ∧ Below w.heap.size w w' := by
  obtain ⟨W, hW, hg, v3, hWs, hwb⟩ := cvarP w c
  have hb1 := below_one W (.cells #[.int .i64 c] 2)
  have hrl : RI (W.alloc (.cells #[.int .i64 c] 2)) (some ⟨w.heap.size + 1 + 1, 0, none⟩) [c] := by rw [← hWs]; exact ri_one W c _
  have HS := Lib.hid (standardLaw_any m d 26 #[] #[.pointer (some ⟨w.heap.size, 0, none⟩)] (some ⟨w.heap.size + 1 + 1, 0, none⟩) 1 [c] (fun e => Pl.tab m e (Pl.muF c)) (W.alloc (.cells #[.int .i64 c] 2)) (by simp) hrl (fun _ m1 m2 d1 d2 => Pl.Ok.of_tab m1 m2 d1 d2 _)
    (enters_fn Try.func26 (of_decide_eq_true (by kernel_rfl)) rfl)
    (fun e A1 c1 A2 c2 W0 he hk hb r1 r2 => by
      obtain ⟨h1, h2, -⟩ := kind_iff hk
      obtain ⟨k1, k2⟩ := kind_one hk
      obtain ⟨m1, m2⟩ := (isM_iff m).1 h1
      obtain ⟨d1, d2⟩ := (inB_iff _ _ _).1 h2
      exact mulC_any m e c w.heap.size A1 c1 A2 c2 W0 m1 m2 (by omega) (by omega) k1 k2 ((hg.keep hb1).keep hb) r1 r2))
  obtain ⟨MV, hMV⟩ : ∃ x, (mullP m d c).1 = x := ⟨_, rfl⟩
  obtain ⟨CV, hCV⟩ : ∃ x, (mullP m d c).2.2 = x := ⟨_, rfl⟩
  obtain ⟨TV, hTV⟩ : ∃ x, (mullP m d c).2.1 = x := ⟨_, rfl⟩
  unfold mullP at hMV hCV hTV
  unfold mullP
  rw [hMV, hCV, hTV] at HS ⊢
  have V3 := Lib.hid v3
  have HB := Lib.hid hwb
  have HW := Lib.hid hW
  have HB1 := Lib.hid hb1
  obtain ⟨q0, q1⟩ := hg
  clear v3 hwb hW hMV hCV hTV hb1 hrl hWs
  go_enter Try.func13, Try.ntmps13
  go_wp2_with fail
  rw [HW.out]
  refine HS.out.mono ?_
  rintro x w3 ⟨s, rfl, ho, hb⟩
  obtain ⟨A2, c2, rfl, -⟩ := ho.len
  have hb3 := below_step HB1.out hb
  have hv := V3.out.keep hb3
  obtain ⟨q0, q1, q2, q3⟩ := hv.tells2
  obtain ⟨f0, f1, f2, f3⟩ := fin_plane (w := w) hv ho (.inl (by have := V3.out.lt; have := HB1.out.size; omega)) (by omega) (Nat.le_refl _) (below_step HB.out hb3) (.int .i64 MV) (.slice A2 TV.length c2)
  have F2 := Lib.hid (f2.low (show w.heap.size ≤ _ from Nat.le_trans HB.out.size HB1.out.size))
  have F3 := Lib.hid f3
  clear f2 f3 hv ho hb3 hb
  go_wp2
  exact bodyPost_ret (v := .tuple #[.agg #[.int .i64 MV, .slice A2 TV.length c2], .int .i64 CV]) (by simp [results, Try.results13, go_sem, f0, f1]) rfl ⟨_, rfl, F2.out, F3.out⟩
theorem tan_mod (m c : Int) : (m - c) % m = (-c) % m := by
  rw [Int.sub_eq_add_neg, Int.add_emod, Int.emod_self, Int.zero_add, Int.emod_emod]
theorem tan_over {m : Int} {d : Nat} (m1 : 2 ≤ m) (m2 : m ≤ 10000) (d1 : 1 ≤ d) (d2 : d ≤ 10) (c : Int) :
    Pl.ovT m d (Pl.tab m d fun i j => Pl.pc (corT m d 0) i j + Pl.pc (corT m d 1) i j) (Pl.pc (Pl.polT m d (Pl.pc (Pl.polT m d (Pl.pc (Pl.tab m d (Pl.mul2 (Pl.pc (corT m d 0)) (Pl.pc (corT m d 1))))) [1, c])) [1, -1])) d = Pl.tab m d (Pl.taF (m - c)) := by
  have h1 : Pl.Eq m d (Pl.pc (Pl.tab m d fun i j => Pl.pc (corT m d 0) i j + Pl.pc (corT m d 1) i j)) (Pl.pl (Pl.mon2 1 0) (Pl.mon2 0 1)) := (Pl.pc_tab_eq _ _ _).trans (Pl.Eq.pl corT_x corT_y)
  have h2 : Pl.Eq m d (Pl.pc (Pl.tab m d (Pl.mul2 (Pl.pc (corT m d 0)) (Pl.pc (corT m d 1))))) (Pl.mon2 1 1) := ((Pl.pc_tab_eq _ _ _).trans (Pl.Eq.mul2 corT_x corT_y)).trans (Pl.Eq.fn (Pl.mon2_mon2 1 0 0 1))
  have h3 : Pl.Eq m d (Pl.pc (Pl.polT m d (Pl.pc (Pl.tab m d (Pl.mul2 (Pl.pc (corT m d 0)) (Pl.pc (corT m d 1))))) [1, c])) (Pl.pl (Pl.one2 1) (Pl.sm c (Pl.mon2 1 1))) := by
    have := Pl.polF_tab _ h2 [1, c]
    rw [Pl.polF_two] at this
    refine this.trans (Pl.Eq.fn ?_)
    funext i j
    exact Int.add_comm _ _
  have h4 := Pl.rest_eq _ h3
  have h5 : Pl.Eq m d (Pl.pc (Pl.polT m d (Pl.pc (Pl.polT m d (Pl.pc (Pl.tab m d (Pl.mul2 (Pl.pc (corT m d 0)) (Pl.pc (corT m d 1))))) [1, c])) [1, -1])) (Pl.sm (m - c) (Pl.mon2 1 1)) := h4.trans (by
    intro i j _
    show (-1 * (c * Pl.mon2 1 1 i j)) % m = ((m - c) * Pl.mon2 1 1 i j) % m
    rw [← Int.mul_assoc, show -1 * c = -c by omega]
    exact Ser.mul_cong (tan_mod m c).symm rfl)
  refine Pl.over_fix (Pl.Ok.of_tab m1 m2 d1 d2 _) (Pl.Ok.of_tab m1 m2 d1 d2 _) ?_ ?_
  · rw [h5 0 0 (Nat.zero_le _)]
    show ((m - c) * Pl.mon2 1 1 0 0) % m = 0
    unfold Pl.mon2
    rw [if_neg (by omega), Int.mul_zero, Int.zero_emod]
  · refine (Pl.pc_tab_eq m d _).trans ?_
    refine (Pl.Eq.fn (Pl.ta_fix (m - c)).symm).trans ?_
    exact (Pl.Eq.pl h1 (Pl.Eq.mul2 (Pl.pc_tab_eq m d _) h5)).symm
/-- what a region's operations keep beside what they read: all below the result's variable, which lies there -/
def TK (G : Nat) (W w' : World) : Prop := Below G W w' ∧ G ≤ W.heap.size ∧ ∃ x y z, VarC 43 w' G #[x, y, z]
theorem TK.drew {G : Nat} {W w' : World} (h : TK G W w') : TK G W w'.drew := ⟨h.1.trans (Below.drew (Below.refl _ _)), h.2.1, by obtain ⟨x, y, z, v⟩ := h.2.2; exact ⟨x, y, z, v⟩⟩
theorem TK.lt {G : Nat} {W w' : World} (h : TK G W w') : G < w'.heap.size := by obtain ⟨x, y, z, v⟩ := h.2.2; exact v.lt
theorem TK.call {G : Nat} {W cur nxt : World} (h : TK G W cur) (hb : Below cur.heap.size cur nxt) : TK G W nxt :=
  ⟨h.1.trans (hb.mono (Nat.le_of_lt h.lt)), h.2.1, by obtain ⟨x, y, z, v⟩ := h.2.2; exact ⟨x, y, z, v.keep hb⟩⟩
theorem TK.alloc {G : Nat} {W cur : World} (h : TK G W cur) (o : Obj) : TK G W (cur.alloc o) := h.call (below_one _ _)
theorem TK.store {G : Nat} {W cur : World} (h : TK G W cur) (p q r : Value) : TK G W (((cur.setCell ⟨G, 0, none⟩ p).setCell ⟨G, 1, none⟩ q).setCell ⟨G, 2, none⟩ r) :=
  ⟨below_set3 h.1 (Nat.le_refl _) p q r, h.2.1, by obtain ⟨x, y, z, v⟩ := h.2.2; exact ⟨p, q, r, v.set3 p q r⟩⟩
theorem TK.var {G : Nat} {W w' : World} (h : TK G W w') : ∃ x y z, VarC 43 w' G #[x, y, z] := h.2.2
theorem TK.cur {G : Nat} {W cur : World} {p q : Prop} (hs : p ∧ q ∧ TK G W cur) : TK G W cur := hs.2.2
theorem TK.down {G : Nat} {w W w' : World} (h : TK G W w') (hb : Below w.heap.size w W) (hG : w.heap.size ≤ G) : Below w.heap.size w w' := hb.trans (h.1.mono hG)
theorem sk3 {W W0 : World} {g1 g2 g G : Nat} {m c : Int} {d : Nat} {A1 A2 : Option Addr} {n1 n2 c1 c2 : Nat} (h1 : GBox W g1 m d A1 n1 c1) (h2 : GBox W g2 m d A2 n2 c2) (h3 : Cel W g c) (k1 : g1 < G) (k2 : g2 < G) (k3 : g < G) (h : TK G W W0) :
    ((W0.cell? ⟨g1, 0, none⟩ = some (.int .i64 m) ∧ W0.cell? ⟨g1, 1, none⟩ = some (.int .i64 d) ∧ W0.cell? ⟨g1, 2, none⟩ = some (.slice A1 n1 c1)) ∧
    (W0.cell? ⟨g2, 0, none⟩ = some (.int .i64 m) ∧ W0.cell? ⟨g2, 1, none⟩ = some (.int .i64 d) ∧ W0.cell? ⟨g2, 2, none⟩ = some (.slice A2 n2 c2))) ∧ W0.cell? ⟨g, 0, none⟩ = some (.int .i64 c) ∧ TK G W W0 := by
  have kc : ∀ (b i : Nat) (v : Value), b < G → W.cell? ⟨b, i, none⟩ = some v → W0.cell? ⟨b, i, none⟩ = some v := fun b i v hb hc => (h.1.cell (p := ⟨b, i, none⟩) hb).trans hc
  exact ⟨⟨⟨kc _ _ _ k1 h1.1, kc _ _ _ k1 h1.2.1, kc _ _ _ k1 h1.2.2.1⟩, kc _ _ _ k2 h2.1, kc _ _ _ k2 h2.2.1, kc _ _ _ k2 h2.2.2.1⟩, kc _ _ _ k3 h3.1, h⟩
set_option maxHeartbeats 8000000 in
set_option maxRecDepth 100000 in
theorem tanC_any (m : Int) (e : Nat) (c : Int) (g : Nat) (A1 : Option Addr) (c1 : Nat) (A2 : Option Addr) (c2 : Nat) (w : World) (m1 : 2 ≤ m) (m2 : m ≤ 10000) (d1 : 1 ≤ e) (d2 : e ≤ 10) (h0 : 0 ≤ c) (h1 : c < m) (hg : Cel w g c) (r1 : RP w A1 (corT m e 0)) (r2 : RP w A2 (corT m e 1)) :
    Calls Try.prog 30 #[.agg #[.int .i64 m, .int .i64 e, .slice A1 (e + 1) c1], .agg #[.int .i64 m, .int .i64 e, .slice A2 (e + 1) c2], .pointer (some ⟨g, 0, none⟩)] w fun x w' => ∃ v, x = .returned (.agg #[.int .i64 m, .int .i64 e, v]) ∧ OwnR w' w.heap.size w'.heap.size v (Pl.tab m e (Pl.taF (m - c))) ∧ Below w.heap.size w w' := by
  have hx : (corT m e 0).length = e + 1 := Pl.tab_length _ _ _
  have hy : (corT m e 1).length = e + 1 := Pl.tab_length _ _ _
  have okx : Pl.Ok m e (corT m e 0) := Pl.Ok.of_tab m1 m2 d1 d2 _
  have oky : Pl.Ok m e (corT m e 1) := Pl.Ok.of_tab m1 m2 d1 d2 _
  obtain ⟨W, hW, b1, b2, v3, hwb⟩ := gpro2 w m e A1 (e + 1) c1 m e A2 (e + 1) c2
  have HP1 := Lib.hid (fun (W0 : World) (h : TK (w.heap.size + 1 + 1) W W0) => by
    have := gplus_any m e A1 c1 (corT m e 0) A2 c2 (corT m e 1) W0 okx oky (r1.below (h.down hwb (by omega))) (r2.below (h.down hwb (by omega)))
    rw [hx, hy] at this
    exact this)
  have HT := Lib.hid (fun (W0 : World) (h : TK (w.heap.size + 1 + 1) W W0) => by
    have := gtimes_any m e A1 c1 (corT m e 0) A2 c2 (corT m e 1) W0 okx oky (r1.below (h.down hwb (by omega))) (r2.below (h.down hwb (by omega)))
    rw [hx, hy] at this
    exact this)
  have HPO := Lib.hid (fun (A : Option Addr) (c0 : Nat) (B : Option Addr) (cb : Nat) (W0 : World) (h : RP W0 A (Pl.tab m e (Pl.mul2 (Pl.pc (corT m e 0)) (Pl.pc (corT m e 1))))) (h' : RI W0 B [1, c]) => by
    have := polynomial_any m e A c0 _ B cb [1, c] W0 (okx.tab _) h h' (by simp) (bd_two (by omega) (by omega))
    rw [Pl.tab_length] at this
    exact this)
  have HOV := Lib.hid (fun (A : Option Addr) (c0 : Nat) (A' : Option Addr) (c0' : Nat) (W0 : World) (h : RP W0 A (Pl.tab m e fun i j => Pl.pc (corT m e 0) i j + Pl.pc (corT m e 1) i j)) (h' : RP W0 A' (Pl.polT m e (Pl.pc (Pl.tab m e (Pl.mul2 (Pl.pc (corT m e 0)) (Pl.pc (corT m e 1))))) [1, c])) => by
    have := over_any m e A c0 _ A' c0' _ W0 (okx.tab _) (Pl.polT_ok m1 m2 d1 d2 _ _) h h'
    rw [Pl.tab_length, Pl.polT_length, tan_over m1 m2 d1 d2] at this
    exact this)
  have l1 : (Pl.tab m e fun i j => Pl.pc (corT m e 0) i j + Pl.pc (corT m e 1) i j).length = e + 1 := Pl.tab_length _ _ _
  have l2 : (Pl.tab m e (Pl.mul2 (Pl.pc (corT m e 0)) (Pl.pc (corT m e 1)))).length = e + 1 := Pl.tab_length _ _ _
  have l3 : (Pl.polT m e (Pl.pc (Pl.tab m e (Pl.mul2 (Pl.pc (corT m e 0)) (Pl.pc (corT m e 1))))) [1, c]).length = e + 1 := Pl.polT_length _ _ _ _
  have l4 : (Pl.tab m e (Pl.taF (m - c))).length = e + 1 := Pl.tab_length _ _ _
  obtain ⟨T1, hT1⟩ : ∃ T, (Pl.tab m e fun i j => Pl.pc (corT m e 0) i j + Pl.pc (corT m e 1) i j) = T := ⟨_, rfl⟩
  obtain ⟨T3, hT3⟩ : ∃ T, (Pl.polT m e (Pl.pc (Pl.tab m e (Pl.mul2 (Pl.pc (corT m e 0)) (Pl.pc (corT m e 1))))) [1, c]) = T := ⟨_, rfl⟩
  obtain ⟨T2, hT2⟩ : ∃ T, Pl.tab m e (Pl.mul2 (Pl.pc (corT m e 0)) (Pl.pc (corT m e 1))) = T := ⟨_, rfl⟩
  obtain ⟨T4, hT4⟩ : ∃ T, Pl.tab m e (Pl.taF (m - c)) = T := ⟨_, rfl⟩
  rw [hT1] at HP1 HOV l1
  rw [hT3] at HPO HOV l3
  rw [hT2] at HT HPO l2
  rw [hT4] at HOV l4 ⊢
  have L1 := Lib.hid l1
  have L2 := Lib.hid l2
  have L3 := Lib.hid l3
  have L4 := Lib.hid l4
  have V3 := Lib.hid v3
  have HB := Lib.hid hwb
  have HW := Lib.hid hW
  have HSZ := Lib.hid v3.lt
  have hg' := hg.keep hwb
  have hgl := hg.2
  have HK := Lib.hid (fun W0 (h : TK (w.heap.size + 1 + 1) W W0) => sk3 b1 b2 hg' (by omega) (by omega) (by omega) h)
  have HS0 := Lib.hid (show TK (w.heap.size + 1 + 1) W W.drew from ⟨(Below.refl _ W).drew, Nat.le_of_lt v3.lt, _, _, _, v3⟩)
  clear hx hy okx oky l1 l2 l3 l4 hT1 hT2 hT3 hT4 v3 hwb hW b1 b2 hg r1 r2 hg' h0 h1 hgl
  go_enter Try.func30, Try.ntmps30
  go_upto_region 1 with fail
  rw [HW.out]
  go_region_held3 (fun w' => ((w'.cell? ⟨w.heap.size, 0, none⟩ = some (.int .i64 m) ∧ w'.cell? ⟨w.heap.size, 1, none⟩ = some (.int .i64 e) ∧ w'.cell? ⟨w.heap.size, 2, none⟩ = some (.slice A1 (e + 1) c1)) ∧ (w'.cell? ⟨w.heap.size + 1, 0, none⟩ = some (.int .i64 m) ∧ w'.cell? ⟨w.heap.size + 1, 1, none⟩ = some (.int .i64 e) ∧ w'.cell? ⟨w.heap.size + 1, 2, none⟩ = some (.slice A2 (e + 1) c2))) ∧ w'.cell? ⟨g, 0, none⟩ = some (.int .i64 c) ∧ TK (w.heap.size + 1 + 1) W w') (first | exact HK.out _ HS0.out | exact HK.out _ (TK.store k5 _ _ _) | exact HK.out _ k5 | exact HK.out _ k4 | exact HK.out _ k3 | exact HK.out _ k2 | exact HK.out _ (TK.alloc k3 _) | exact HK.out _ (TK.alloc k2 _) | exact HK.out _ (TK.alloc HS0.out _)) (first
    | (go_at_call 22; with_reducible refine Calls.mono (HP1.out _ (TK.cur (by assumption))) ?_; rintro x w2 ⟨v2, rfl, ho2, hb2⟩; obtain ⟨A3, c3, rfl, -⟩ := ho2.len; rw [L1.out] at ho2 ⊢; have k2 : TK (w.heap.size + 1 + 1) W _ := TK.call (TK.cur (by assumption)) hb2)
    | (go_at_call 27; with_reducible refine Calls.mono (HT.out _ (TK.cur (by assumption))) ?_; rintro x w3 ⟨v3, rfl, ho3, hb3⟩; obtain ⟨A4, c4, rfl, -⟩ := ho3.len; rw [L2.out] at ho3 ⊢; have k3 : TK (w.heap.size + 1 + 1) W _ := TK.call (TK.cur (by assumption)) hb3)
    | (go_at_call 32; with_reducible refine Calls.mono (HPO.out _ _ _ _ _ (by first | exact ho3.rp | exact ho3.rp.below (below_one _ _)) (by first | exact ri_two _ _ _ _ | exact (ri_two _ _ _ _).below hb3 | exact (((ri_two W 1 c _).below (below_drew0 _)).below hb2).below hb3 | exact ((ri_two _ _ _ _).below hb2).below hb3)) ?_; rintro x w4 ⟨v4, rfl, ho4, hb4⟩; obtain ⟨A5, c5, rfl, -⟩ := ho4.len; rw [L3.out] at ho4 ⊢; have k4 : TK (w.heap.size + 1 + 1) W _ := TK.call (TK.cur (by assumption)) hb4)
    | (go_at_call 31; with_reducible refine Calls.mono (HOV.out _ _ _ _ _ (by first | exact (ho2.rp.below hb3).below hb4 | exact ((ho2.rp.below hb3).below (below_one _ _)).below hb4 | exact ((ho2.rp.below (below_one _ _)).below hb3).below hb4) ho4.rp) ?_; rintro x w5 ⟨v5, rfl, ho5, hb5⟩; obtain ⟨A6, c6, rfl, -⟩ := ho5.len; rw [L4.out] at ho5 ⊢; have k5 : TK (w.heap.size + 1 + 1) W _ := TK.call (TK.cur (by assumption)) hb5; obtain ⟨vx, vy, vz, hv⟩ := TK.var k5; obtain ⟨q0, q1, q2, q3, q4, q5⟩ := hv.tells3))
  all_goals
    have hz1 := TK.lt k4
    obtain ⟨f0, f1, f2, f3, f4⟩ := fin_grid (w := w) hv ho5 (.inl hz1) (by omega) (Nat.le_refl _) (k5.down HB.out (by omega)) (.int .i64 m) (.int .i64 e) (.slice A6 (e + 1) c6)
    have F3 := Lib.hid (f3.low (lo' := w.heap.size) (by omega))
    have F4 := Lib.hid f4
    unfold set3 at f0 f1 f2
    clear f3 f4 hv ho5
    go_wp2
    exact bodyPost_ret (v := .agg #[.int .i64 m, .int .i64 e, .slice A6 (e + 1) c6]) (by simp [results, Try.results30, go_sem, f0, f1, f2]) rfl ⟨_, rfl, F3.out, F4.out⟩
set_option maxHeartbeats 2000000 in
set_option maxRecDepth 100000 in
theorem TangentLaw_any (m d c : Int) (w : World) :
    Calls Try.prog 15 #[.int .i64 m, .int .i64 d, .int .i64 c] w fun e w' => ∃ s, e = .returned (.tuple #[.agg #[.int .i64 (tanlP m d c).1, s], .int .i64 (tanlP m d c).2.2]) ∧ OwnR w' w.heap.size w'.heap.size s (tanlP m d c).2.1 ∧ Below w.heap.size w w' := by
  obtain ⟨W, hW, hg, v3, hWs, hwb⟩ := cvarP w c
  have hb1 := below_one W (.cells #[.int .i64 c] 2)
  have hrl : RI (W.alloc (.cells #[.int .i64 c] 2)) (some ⟨w.heap.size + 1 + 1, 0, none⟩) [c] := by rw [← hWs]; exact ri_one W c _
  have HS := Lib.hid (standardLaw_any m d 30 #[] #[.pointer (some ⟨w.heap.size, 0, none⟩)] (some ⟨w.heap.size + 1 + 1, 0, none⟩) 1 [c] (fun e => Pl.tab m e (Pl.taF (m - c))) (W.alloc (.cells #[.int .i64 c] 2)) (by simp) hrl (fun _ m1 m2 d1 d2 => Pl.Ok.of_tab m1 m2 d1 d2 _)
    (enters_fn Try.func30 (of_decide_eq_true (by kernel_rfl)) rfl)
    (fun e A1 c1 A2 c2 W0 he hk hb r1 r2 => by
      obtain ⟨h1, h2, -⟩ := kind_iff hk
      obtain ⟨k1, k2⟩ := kind_one hk
      obtain ⟨m1, m2⟩ := (isM_iff m).1 h1
      obtain ⟨d1, d2⟩ := (inB_iff _ _ _).1 h2
      exact tanC_any m e c w.heap.size A1 c1 A2 c2 W0 m1 m2 (by omega) (by omega) k1 k2 ((hg.keep hb1).keep hb) r1 r2))
  obtain ⟨MV, hMV⟩ : ∃ x, (tanlP m d c).1 = x := ⟨_, rfl⟩
  obtain ⟨CV, hCV⟩ : ∃ x, (tanlP m d c).2.2 = x := ⟨_, rfl⟩
  obtain ⟨TV, hTV⟩ : ∃ x, (tanlP m d c).2.1 = x := ⟨_, rfl⟩
  unfold tanlP at hMV hCV hTV
  unfold tanlP
  rw [hMV, hCV, hTV] at HS ⊢
  have V3 := Lib.hid v3
  have HB := Lib.hid hwb
  have HW := Lib.hid hW
  have HB1 := Lib.hid hb1
  obtain ⟨q0, q1⟩ := hg
  clear v3 hwb hW hMV hCV hTV hb1 hrl hWs
  go_enter Try.func15, Try.ntmps15
  go_wp2_with fail
  rw [HW.out]
  refine HS.out.mono ?_
  rintro x w3 ⟨s, rfl, ho, hb⟩
  obtain ⟨A2, c2, rfl, -⟩ := ho.len
  have hb3 := below_step HB1.out hb
  have hv := V3.out.keep hb3
  obtain ⟨q0, q1, q2, q3⟩ := hv.tells2
  obtain ⟨f0, f1, f2, f3⟩ := fin_plane (w := w) hv ho (.inl (by have := V3.out.lt; have := HB1.out.size; omega)) (by omega) (Nat.le_refl _) (below_step HB.out hb3) (.int .i64 MV) (.slice A2 TV.length c2)
  have F2 := Lib.hid (f2.low (show w.heap.size ≤ _ from Nat.le_trans HB.out.size HB1.out.size))
  have F3 := Lib.hid f3
  clear f2 f3 hv ho hb3 hb
  go_wp2
  exact bodyPost_ret (v := .tuple #[.agg #[.int .i64 MV, .slice A2 TV.length c2], .int .i64 CV]) (by simp [results, Try.results15, go_sem, f0, f1]) rfl ⟨_, rfl, F2.out, F3.out⟩
end Go.Proofs.Ytilfjhnkjdfcoaa

/- Contracts of the additive and the multiplicative law and of that of the tangent, of the model. -/
namespace Go.Proofs.Ytilfjhnkjdfcoaa
open Go Go.RowKit Go.WideShapes Go.ChangeShapes Go.ChangeAt

/-- one number of a table is written -/
theorem OwnR.poke {w : World} {lo hi n c g : Nat} {m : Int} {d : Nat} {f : Nat → Nat → Int} (h : OwnR w lo hi (.slice (some ⟨g, 0, none⟩) n c) (Pl.tab m d f)) (i j M : Nat) (hij : i + j ≤ d) (hM : M = d - i + 1) :
    ∃ b c', w.cell? ⟨g, i, none⟩ = some (.slice (some ⟨b, 0, none⟩) M c') ∧ (∃ z, w.cell? ⟨b, j, none⟩ = some (.int .i64 z)) ∧ w.frozen? ⟨b, j, none⟩ = false ∧ lo ≤ b ∧
      ∀ (f' : Nat → Nat → Int) (y : Int), f' i j % m = y → (∀ p q, p + q ≤ d → ¬ (p = i ∧ q = j) → f' p q % m = f p q % m) → OwnR (w.setCell ⟨b, j, none⟩ (.int .i64 y)) lo hi (.slice (some ⟨g, 0, none⟩) n c) (Pl.tab m d f') := by
  have hr : (Pl.rw' (Pl.tab m d f) i).length = M := by rw [Pl.tab_row m d f i (by omega), Ser.cut_length, hM]
  obtain ⟨b, c', g1, g2, g3, g4, hcel⟩ := h.numB i j M (by rw [Pl.tab_length]; omega) hr (by omega)
  obtain ⟨c4, c5, c6, c7⟩ := hcel w (Below.refl _ _)
  refine ⟨b, c', c4, ⟨_, c5⟩, c6, g2, fun f' y hy hne => ?_⟩
  have h8 := c7 y
  rw [Pl.tab_put hij hy hne] at h8
  exact h8
theorem size_setCell (w : World) (a : Addr) (v : Value) : (w.setCell a v).heap.size = w.heap.size := by show (w.heap.modify _ _).size = _; simp
set_option maxHeartbeats 2000000 in
theorem l08Multiplicative_any (m : Int) (d : Nat) (c : Int) (w : World) (m1 : 2 ≤ m) (d1 : 1 ≤ d) (d2 : d ≤ 10) (h0 : 0 ≤ c) (h1 : c < m) :
    Calls Try.prog 20 #[.int .i64 m, .int .i64 d, .int .i64 c] w fun e w' => ∃ v, e = .returned v ∧ OwnR w' w.heap.size w'.heap.size v (Pl.tab m d (Pl.muF c)) ∧ Below w.heap.size w w' := by
  have HZ := Lib.hid (l03Zero_any m d w (by omega))
  have e1 : (1 : Int) % m = 1 := Int.emod_eq_of_lt (by omega) (by omega)
  have ec : c % m = c := Int.emod_eq_of_lt h0 h1
  have E1 := Lib.hid e1
  have EC := Lib.hid ec
  clear e1 ec
  go_enter Try.func20, Try.ntmps20
  go_wp2_with fail
  refine HZ.out.mono ?_
  rintro x w1 ⟨v, rfl, ho, hb⟩
  obtain ⟨g, cv, rfl⟩ := ho.openv (by rw [Pl.tab_length]; omega)
  rw [Pl.tab_length] at ho ⊢
  obtain ⟨b1, k1, p1, ⟨z1, p2⟩, p3, p4, p5⟩ := ho.poke 1 0 d (by omega) (by omega)
  have o1 := p5 (fun i j => if i = 1 ∧ j = 0 then 1 else 0) 1 (by rw [if_pos ⟨rfl, rfl⟩]; exact E1.out) (fun p q _ hne => by rw [if_neg hne])
  have bb1 := hb.setCell (p := ⟨b1, 0, none⟩) p4 (.int .i64 1)
  have s1 := size_setCell w1 ⟨b1, 0, none⟩ (.int .i64 1)
  obtain ⟨w2, hw2⟩ : ∃ w2, w1.setCell ⟨b1, 0, none⟩ (.int .i64 1) = w2 := ⟨_, rfl⟩
  rw [hw2] at o1 bb1 s1
  obtain ⟨b2, k2, q1, ⟨z2, q2⟩, q3, q4, q5⟩ := o1.poke 0 1 (d + 1) (by omega) (by omega)
  have o2 := q5 (Pl.muF 0) 1 (by show (if _ then _ else _) % m = 1; rw [if_pos (.inr ⟨rfl, rfl⟩)]; exact E1.out) (fun p q _ hne => by
    unfold Pl.muF
    by_cases h1 : p = 1 ∧ q = 0
    · rw [if_pos (.inl h1), if_pos h1]
    · rw [if_neg (fun e => e.elim h1 hne), if_neg h1]
      split <;> rfl)
  have bb2 := bb1.setCell (p := ⟨b2, 1, none⟩) q4 (.int .i64 1)
  have s2 := size_setCell w2 ⟨b2, 1, none⟩ (.int .i64 1)
  obtain ⟨w3, hw3⟩ : ∃ w3, w2.setCell ⟨b2, 1, none⟩ (.int .i64 1) = w3 := ⟨_, rfl⟩
  rw [hw3] at o2 bb2 s2
  have j0 : (0 : Int) < (d : Int) := by omega
  have j1 : (1 : Int) < (d : Int) + 1 := by omega
  have HW2 := Lib.hid hw2
  have HW3 := Lib.hid hw3
  rw [← hw2] at q1 q2 q3
  by_cases hd : 1 < d
  · obtain ⟨b3, k3, r1, ⟨z3, r2⟩, r3, r4, r5⟩ := o2.poke 1 1 d (by omega) (by omega)
    have o3 := r5 (Pl.muF c) c (by show (if _ then _ else _) % m = c; rw [if_neg (by omega), if_pos ⟨rfl, rfl⟩]; exact EC.out) (fun p q _ hne => by
      unfold Pl.muF
      by_cases h1 : (p = 1 ∧ q = 0) ∨ (p = 0 ∧ q = 1)
      · rw [if_pos h1, if_pos h1]
      · rw [if_neg h1, if_neg h1, if_neg hne, if_neg hne])
    have bb3 := bb2.setCell (p := ⟨b3, 1, none⟩) r4 (.int .i64 c)
    have s3 := size_setCell w3 ⟨b3, 1, none⟩ (.int .i64 c)
    obtain ⟨w4, hw4⟩ : ∃ w4, w3.setCell ⟨b3, 1, none⟩ (.int .i64 c) = w4 := ⟨_, rfl⟩
    rw [hw4] at o3 bb3 s3
    have o4 := o3.more (show w1.heap.size ≤ w4.heap.size by omega)
    have HW4 := Lib.hid hw4
    have O4 := Lib.hid o4
    have B4 := Lib.hid bb3
    have j2 : (1 : Int) < (d : Int) := by omega
    rw [← hw3, ← hw2] at r1 r2 r3
    clear o1 o2 o3 o4 ho hb bb1 bb2 bb3 p5 q5 r5 hw2 hw3 hw4 s1 s2 s3 HZ
    go_wp2
    rw [HW2.out, HW3.out, HW4.out]
    go_ret
    exact ⟨_, rfl, O4.out, B4.out⟩
  · obtain rfl : d = 1 := by omega
    have ht : Pl.tab m 1 (Pl.muF 0) = Pl.tab m 1 (Pl.muF c) := Pl.tab_congr (Pl.Eq.of m 1 (fun i j hij => by
      unfold Pl.muF
      rw [if_neg (show ¬ (i = 1 ∧ j = 1) by omega), if_neg (show ¬ (i = 1 ∧ j = 1) by omega)]))
    rw [ht] at o2
    have o4 := o2.more (show w1.heap.size ≤ w3.heap.size by omega)
    have O4 := Lib.hid o4
    have B4 := Lib.hid bb2
    clear o1 o2 o4 ho hb bb1 bb2 p5 q5 hw2 hw3 s1 s2 HZ ht
    go_wp2
    rw [HW2.out, HW3.out]
    go_ret
    exact ⟨_, rfl, O4.out, B4.out⟩
/-- the table of the tangent when k powers have been laid -/
def taK (e : Int) (k : Nat) : Nat → Nat → Int := fun i j => if i = j + 1 ∧ j < k then e ^ j else if j = i + 1 ∧ i < k then e ^ i else 0
def taH (e : Int) (k : Nat) : Nat → Nat → Int := fun i j => if i = k + 1 ∧ j = k then e ^ k else taK e k i j
theorem taK_end {m : Int} {d k : Nat} (e : Int) (h : d < 2 * k + 1) : Pl.tab m d (taK e k) = Pl.tab m d (Pl.taF e) := Pl.tab_congr (Pl.Eq.of m d (fun i j hij => by
  unfold taK Pl.taF
  by_cases h1 : i = j + 1
  · rw [if_pos ⟨h1, by omega⟩, if_pos h1]
  · rw [if_neg (fun x => h1 x.1), if_neg h1]
    by_cases h2 : j = i + 1
    · rw [if_pos ⟨h2, by omega⟩, if_pos h2]
    · rw [if_neg (fun x => h2 x.1), if_neg h2]))
theorem taK_zero (m : Int) (d : Nat) (e : Int) : Pl.tab m d (taK e 0) = Pl.tab m d fun _ _ => 0 := Pl.tab_congr (Pl.Eq.of m d (fun i j _ => by
  unfold taK
  rw [if_neg (by omega), if_neg (by omega)]))
theorem taH_at (e : Int) (k : Nat) : taH e k (k + 1) k = e ^ k := if_pos ⟨rfl, rfl⟩
theorem taH_ne (e : Int) (k p q : Nat) (h : ¬ (p = k + 1 ∧ q = k)) : taH e k p q = taK e k p q := if_neg h
theorem taK_at (e : Int) (k : Nat) : taK e (k + 1) k (k + 1) = e ^ k := by unfold taK; rw [if_neg (by omega), if_pos ⟨rfl, by omega⟩]
theorem taK_ne (e : Int) (k p q : Nat) (h : ¬ (p = k ∧ q = k + 1)) : taK e (k + 1) p q = taH e k p q := by
  unfold taH
  by_cases h1 : p = k + 1 ∧ q = k
  · rw [if_pos h1]; unfold taK; rw [if_pos ⟨by omega, by omega⟩, h1.2]
  · rw [if_neg h1]
    unfold taK
    by_cases h2 : p = q + 1 ∧ q < k
    · rw [if_pos h2, if_pos ⟨h2.1, by omega⟩]
    · rw [if_neg h2, if_neg (by omega)]
      by_cases h3 : q = p + 1 ∧ p < k
      · rw [if_pos h3, if_pos ⟨h3.1, by omega⟩]
      · rw [if_neg h3, if_neg (by omega)]
set_option maxHeartbeats 4000000 in
set_option maxRecDepth 100000 in
theorem l08Tangent_any (m : Int) (d : Nat) (c : Int) (w : World) (m1 : 2 ≤ m) (m2 : m ≤ 10000) (d1 : 1 ≤ d) (d2 : d ≤ 10) (h0 : 0 ≤ c) (h1 : c < m) :
    Calls Try.prog 29 #[.int .i64 m, .int .i64 d, .int .i64 c] w fun e w' => ∃ v, e = .returned v ∧ OwnR w' w.heap.size w'.heap.size v (Pl.tab m d (Pl.taF (m - c))) ∧ Below w.heap.size w w' := by
  have HZ := Lib.hid (l03Zero_any m d w (by omega))
  have e1 : (1 : Int) % m = 1 := Int.emod_eq_of_lt (by omega) (by omega)
  have e2 : (1 : Int).tmod m = 1 := by rw [Int.tmod_eq_emod_of_nonneg (by omega)]; exact e1
  have E1 := Lib.hid e1
  obtain ⟨e, he⟩ : ∃ e, m - c = e := ⟨_, rfl⟩
  have w1 : IntKind.i64.wrap e = e := by rw [IntKind.wrap_i64]; omega
  have r1 : 0 ≤ e := by omega
  have r2 : e ≤ 10000 := by omega
  have hm0 : ¬ m = 0 := by omega
  rw [he]
  go_enter Try.func29, Try.ntmps29
  go_wp2_with fail
  refine HZ.out.mono ?_
  rintro x wa ⟨v, rfl, ho, hb⟩
  obtain ⟨g, cv, rfl⟩ := ho.openv (by rw [Pl.tab_length]; omega)
  rw [Pl.tab_length, ← taK_zero m d e] at ho
  rw [Pl.tab_length]
  have HO := Lib.hid ho
  have HB := Lib.hid hb
  clear ho hb HZ
  go_wp2
  go_loopw [8, 9] (fun p q wr => ∃ k : Nat, 2 * k ≤ d + 1 ∧ p = .int .i64 (e ^ k % m) ∧ q = .int .i64 k ∧ OwnR wr w.heap.size wr.heap.size (.slice (some ⟨g, 0, none⟩) (d + 1) cv) (Pl.tab m d (taK e k)) ∧ Below w.heap.size w wr) (fun _ q _ => d + 1 - (intOf q).toNat)
  case atStart => exact ⟨0, by omega, by first | (rw [Int.pow_zero, E1.out]; done) | (rw [Int.pow_zero]; rfl) | (rw [Int.pow_zero]; simp [E1.out]), rfl, HO.out, HB.out⟩
  case round =>
    clear HO HB
    obtain ⟨k, hk, rfl, rfl, ho, hbel⟩ := hrel
    have i1 : IntKind.i64.wrap (2 * (k : Int)) = 2 * (k : Int) := by rw [IntKind.wrap_i64]; omega
    have i2 : IntKind.i64.wrap (2 * (k : Int) + 1) = 2 * (k : Int) + 1 := by rw [IntKind.wrap_i64]; omega
    by_cases hlt : 2 * k + 1 ≤ d
    · have hP0 := Int.emod_nonneg (e ^ k) hm0
      have hP1 := Int.emod_lt_of_pos (e ^ k) (show 0 < m by omega)
      obtain ⟨P, hP⟩ : ∃ P, e ^ k % m = P := ⟨_, rfl⟩
      rw [hP] at hP0 hP1 ⊢
      obtain ⟨b1, k1, p1, ⟨z1, p2⟩, p3, p4, p5⟩ := ho.poke (k + 1) k (d - (k + 1) + 1) (by omega) rfl
      have o1 := p5 (taH e k) P (by rw [taH_at]; exact hP) (fun p q _ hne => by rw [taH_ne e k p q hne])
      have bb1 := hbel.setCell (p := ⟨b1, k, none⟩) p4 (.int .i64 P)
      have s1 := size_setCell wr ⟨b1, k, none⟩ (.int .i64 P)
      obtain ⟨w2, hw2⟩ : ∃ w2, wr.setCell ⟨b1, k, none⟩ (.int .i64 P) = w2 := ⟨_, rfl⟩
      rw [hw2] at o1 bb1 s1
      obtain ⟨b2, k2, q1, ⟨z2, q2⟩, q3, q4, q5⟩ := o1.poke k (k + 1) (d - k + 1) (by omega) rfl
      have o2 := q5 (taK e (k + 1)) P (by rw [taK_at]; exact hP) (fun p q _ hne => by rw [taK_ne e k p q hne])
      have bb2 := bb1.setCell (p := ⟨b2, k + 1, none⟩) q4 (.int .i64 P)
      have s2 := size_setCell w2 ⟨b2, k + 1, none⟩ (.int .i64 P)
      obtain ⟨w3, hw3⟩ : ∃ w3, w2.setCell ⟨b2, k + 1, none⟩ (.int .i64 P) = w3 := ⟨_, rfl⟩
      rw [hw3] at o2 bb2 s2
      have o3 := o2.more (show wr.heap.size ≤ w3.heap.size by omega)
      have HW2 := Lib.hid hw2
      have HW3 := Lib.hid hw3
      have O3 := Lib.hid o3
      have B3 := Lib.hid bb2
      rw [← hw2] at q1 q2 q3
      have hPE : P * e % m = e ^ (k + 1) % m := by rw [Int.pow_succ, ← hP]; exact Ser.mul_cong (Int.emod_emod _ _) rfl
      have HPE := Lib.hid hPE
      have hpb := Pl.prod_bd hP0 (show P ≤ 10000 by omega) r1 r2
      obtain ⟨y1, y2⟩ := hpb
      have i3 : IntKind.i64.wrap (P * e) = P * e := by rw [IntKind.wrap_i64]; omega
      have i4 : (2 : Int) * (k : Int) + 1 ≤ (d : Int) := by omega
      have i5 : (0 : Int) ≤ (k : Int) := by omega
      have i6 : (k : Int) + 1 < (d : Int) + 1 := by omega
      have i7 : (k : Int) < (d : Int) + 1 := by omega
      obtain ⟨M1, hM1⟩ : ∃ M, d - (k + 1) + 1 = M := ⟨_, rfl⟩
      obtain ⟨M2, hM2⟩ : ∃ M, d - k + 1 = M := ⟨_, rfl⟩
      rw [hM1] at p1
      rw [hM2] at q1
      have i8 : (k : Int) < (M1 : Int) := by omega
      have i9 : (k : Int) + 1 < (M2 : Int) := by omega
      have i10 : IntKind.i64.wrap ((k : Int) + 1) = (k : Int) + 1 := by rw [IntKind.wrap_i64]; omega
      clear o1 o2 o3 ho hbel bb1 bb2 p5 q5 hw2 hw3 s1 s2 hP hPE hM1 hM2
      go_wp2
      rw [HW2.out, HW3.out]
      go_roundw
      case rel => exact ⟨k + 1, by omega, by rw [← HPE.out], by first | rfl | go_num, O3.out, B3.out⟩
      case measure => simp only [intOf]; omega
    · have HT := Lib.hid (taK_end (m := m) (d := d) (k := k) e (by omega))
      have i4 : ¬ (2 : Int) * (k : Int) + 1 ≤ (d : Int) := by omega
      have O3 := Lib.hid ho
      have B3 := Lib.hid hbel
      clear ho hbel
      go_wp2
      go_ret
      exact ⟨_, rfl, by rw [← HT.out]; exact O3.out, B3.out⟩
set_option maxHeartbeats 4000000 in
set_option maxRecDepth 100000 in
theorem sAdditiveLaw_any (m d : Int) (w : World) :
    Calls Try.prog 7 #[.int .i64 m, .int .i64 d] w fun x w' => ∃ s, x = .returned (.tuple #[.agg #[.int .i64 (addlP m d).1, s], .int .i64 (addlP m d).2.2]) ∧ OwnR w' w.heap.size w'.heap.size s (addlP m d).2.1 ∧ Below w.heap.size w w' := by
  obtain ⟨W, hW, v3, hwb⟩ := var0 w
  have V3 := Lib.hid v3
  have HB := Lib.hid hwb
  have HW := Lib.hid hW
  have HWS : Hid (W.heap.size = w.heap.size + 1) := Lib.hid (by rw [← hW]; simp)
  have HC : Hid (∀ (A : Option Addr) (c0 : Nat) (W0 : World), RI W0 A [] → Calls Try.prog 18 #[.int .i64 m, .int .i64 d, .slice A 0 c0] W0 fun e w' => e = .returned (.bool (kindB m d [])) ∧ W0 = w') := Lib.hid (fun A c0 W0 h => l08Kind_any m d A c0 [] W0 (by simp) h)
  clear v3 hwb hW
  by_cases hk : kindB m d [] = true
  · obtain ⟨h1, h2, -⟩ := kind_iff hk
    obtain ⟨m1, m2⟩ := (isM_iff m).1 h1
    obtain ⟨d1, d2⟩ := (inB_iff _ _ _).1 h2
    obtain ⟨e, he⟩ : ∃ e : Nat, (e : Int) = d := ⟨d.toNat, by omega⟩
    have HA : Hid (addlP m d = (m, Pl.tab m e (Pl.muF 0), 0)) := Lib.hid (by unfold addlP stP; rw [if_pos hk, ← he, show (e : Int).toNat = e by omega])
    rw [HA.out]
    rw [hk] at HC
    have HT := Lib.hid (fun W0 => l08Multiplicative_any m e 0 W0 m1 (by omega) (by omega) (by omega) (by omega))
    have hTl : (Pl.tab m e (Pl.muF 0)).length = e + 1 := Pl.tab_length _ _ _
    obtain ⟨T, hT⟩ : ∃ T, Pl.tab m e (Pl.muF 0) = T := ⟨_, rfl⟩
    rw [hT] at HT hTl ⊢
    subst he
    clear hk h1 h2 hT HA
    go_enter Try.func7, Try.ntmps7
    go_wp2_with fail
    rw [HW.out]
    refine (HC.out _ _ _ (ri_nil _ none)).mono ?_
    rintro x w0 ⟨rfl, hw0⟩
    have hb0 : Below W.heap.size W w0 := by rw [← hw0]; exact Below.refl _ _
    clear hw0
    go_wp2_with fail
    refine (HT.out _).mono ?_
    rintro x w2 ⟨v, rfl, ho, hb2⟩
    obtain ⟨A2, c2, rfl, -⟩ := ho.len
    rw [hTl] at ho ⊢
    go_wp2_with fail
    refine (l03Make_any _ _ _ _ _).mono ?_
    rintro x w5 ⟨rfl, hb5⟩
    have hb := below_step (below_step hb0 hb2) hb5
    have hv := V3.out.keep hb
    obtain ⟨q0, q1, q2, q3⟩ := hv.tells2
    have hz := hb0.size
    have hz2 := V3.out.lt
    obtain ⟨f0, f1, f2, f3⟩ := fin_plane (w := w) hv (ho.keep hb5) (.inl (by omega)) (Nat.le_refl _) hb5.size (below_step HB.out hb) (.int .i64 m) (.slice A2 (e + 1) c2)
    have F2 := Lib.hid (f2.low (lo' := w.heap.size) (by omega))
    have F3 := Lib.hid f3
    clear f2 f3 hv hb hb0 hb2 hb5 ho
    go_wp2
    exact bodyPost_ret (v := .tuple #[.agg #[.int .i64 m, .slice A2 (e + 1) c2], .int .i64 0]) (by simp [results, Try.results7, go_sem, f0, f1]) rfl ⟨_, rfl, F2.out, F3.out⟩
  · have hk' : kindB m d [] = false := Bool.eq_false_iff.2 hk
    have HA : Hid (addlP m d = (0, [], 2)) := Lib.hid (by unfold addlP stP; rw [if_neg hk])
    rw [HA.out]
    rw [hk'] at HC
    clear hk hk' HA
    go_enter Try.func7, Try.ntmps7
    go_wp2_with fail
    rw [HW.out]
    refine (HC.out _ _ _ (ri_nil _ none)).mono ?_
    rintro x w0 ⟨rfl, hw0⟩
    have hb0 : Below W.heap.size W w0 := by rw [← hw0]; exact Below.refl _ _
    clear hw0
    have hv := V3.out.keep (hb0)
    obtain ⟨q0, q1, q2, q3⟩ := hv.tells2
    obtain ⟨f0, f1, f2, f3⟩ := fin_plane (w := w) hv (OwnR.nil _ w.heap.size 0) (.inr (Nat.zero_le _)) (by omega) (Nat.zero_le _) (below_step HB.out (hb0)) (.int .i64 0) (.slice none 0 0)
    have F2 := Lib.hid f2
    have F3 := Lib.hid f3
    clear f2 f3 hv
    go_wp2
    exact bodyPost_ret (v := .tuple #[.agg #[.int .i64 0, .slice none 0 0], .int .i64 (2)]) (by simp [results, Try.results7, go_sem, f0, f1]) rfl ⟨_, rfl, F2.out, F3.out⟩
set_option maxHeartbeats 4000000 in
set_option maxRecDepth 100000 in
theorem sMultiplicativeLaw_any (m d c : Int) (w : World) :
    Calls Try.prog 12 #[.int .i64 m, .int .i64 d, .int .i64 c] w fun x w' => ∃ s, x = .returned (.tuple #[.agg #[.int .i64 (mullP m d c).1, s], .int .i64 (mullP m d c).2.2]) ∧ OwnR w' w.heap.size w'.heap.size s (mullP m d c).2.1 ∧ Below w.heap.size w w' := by
  obtain ⟨W, hW, v3, hwb⟩ := var0 w
  have V3 := Lib.hid v3
  have HB := Lib.hid hwb
  have HW := Lib.hid hW
  have HWS : Hid (W.heap.size = w.heap.size + 1) := Lib.hid (by rw [← hW]; simp)
  have HRL : Hid (RI (W.alloc (.cells #[.int .i64 c] 2)) (some ⟨w.heap.size + 1, 0, none⟩) [c]) := Lib.hid (by rw [← HWS.out]; exact ri_one W c _)
  have HC : Hid (∀ (A : Option Addr) (c0 : Nat) (W0 : World), RI W0 A [c] → Calls Try.prog 18 #[.int .i64 m, .int .i64 d, .slice A 1 c0] W0 fun e w' => e = .returned (.bool (kindB m d [c])) ∧ W0 = w') := Lib.hid (fun A c0 W0 h => l08Kind_any m d A c0 [c] W0 (by simp) h)
  clear v3 hwb hW
  by_cases hk : kindB m d [c] = true
  · obtain ⟨h1, h2, -⟩ := kind_iff hk
    obtain ⟨m1, m2⟩ := (isM_iff m).1 h1
    obtain ⟨d1, d2⟩ := (inB_iff _ _ _).1 h2
    obtain ⟨e, he⟩ : ∃ e : Nat, (e : Int) = d := ⟨d.toNat, by omega⟩
    have HA : Hid (mullP m d c = (m, Pl.tab m e (Pl.muF c), 0)) := Lib.hid (by unfold mullP stP; rw [if_pos hk, ← he, show (e : Int).toNat = e by omega])
    rw [HA.out]
    rw [hk] at HC
    have HT := Lib.hid (fun W0 => l08Multiplicative_any m e c W0 m1 (by omega) (by omega) (kind_one hk).1 (kind_one hk).2)
    have hTl : (Pl.tab m e (Pl.muF c)).length = e + 1 := Pl.tab_length _ _ _
    obtain ⟨T, hT⟩ : ∃ T, Pl.tab m e (Pl.muF c) = T := ⟨_, rfl⟩
    rw [hT] at HT hTl ⊢
    subst he
    clear hk h1 h2 hT HA
    go_enter Try.func12, Try.ntmps12
    go_wp2_with fail
    rw [HW.out]
    refine (HC.out _ _ _ (HRL.out)).mono ?_
    rintro x w0 ⟨rfl, hw0⟩
    have hb0 : Below W.heap.size W w0 := by rw [← hw0]; exact below_one _ _
    clear hw0
    go_wp2_with fail
    refine (HT.out _).mono ?_
    rintro x w2 ⟨v, rfl, ho, hb2⟩
    obtain ⟨A2, c2, rfl, -⟩ := ho.len
    rw [hTl] at ho ⊢
    go_wp2_with fail
    refine (l03Make_any _ _ _ _ _).mono ?_
    rintro x w5 ⟨rfl, hb5⟩
    have hb := below_step (below_step hb0 hb2) hb5
    have hv := V3.out.keep hb
    obtain ⟨q0, q1, q2, q3⟩ := hv.tells2
    have hz := hb0.size
    have hz2 := V3.out.lt
    obtain ⟨f0, f1, f2, f3⟩ := fin_plane (w := w) hv (ho.keep hb5) (.inl (by omega)) (Nat.le_refl _) hb5.size (below_step HB.out hb) (.int .i64 m) (.slice A2 (e + 1) c2)
    have F2 := Lib.hid (f2.low (lo' := w.heap.size) (by omega))
    have F3 := Lib.hid f3
    clear f2 f3 hv hb hb0 hb2 hb5 ho
    go_wp2
    exact bodyPost_ret (v := .tuple #[.agg #[.int .i64 m, .slice A2 (e + 1) c2], .int .i64 0]) (by simp [results, Try.results12, go_sem, f0, f1]) rfl ⟨_, rfl, F2.out, F3.out⟩
  · have hk' : kindB m d [c] = false := Bool.eq_false_iff.2 hk
    have HA : Hid (mullP m d c = (0, [], 2)) := Lib.hid (by unfold mullP stP; rw [if_neg hk])
    rw [HA.out]
    rw [hk'] at HC
    clear hk hk' HA
    go_enter Try.func12, Try.ntmps12
    go_wp2_with fail
    rw [HW.out]
    refine (HC.out _ _ _ (HRL.out)).mono ?_
    rintro x w0 ⟨rfl, hw0⟩
    have hb0 : Below W.heap.size W w0 := by rw [← hw0]; exact below_one _ _
    clear hw0
    have hv := V3.out.keep (hb0)
    obtain ⟨q0, q1, q2, q3⟩ := hv.tells2
    obtain ⟨f0, f1, f2, f3⟩ := fin_plane (w := w) hv (OwnR.nil _ w.heap.size 0) (.inr (Nat.zero_le _)) (by omega) (Nat.zero_le _) (below_step HB.out (hb0)) (.int .i64 0) (.slice none 0 0)
    have F2 := Lib.hid f2
    have F3 := Lib.hid f3
    clear f2 f3 hv
    go_wp2
    exact bodyPost_ret (v := .tuple #[.agg #[.int .i64 0, .slice none 0 0], .int .i64 (2)]) (by simp [results, Try.results12, go_sem, f0, f1]) rfl ⟨_, rfl, F2.out, F3.out⟩
set_option maxHeartbeats 4000000 in
set_option maxRecDepth 100000 in
theorem sTangentLaw_any (m d c : Int) (w : World) :
    Calls Try.prog 14 #[.int .i64 m, .int .i64 d, .int .i64 c] w fun x w' => ∃ s, x = .returned (.tuple #[.agg #[.int .i64 (tanlP m d c).1, s], .int .i64 (tanlP m d c).2.2]) ∧ OwnR w' w.heap.size w'.heap.size s (tanlP m d c).2.1 ∧ Below w.heap.size w w' := by
  obtain ⟨W, hW, v3, hwb⟩ := var0 w
  have V3 := Lib.hid v3
  have HB := Lib.hid hwb
  have HW := Lib.hid hW
  have HWS : Hid (W.heap.size = w.heap.size + 1) := Lib.hid (by rw [← hW]; simp)
  have HRL : Hid (RI (W.alloc (.cells #[.int .i64 c] 2)) (some ⟨w.heap.size + 1, 0, none⟩) [c]) := Lib.hid (by rw [← HWS.out]; exact ri_one W c _)
  have HC : Hid (∀ (A : Option Addr) (c0 : Nat) (W0 : World), RI W0 A [c] → Calls Try.prog 18 #[.int .i64 m, .int .i64 d, .slice A 1 c0] W0 fun e w' => e = .returned (.bool (kindB m d [c])) ∧ W0 = w') := Lib.hid (fun A c0 W0 h => l08Kind_any m d A c0 [c] W0 (by simp) h)
  clear v3 hwb hW
  by_cases hk : kindB m d [c] = true
  · obtain ⟨h1, h2, -⟩ := kind_iff hk
    obtain ⟨m1, m2⟩ := (isM_iff m).1 h1
    obtain ⟨d1, d2⟩ := (inB_iff _ _ _).1 h2
    obtain ⟨e, he⟩ : ∃ e : Nat, (e : Int) = d := ⟨d.toNat, by omega⟩
    have HA : Hid (tanlP m d c = (m, Pl.tab m e (Pl.taF (m - c)), 0)) := Lib.hid (by unfold tanlP stP; rw [if_pos hk, ← he, show (e : Int).toNat = e by omega])
    rw [HA.out]
    rw [hk] at HC
    have HT := Lib.hid (fun W0 => l08Tangent_any m e c W0 m1 m2 (by omega) (by omega) (kind_one hk).1 (kind_one hk).2)
    have hTl : (Pl.tab m e (Pl.taF (m - c))).length = e + 1 := Pl.tab_length _ _ _
    obtain ⟨T, hT⟩ : ∃ T, Pl.tab m e (Pl.taF (m - c)) = T := ⟨_, rfl⟩
    rw [hT] at HT hTl ⊢
    subst he
    clear hk h1 h2 hT HA
    go_enter Try.func14, Try.ntmps14
    go_wp2_with fail
    rw [HW.out]
    refine (HC.out _ _ _ (HRL.out)).mono ?_
    rintro x w0 ⟨rfl, hw0⟩
    have hb0 : Below W.heap.size W w0 := by rw [← hw0]; exact below_one _ _
    clear hw0
    go_wp2_with fail
    refine (HT.out _).mono ?_
    rintro x w2 ⟨v, rfl, ho, hb2⟩
    obtain ⟨A2, c2, rfl, -⟩ := ho.len
    rw [hTl] at ho ⊢
    go_wp2_with fail
    refine (l03Make_any _ _ _ _ _).mono ?_
    rintro x w5 ⟨rfl, hb5⟩
    have hb := below_step (below_step hb0 hb2) hb5
    have hv := V3.out.keep hb
    obtain ⟨q0, q1, q2, q3⟩ := hv.tells2
    have hz := hb0.size
    have hz2 := V3.out.lt
    obtain ⟨f0, f1, f2, f3⟩ := fin_plane (w := w) hv (ho.keep hb5) (.inl (by omega)) (Nat.le_refl _) hb5.size (below_step HB.out hb) (.int .i64 m) (.slice A2 (e + 1) c2)
    have F2 := Lib.hid (f2.low (lo' := w.heap.size) (by omega))
    have F3 := Lib.hid f3
    clear f2 f3 hv hb hb0 hb2 hb5 ho
    go_wp2
    exact bodyPost_ret (v := .tuple #[.agg #[.int .i64 m, .slice A2 (e + 1) c2], .int .i64 0]) (by simp [results, Try.results14, go_sem, f0, f1]) rfl ⟨_, rfl, F2.out, F3.out⟩
  · have hk' : kindB m d [c] = false := Bool.eq_false_iff.2 hk
    have HA : Hid (tanlP m d c = (0, [], 2)) := Lib.hid (by unfold tanlP stP; rw [if_neg hk])
    rw [HA.out]
    rw [hk'] at HC
    clear hk hk' HA
    go_enter Try.func14, Try.ntmps14
    go_wp2_with fail
    rw [HW.out]
    refine (HC.out _ _ _ (HRL.out)).mono ?_
    rintro x w0 ⟨rfl, hw0⟩
    have hb0 : Below W.heap.size W w0 := by rw [← hw0]; exact below_one _ _
    clear hw0
    have hv := V3.out.keep (hb0)
    obtain ⟨q0, q1, q2, q3⟩ := hv.tells2
    obtain ⟨f0, f1, f2, f3⟩ := fin_plane (w := w) hv (OwnR.nil _ w.heap.size 0) (.inr (Nat.zero_le _)) (by omega) (Nat.zero_le _) (below_step HB.out (hb0)) (.int .i64 0) (.slice none 0 0)
    have F2 := Lib.hid f2
    have F3 := Lib.hid f3
    clear f2 f3 hv
    go_wp2
    exact bodyPost_ret (v := .tuple #[.agg #[.int .i64 0, .slice none 0 0], .int .i64 (2)]) (by simp [results, Try.results14, go_sem, f0, f1]) rfl ⟨_, rfl, F2.out, F3.out⟩
end Go.Proofs.Ytilfjhnkjdfcoaa

/- A series among a law's arguments: what its reading tells. -/
namespace Go.Proofs.Ytilfjhnkjdfcoaa
open Go.RowKit Go.WideShapes Go.ChangeShapes Go.ChangeAt

theorem use_it {p q : Prop} (h : p) (k : p → q) : q := k h
theorem Var2.drew {w : World} {g : Nat} {x y : Value} (h : Var2 w g x y) : Var2 w.drew g x y := h
theorem cells_i64 : Try.prog.cellsOf 2 = 1 := by kernel_rfl
theorem cells_i64s : Try.prog.cellsOf 50 = 1 := by kernel_rfl
end Go.Proofs.Ytilfjhnkjdfcoaa

/- A plane among a law's arguments: what its reading tells. -/
namespace Go.Proofs.Ytilfjhnkjdfcoaa
open Go.RowKit Go.WideShapes Go.ChangeShapes Go.ChangeAt

theorem cells_i64ss : Try.prog.cellsOf 22 = 1 := by kernel_rfl
end Go.Proofs.Ytilfjhnkjdfcoaa

