/- Texts of contracts, joined. -/
import Derived.Test.YtlpfifdocgljnaaMgam
import Derived.Test.YtlpfifdocgljnaaMgaj
import Derived.Test.YtlpfifdocgljnaaMgaf
/- Contracts of IntegrateSeries, of the model. -/
namespace Go.Proofs.Ytlpfifdocgljnaa
open Go.RowKit Go.WideShapes Go.ChangeShapes Go.ChangeAt

theorem l01Unit_i (m : Int) (k : Nat) (w : World) (m1 : 2 ≤ m) (m2 : m ≤ 10000) (hk : k ≤ 1000) :
    Calls Try.prog 40 #[.int .i64 m, .int .i64 k] w fun e w' => e = .returned (.bool (gcdI k m == 1)) ∧ w = w' := by
  go_enter Try.func40, Try.ntmps40
  go_wp2_with (go_at_call 73; refine (l01Gcd_any _ _ _ (by omega) (by omega) (by omega) (by omega)).mono ?_; rintro e w' ⟨rfl, rfl⟩)
  go_ret
  exact ⟨rfl, rfl⟩

set_option maxHeartbeats 2000000 in
theorem l02Integers_any (m : Int) (n : Nat) (w : World) (m1 : 2 ≤ m) (m2 : m ≤ 10000) (hn : n ≤ 900) :
    Calls Try.prog 41 #[.int .i64 m, .int .i64 n] w fun e w' => e = .returned (.bool (allU m n)) ∧ w = w' := by
  go_enter Try.func41, Try.ntmps41
  go_wp2
  go_loop [5] (fun s5 => ∃ N k : Nat, N = k + 1 ∧ k ≤ n ∧ s5 = .int .i64 N ∧ allU m k = true) (fun s5 => n + 2 - (intOf s5).toNat)
  case atStart => exact ⟨1, 0, rfl, Nat.zero_le _, rfl, rfl⟩
  case round =>
    obtain ⟨N, k, hN, hk, rfl, hall⟩ := hrel
    have HALL := Lib.hid hall
    clear hall
    by_cases hlt : N ≤ n
    · have hlt2 : (N : Int) ≤ (n : Int) := by omega
      have hNk : (N : Int) = (k : Int) + 1 := by omega
      have hu := fun W0 => l01Unit_i m N W0 m1 m2 (by omega)
      rw [hNk] at hu
      by_cases hg : gcdI ((k : Int) + 1) m = 1
      · rw [show (gcdI ((k : Int) + 1) m == 1) = true by rw [hg]; rfl, ← hNk] at hu
        have HU := Lib.hid hu
        have HA2 := Lib.hid (show allU m N = true by rw [hN, allU_succ, HALL.out, hg]; rfl)
        clear hu hg hN hNk
        go_wp2_with (go_at_call 40; refine (HU.out _).mono ?_; rintro e w' ⟨rfl, rfl⟩)
        go_round
        case rel => exact ⟨N + 1, N, rfl, hlt, by first | rfl | go_num, HA2.out⟩
        case measure => simp only [intOf]; omega
      · rw [show (gcdI ((k : Int) + 1) m == 1) = false by simpa using hg, ← hNk] at hu
        have HU := Lib.hid hu
        have HNO := Lib.hid (allU_not (m := m) (n := n) (k := k) (by omega) hg)
        clear hu hg hN hNk
        go_wp2_with (go_at_call 40; refine (HU.out _).mono ?_; rintro e w' ⟨rfl, rfl⟩)
        go_ret
        exact ⟨ret_bool HNO.out.symm, rfl⟩
    · have hlt2 : ¬ (N : Int) ≤ (n : Int) := by omega
      obtain rfl : k = n := by omega
      clear hN hlt
      go_wp2
      go_ret
      exact ⟨ret_bool HALL.out.symm, rfl⟩

set_option maxHeartbeats 4000000 in
set_option maxRecDepth 100000 in
theorem l02Integrate_any (m : Int) (d : Nat) (A : Option Addr) (c : Nat) (l : List Int) (w : World) (hs : SerOk m d l) (hr : RI w A l) (hall : allU m l.length = true) :
    Calls Try.prog 44 #[.int .i64 m, .slice A l.length c] w fun e w' => ∃ v, e = .returned v ∧ OwnI w' w.heap.size v (insL m l) ∧ Below w.heap.size w w' := by
  have HS := Lib.hid hs
  have HR := Lib.hid hr
  have m1 := hs.m1
  have m2 := hs.m2
  have hd := hs.d2
  have hm0 : ¬ m = 0 := by omega
  have hlm := allU_lt hall m1
  have hll : l.length ≤ 11 := by have := hs.len; omega
  have h1 : (insL m l).take 1 = [0] := by
    have := Ser.cut_take_succ m l.length (insF m l) 0 (by omega)
    unfold insL
    rw [this]
    simp [insF]
  have HO1 := Lib.hid (show OwnI (w.alloc (.cells #[.int .i64 0] 2)) w.heap.size (.slice (some ⟨w.heap.size, 0, none⟩) 1 1) ((insL m l).take 1) by rw [h1]; exact OwnI.one w 0)
  clear hs hr hall h1
  go_enter Try.func44, Try.ntmps44
  go_wp2
  go_loopw [5, 6] (fun r i wr => ∃ k : Nat, k ≤ l.length ∧ i = .int .i64 k ∧ OwnI wr w.heap.size r ((insL m l).take (k + 1)) ∧ Below w.heap.size w wr) (fun _ i _ => l.length - (intOf i).toNat)
  case atStart => exact ⟨0, Nat.zero_le _, rfl, HO1.out, below_one _ _⟩
  case round =>
    obtain ⟨k, hk, rfl, hown, hbel⟩ := hrel
    have HB := Lib.hid hbel
    have HO := Lib.hid hown
    have hsz := hbel.size
    clear hown hbel HO1
    by_cases hlt : k < l.length
    · obtain ⟨b, off, rfl, hb, hc⟩ := HR.out.at k hlt
      have c1 := (HB.out.cell (p := ⟨b, off + k, none⟩) hb).trans hc
      obtain ⟨r1, r2⟩ := HS.out.red k
      have hst : (insL m l).take (k + 1 + 1) = (insL m l).take (k + 1) ++ [Ser.co l k * inv1 m (k + 1) % m] := by
        have := Ser.cut_take_succ m l.length (insF m l) (k + 1) (by omega)
        unfold insL
        rw [this]
        congr 2
      have hi : inv1 m (k + 1) = (egI m ((k : Int) + 1)).2 := by
        unfold inv1
        rw [show ((k + 1 : Nat) : Int) = (k : Int) + 1 by omega, Int.emod_eq_of_lt (by omega) (by omega)]
      obtain ⟨b2, b3⟩ := inv1_bd m1 (k + 1)
      rw [hi] at hst b2 b3
      obtain ⟨X, hX⟩ : ∃ X, Ser.co l k = X := ⟨_, rfl⟩
      rw [hX] at c1 r1 r2 hst hc
      obtain ⟨Y, hY⟩ : ∃ Y, (egI m ((k : Int) + 1)).2 = Y := ⟨_, rfl⟩
      have HI := Lib.hid (fun W0 => by have := l01Inv_any m ((k : Int) + 1) W0 (by omega) (by omega) m2; rw [hY] at this; exact this)
      rw [hY] at hst b2 b3
      have p1 := Int.mul_nonneg r1 b2
      have p2 := (mul_bd (x := X) (y := Y) r1 (by omega) (by omega) (by omega)).2
      have w1 : IntKind.i64.wrap (X * Y) = X * Y := by rw [IntKind.wrap_i64]; omega
      have w2 : IntKind.i64.wrap ((k : Int) + 1) = (k : Int) + 1 := by rw [IntKind.wrap_i64]; omega
      have j0 : (0 : Int) ≤ (k : Int) := by omega
      have j1 : (k : Int) < (l.length : Int) := by omega
      have HQ := Lib.hid (show (X * Y).tmod m = X * Y % m from Int.tmod_eq_emod_of_nonneg p1)
      have HLK := Lib.hid (take_cut_len m l.length (insF m l) (k + 1))
      have HST := Lib.hid hst
      have C1 := Lib.hid hc
      clear hX hY hst hc hi
      go_wp2
      go_region_held3 (fun w' => w'.cell? ⟨b, off + k, none⟩ = some (.int .i64 X) ∧ ¬ m = 0) (first | exact ⟨c1, hm0⟩ | exact (by assumption) | exact ⟨((((HB.out.alloc hsz _).drew).trans hpb).cell hb).trans C1.out, hm0⟩ | go_keep) (first
        | (go_at_call 75; refine (HI.out _).mono ?_; rintro e w' ⟨rfl, rfl⟩)
        | (refine step_push _ _ _ (by rfl) (by rfl) Try.underlying25 w.heap.size _ _ (by rfl) ((HO.out.alloc _).drew) wr.heap.size (X * Y % m) (by rfl) (by simp; exact HQ.out) (by have := HLK.out; unfold insL; omega) (by simp; omega) ?_; intro v' w1 ho1 hpb))
      all_goals
        have hb1 := (((HB.out.alloc hsz _).drew).trans hpb)
        have HB1 := Lib.hid hb1
        have HO2 := Lib.hid ho1
        clear hb1 ho1 hpb
        go_wp2
        go_roundw
        case rel => exact ⟨k + 1, by omega, by go_num, by rw [HST.out]; exact HO2.out, HB1.out⟩
        case measure => simp only [intOf]; omega
    · obtain rfl : k = l.length := by omega
      have ho := HO.out
      rw [List.take_of_length_le (by unfold insL; rw [Ser.cut_length]; exact Nat.le_refl _)] at ho
      have HF := Lib.hid ho
      clear ho
      go_wp2
      go_ret
      exact ⟨_, rfl, HF.out, HB.out⟩

end Go.Proofs.Ytlpfifdocgljnaa

/- Differentials and logarithms of laws: plain facts. -/
namespace Go.Proofs.Ytlpfifdocgljnaa
open Go.RowKit Go.WideShapes Go.ChangeShapes Go.ChangeAt

theorem gcd_one (m : Int) : gcdI 1 m = 1 := by unfold gcdI; simp
theorem eg_one {m : Int} (hm : 2 ≤ m) : (egI m 1).2 = 1 := by
  have h := unit_mul (m := m) (a := 1) (by omega) (by omega) (gcd_one m)
  obtain ⟨-, -, u1, u2⟩ := eg_fact m 1 (by omega) (by omega)
  rw [Int.one_mul, Int.emod_eq_of_lt u1 u2, Int.emod_eq_of_lt (by omega) (by omega)] at h
  exact h
/-- the coefficients of the differential -/
def dffL (m : Int) (t : List (List Int)) : List Int := Ser.invC m 1 (Ser.co (Pl.rw' t 1)) (t.length - 2)
theorem dffL_length (m : Int) (t : List (List Int)) : (dffL m t).length = t.length - 2 + 1 := Ser.invC_length _ _ _ _
theorem dffL_red {m : Int} (hm : 2 ≤ m) (t : List (List Int)) : Ser.Red m (dffL m t) := Ser.invC_red (by omega) (by omega) (by omega) _ _
theorem dffL_zero (m : Int) (t : List (List Int)) : Ser.co (dffL m t) 0 = 1 := by
  have := Ser.invC_pre m 1 (Ser.co (Pl.rw' t 1)) 0 (t.length - 2) 0 (Nat.le_refl _)
  rw [Nat.zero_add] at this
  unfold dffL
  rw [this]
  rfl
theorem Pl.Ok.ser1 {m : Int} {d : Nat} {t : List (List Int)} (hs : Pl.Ok m d t) (hd : 2 ≤ d) : SerOk m (d - 1) (Pl.rw' t 1) :=
  ⟨hs.m1, hs.m2, by omega, by have := hs.d2; omega, hs.row 1 (by omega), hs.red 1⟩
theorem dffL_ok {m : Int} {d : Nat} {t : List (List Int)} (hs : Pl.Ok m d t) (hd : 2 ≤ d) : SerOk m (d - 1) (dffL m t) :=
  ⟨hs.m1, hs.m2, by omega, by have := hs.d2; omega, by rw [dffL_length]; have := hs.len; omega, dffL_red hs.m1 t⟩
theorem inv1_one {m : Int} (hm : 2 ≤ m) : inv1 m 1 = 1 := by
  unfold inv1
  rw [show ((1 : Nat) : Int) % m = 1 from Int.emod_eq_of_lt (by omega) (by omega)]
  exact eg_one hm
/-- the coefficients of the logarithm -/
def logL (m : Int) (t : List (List Int)) : List Int := insL m (dffL m t)
theorem logL_length {m : Int} {d : Nat} {t : List (List Int)} (hs : Pl.Ok m d t) : (logL m t).length = d + 1 := by
  unfold logL insL
  rw [Ser.cut_length, dffL_length]
  have := hs.len
  have := hs.d1
  omega
theorem logL_ok {m : Int} {d : Nat} {t : List (List Int)} (hs : Pl.Ok m d t) : SerOk m d (logL m t) :=
  ⟨hs.m1, hs.m2, hs.d1, hs.d2, logL_length hs, Ser.cut_red (by have := hs.m1; omega) _ _⟩
theorem logL_zero (m : Int) (t : List (List Int)) : Ser.co (logL m t) 0 = 0 := by
  unfold logL insL
  rw [Ser.co_cut (Nat.zero_le _)]
  simp [insF]
theorem logL_one {m : Int} (hm : 2 ≤ m) (t : List (List Int)) : Ser.co (logL m t) 1 = 1 := by
  unfold logL insL
  rw [Ser.co_cut (by rw [dffL_length]; omega)]
  unfold insF
  rw [if_neg (by omega), Nat.sub_self, dffL_zero, inv1_one hm, Int.mul_one, Int.emod_eq_of_lt (by omega) (by omega)]
theorem logL_lin {m : Int} {t : List (List Int)} (hm : 2 ≤ m) (h : t.length = 2) : logL m t = Pl.lin m 1 1 := by
  have hl : (logL m t).length = 2 := by unfold logL insL; rw [Ser.cut_length, dffL_length]; omega
  refine Ser.list_ext (by rw [hl]; exact (Ser.cut_length _ _ _).symm) (fun i hi => ?_)
  rw [hl] at hi
  unfold Pl.lin
  rw [Ser.co_cut (by omega)]
  match i, hi with
  | 0, _ => rw [logL_zero]; simp [Ser.mon]
  | 1, _ => rw [logL_one hm]; simp [Ser.mon]; exact (Int.emod_eq_of_lt (by omega) (by omega)).symm
theorem allU_one (m : Int) : allU m 1 = true := by
  unfold allU
  simp [List.range_succ, gcd_one]
/-- the model's inverse of the first row of a law is that with the first number 1 -/
theorem row1_one {m : Int} {d : Nat} {t : List (List Int)} (hs : Pl.Ok m d t) (hf : Pl.fau m d (Pl.pc t) = none) : Ser.co (Pl.rw' t 1) 0 = 1 :=
  (Pl.norm_law hf hs).x 1 hs.d1

/-- the models of DifferentialOf, LogarithmOf, ExponentialOf -/
def difM (m : Int) (t : List (List Int)) : Int × List Int × Int :=
  if isL m t = true then (if t.length = 2 then (0, [], 5) else (m, dffL m t, 0)) else (0, [], 1)
def logM (m : Int) (t : List (List Int)) : Int × List Int × Int :=
  if isL m t = true then (if allU m (t.length - 1) = true then (m, logL m t, 0) else (0, [], 5)) else (0, [], 1)
def exqL (m : Int) (t : List (List Int)) : List Int := Ser.revC m 1 (Ser.co (logL m t)) (t.length - 2)
def expM (m : Int) (t : List (List Int)) : Int × List Int × Int :=
  if isL m t = true then (if allU m (t.length - 1) = true then (m, exqL m t, 0) else (0, [], 5)) else (0, [], 1)
theorem difM_len (m : Int) (t : List (List Int)) : (difM m t).2.1.length ≤ 1048576 := by
  unfold difM
  by_cases h : isL m t = true
  · rw [if_pos h]
    obtain ⟨-, d, e, ok, -⟩ := isL_of h
    have := ok.d2
    by_cases h2 : t.length = 2
    · rw [if_pos h2]; exact Nat.zero_le _
    · rw [if_neg h2]; dsimp only; rw [dffL_length]; omega
  · rw [if_neg h]; exact Nat.zero_le _
theorem logM_len (m : Int) (t : List (List Int)) : (logM m t).2.1.length ≤ 1048576 := by
  unfold logM
  by_cases h : isL m t = true
  · rw [if_pos h]
    obtain ⟨-, d, e, ok, -⟩ := isL_of h
    have := ok.d2
    by_cases h2 : allU m (t.length - 1) = true
    · rw [if_pos h2]; dsimp only; rw [logL_length ok]; omega
    · rw [if_neg h2]; exact Nat.zero_le _
  · rw [if_neg h]; exact Nat.zero_le _
theorem exqL_length {m : Int} {d : Nat} {t : List (List Int)} (hs : Pl.Ok m d t) : (exqL m t).length = d + 1 := by
  unfold exqL
  rw [Ser.revC_length]
  have := hs.len
  have := hs.d1
  omega
theorem exqL_ok {m : Int} {d : Nat} {t : List (List Int)} (hs : Pl.Ok m d t) : SerOk m d (exqL m t) :=
  ⟨hs.m1, hs.m2, hs.d1, hs.d2, exqL_length hs, Ser.revC_red (by have := hs.m1; omega) (by omega) (by have := hs.m1; omega) _ _⟩
theorem expM_len (m : Int) (t : List (List Int)) : (expM m t).2.1.length ≤ 1048576 := by
  unfold expM
  by_cases h : isL m t = true
  · rw [if_pos h]
    obtain ⟨-, d, e, ok, -⟩ := isL_of h
    have := ok.d2
    by_cases h2 : allU m (t.length - 1) = true
    · rw [if_pos h2]; dsimp only; rw [exqL_length ok]; omega
    · rw [if_neg h2]; exact Nat.zero_le _
  · rw [if_neg h]; exact Nat.zero_le _
/-- the program's reversion of a logarithm -/
theorem exq_lag {m : Int} {d : Nat} {t : List (List Int)} (hs : Pl.Ok m d t) : (Ser.lagG m 1 (Ser.co (logL m t)) d d).1 = exqL m t := by
  have h := rev_same (logL_ok hs) (logL_zero m t) (by rw [logL_one hs.m1]; exact gcd_one m)
  rw [logL_one hs.m1, eg_one hs.m1] at h
  rw [h]
  unfold exqL
  rw [hs.len]
  rfl
end Go.Proofs.Ytlpfifdocgljnaa

/- Contracts of DifferentialOf, of the program and of the model. -/
namespace Go.Proofs.Ytlpfifdocgljnaa
open Go.RowKit Go.WideShapes Go.ChangeShapes Go.ChangeAt

theorem field_degK (a b : Value) (W : World) : (Instr.field 57 (.agg #[a, b]) 1).run Try.prog W = .ok b W := by kernel_rfl
end Go.Proofs.Ytlpfifdocgljnaa

/- Contracts of the logarithm of a law and its passages, of the program. -/
namespace Go.Proofs.Ytlpfifdocgljnaa
open Go.RowKit Go.WideShapes Go.ChangeShapes Go.ChangeAt

theorem SerOk.isS {m : Int} {d : Nat} {l : List Int} (h : SerOk m d l) : isS m l = true := by
  have h1 := h.len
  have h2 := h.d1
  have h3 := h.d2
  rw [isS_spec, (isM_iff m).2 ⟨h.m1, h.m2⟩, inB_yes (by omega) (by omega)]
  simp only [Bool.true_and]
  unfold allIn
  rw [List.all_eq_true]
  intro x hx
  obtain ⟨i, hi, rfl⟩ := List.getElem_of_mem hx
  have hr := h.red i
  unfold Ser.co at hr
  rw [List.getElem?_eq_getElem hi] at hr
  simp only [Option.getD_some] at hr
  exact inB_yes hr.1 (by omega)
/-- what the program's logarithm returns -/
def lgM (m : Int) (t : List (List Int)) : Int × List Int × Int := if allU m (t.length - 1) = true then (m, logL m t, 0) else (0, [], 5)
theorem ins_lg {m : Int} {d : Nat} {t : List (List Int)} (hs : Pl.Ok m d t) (hd : 2 ≤ d) : insM m (dffL m t) = lgM m t := by
  have h1 := dffL_length m t
  have h2 := hs.len
  have h3 := hs.d2
  have h4 : (dffL m t).length = t.length - 1 := by omega
  unfold insM lgM
  rw [if_pos (dffL_ok hs hd).isS, h4]
  by_cases h : allU m (t.length - 1) = true
  · rw [if_pos h, if_pos ⟨by omega, h⟩]; rfl
  · rw [if_neg h, if_neg (fun e => h e.2)]
theorem lg_one {m : Int} {t : List (List Int)} (hm : 2 ≤ m) (h : t.length = 2) : lgM m t = (m, Pl.lin m 1 1, 0) := by
  unfold lgM
  rw [h, if_pos (allU_one m), logL_lin hm h]
theorem logM_lg {m : Int} {t : List (List Int)} (h : isL m t = true) : logM m t = lgM m t := by unfold logM; rw [if_pos h]; rfl
theorem pro_serQ (T1 T2 : TypeId) (w : World) (m : Int) (A : Option Addr) (n c : Nat) : ∃ W, (w.alloc (.cells #[.int .i64 m, .slice A n c] T1)).alloc (.cells #[.int .i64 0, .slice none 0 0] T2) = W ∧
    Box W w.heap.size m A n c ∧ VarC T2 W (w.heap.size + 1) #[.int .i64 0, .slice none 0 0] ∧ Below w.heap.size w W := by
  refine ⟨_, rfl, (Box.newT _ _ _ _ _ _).keep (below_one _ _), ?_, below_alloc _ (below_one _ _)⟩
  have := VarC.new T2 (w.alloc (.cells #[.int .i64 m, .slice A n c] T1)) #[.int .i64 0, .slice none 0 0]
  simpa using this
theorem lcurve_any (m : Int) (A : Option Addr) (n c : Nat) (w : World) :
    Calls Try.prog 145 #[.agg #[.int .i64 m, .slice A n c]] w fun e w' => e = .returned (.agg #[.int .i64 m, .slice A n c]) ∧ Below w.heap.size w w' := by
  go_enter Try.func145, Try.ntmps145
  go_wp2
  exact bodyPost_ret (v := .agg #[.int .i64 m, .slice A n c]) (by simp [results, Try.results145, go_sem]) rfl ⟨rfl, below_alloc _ (below_one _ _)⟩
theorem ecurve_any (m : Int) (A : Option Addr) (n c : Nat) (w : World) :
    Calls Try.prog 146 #[.agg #[.int .i64 m, .slice A n c]] w fun e w' => e = .returned (.agg #[.int .i64 m, .slice A n c]) ∧ Below w.heap.size w w' := by
  go_enter Try.func146, Try.ntmps146
  go_wp2
  exact bodyPost_ret (v := .agg #[.int .i64 m, .slice A n c]) (by simp [results, Try.results146, go_sem]) rfl ⟨rfl, below_alloc _ (below_one _ _)⟩
end Go.Proofs.Ytlpfifdocgljnaa

