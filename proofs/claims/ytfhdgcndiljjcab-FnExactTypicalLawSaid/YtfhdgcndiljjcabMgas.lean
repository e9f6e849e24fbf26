/- Texts of contracts, joined. -/
import Derived.Test.YtfhdgcndiljjcabMgaq
import Derived.Test.YtfhdgcndiljjcabMgar
import Derived.Test.YtfhdgcndiljjcabMgai
/- Contracts of ReverseSeries, of the program and of the model. -/
namespace Go.Proofs.Ytfhdgcndiljjcab
open Go.RowKit Go.WideShapes Go.ChangeShapes Go.ChangeAt

def rvsM (m : Int) (l : List Int) : Int × List Int × Int :=
  if isS m l = true then (if Ser.co l 0 = 0 ∧ gcdI (Ser.co l 1) m = 1 then (m, Ser.revC m (egI m (Ser.co l 1)).2 (Ser.co l) (l.length - 2), 0) else (0, [], 5)) else (0, [], 1)
theorem rvsM_len (m : Int) (l : List Int) : (rvsM m l).2.1.length ≤ 1048576 := by
  unfold rvsM
  split
  · rename_i h
    obtain ⟨d, e, s⟩ := serOk_of h
    have := s.d2
    split
    · dsimp only; rw [Ser.revC_length]; omega
    · simp
  · simp
theorem unit_mul {m a : Int} (h0 : 0 ≤ a) (ha : a < m) (hg : gcdI a m = 1) : (a * (egI m a).2) % m = 1 % m := by
  obtain ⟨-, hd, -, -⟩ := eg_fact m a h0 ha
  rw [hg] at hd
  exact (Ser.modEq _ _ _).2 hd

/-- the model's list while the reversion is made -/
def rvL (m u : Int) (f : Nat → Int) (d n : Nat) : List Int := Ser.revC m u f n ++ List.replicate (d - 1 - n) 0
theorem rvL_len (m u : Int) (f : Nat → Int) (d n : Nat) (h : n + 1 ≤ d) : (rvL m u f d n).length = d + 1 := by
  unfold rvL; rw [List.length_append, Ser.revC_length, List.length_replicate]; omega
theorem rvL_zero (m u : Int) (f : Nat → Int) (d : Nat) (h : 1 ≤ d) : (List.replicate (d + 1) (0 : Int)).set 1 u = rvL m u f d 0 := by
  obtain ⟨e, rfl⟩ : ∃ e, d = e + 1 := ⟨d - 1, by omega⟩
  unfold rvL Ser.revC
  rw [List.replicate_succ, List.replicate_succ, List.set_cons_succ, List.set_cons_zero]
  rfl
theorem rvL_step (m u : Int) (f : Nat → Int) (d n : Nat) (h : n + 2 ≤ d) : (rvL m u f d n).set (n + 2) ((m - Ser.comp f (Ser.co (rvL m u f d n)) (n + 2) % m) * u % m) = rvL m u f d (n + 1) := by
  have e : Ser.co (rvL m u f d n) = Ser.co (Ser.revC m u f n) := by unfold rvL; rw [Ser.co_pad]
  rw [e]
  unfold rvL
  rw [List.set_append_right _ _ (by rw [Ser.revC_length]; omega), Ser.revC_length, Nat.sub_self, show d - 1 - n = (d - 1 - (n + 1)) + 1 by omega, List.replicate_succ, List.set_cons_zero, Ser.revC, List.append_assoc]
  rfl
theorem rvL_curve (m u : Int) (f : Nat → Int) (d n : Nat) : Ser.co (rvL m u f d n) 0 = 0 := by
  unfold rvL; rw [Ser.co_pad]; exact Ser.revC_curve m u f n
theorem rvL_red {m u : Int} (hm : 0 < m) (h1 : 0 ≤ u) (h2 : u < m) (f : Nat → Int) (d n : Nat) : Ser.Red m (rvL m u f d n) := by
  intro i; unfold rvL; rw [Ser.co_pad]; exact Ser.revC_red hm h1 h2 f n i
theorem rvL_all (m u : Int) (f : Nat → Int) (n : Nat) : rvL m u f (n + 1) n = Ser.revC m u f n := by unfold rvL; simp

theorem isC_is {m : Int} {l : List Int} (h : isC m l = true) : isS m l = true ∧ Ser.co l 0 = 0 := by
  unfold isC at h
  rw [Bool.and_eq_true] at h
  exact ⟨h.1, by simpa [Ser.co] using h.2⟩
theorem rev_same {m : Int} {d : Nat} {l : List Int} (hs : SerOk m d l) (hz : Ser.co l 0 = 0) (hg : gcdI (Ser.co l 1) m = 1) : (Ser.lagG m (egI m (Ser.co l 1)).2 (Ser.co l) d d).1 = Ser.revC m (egI m (Ser.co l 1)).2 (Ser.co l) (d - 1) := by
  obtain ⟨r1, r2⟩ := hs.red 1
  obtain ⟨-, -, u1, u2⟩ := eg_fact m _ r1 r2
  have hd1 := hs.d1
  have hm := hs.m1
  obtain ⟨n, rfl⟩ : ∃ n, d = n + 1 := ⟨d - 1, by omega⟩
  rw [Nat.add_sub_cancel]
  exact Ser.lagG_revC (by omega) u1 u2 hz (unit_mul r1 r2 hg) n

end Go.Proofs.Ytfhdgcndiljjcab

/- Contracts of IntegrateSeries, of the program. -/
namespace Go.Proofs.Ytfhdgcndiljjcab
open Go.RowKit Go.WideShapes Go.ChangeShapes Go.ChangeAt

/-- the numbers 1 to n are units -/
def allU (m : Int) (n : Nat) : Bool := (List.range n).all fun i => gcdI ((i : Int) + 1) m == 1
theorem allU_succ (m : Int) (n : Nat) : allU m (n + 1) = (allU m n && (gcdI ((n : Int) + 1) m == 1)) := by
  unfold allU; rw [List.range_succ, List.all_append]; simp
theorem allU_le {m : Int} {n k : Nat} (h : allU m n = true) (hk : k ≤ n) : allU m k = true := by
  unfold allU at h ⊢
  rw [List.all_eq_true] at h ⊢
  intro i hi
  exact h i (List.mem_range.2 (Nat.lt_of_lt_of_le (List.mem_range.1 hi) hk))
theorem allU_at {m : Int} {n k : Nat} (h : allU m n = true) (hk : k < n) : gcdI ((k : Int) + 1) m = 1 := by
  unfold allU at h
  rw [List.all_eq_true] at h
  simpa using h k (List.mem_range.2 hk)
theorem allU_not {m : Int} {n k : Nat} (hk : k < n) (h : ¬ gcdI ((k : Int) + 1) m = 1) : allU m n = false := by
  rw [← Bool.not_eq_true]
  exact fun e => h (allU_at e hk)
theorem allU_lt {m : Int} {n : Nat} (h : allU m n = true) (hm : 2 ≤ m) : (n : Int) < m := by
  by_cases hn : (n : Int) < m
  · exact hn
  · obtain ⟨k, hk⟩ : ∃ k : Nat, m = (k : Int) + 1 := ⟨(m - 1).toNat, by omega⟩
    have := allU_at h (k := k) (by omega)
    rw [← hk] at this
    unfold gcdI at this
    rw [Nat.gcd_self] at this
    omega
theorem gcdI_mod (i m : Int) (hi : 0 ≤ i) (hm : 0 < m) : gcdI (i % m) m = gcdI i m := by
  obtain ⟨a, rfl⟩ := Int.eq_ofNat_of_zero_le hi
  obtain ⟨b, rfl⟩ := Int.eq_ofNat_of_zero_le (show 0 ≤ m by omega)
  unfold gcdI
  rw [emod_nat, Int.natAbs_natCast, Int.natAbs_natCast, Int.natAbs_natCast]
  congr 1
  rw [← Nat.gcd_rec, Nat.gcd_comm]

def inv1 (m : Int) (i : Nat) : Int := (egI m ((i : Int) % m)).2
/-- the list of inverses, made up to k -/
def ivP (m : Int) (n k : Nat) : List Int := (List.range (n + 1)).map fun i => if 1 ≤ i ∧ i ≤ k then inv1 m i else 0
theorem ivP_len (m : Int) (n k : Nat) : (ivP m n k).length = n + 1 := by simp [ivP]
theorem ivP_at (m : Int) (n k i : Nat) (h : i ≤ n) : Ser.co (ivP m n k) i = if 1 ≤ i ∧ i ≤ k then inv1 m i else 0 := by
  unfold Ser.co ivP
  rw [List.getElem?_map, List.getElem?_range (by omega)]; rfl
theorem ivP_zero (m : Int) (n : Nat) : ivP m n 0 = List.replicate (n + 1) 0 := by
  refine Ser.list_ext (by simp [ivP]) (fun i hi => ?_)
  rw [ivP_len] at hi
  rw [ivP_at _ _ _ _ (by omega), if_neg (by omega), Ser.co_zeros]
theorem ivP_step (m : Int) (n k : Nat) (h : k + 1 ≤ n) : (ivP m n k).set (k + 1) (inv1 m (k + 1)) = ivP m n (k + 1) := by
  refine Ser.list_ext (by rw [List.length_set, ivP_len, ivP_len]) (fun i hi => ?_)
  rw [List.length_set, ivP_len] at hi
  rw [Ser.co_set (by rw [ivP_len]; omega), ivP_at _ _ _ _ (by omega), ivP_at _ _ _ _ (by omega)]
  by_cases e : i = k + 1
  · rw [if_pos e, if_pos (by omega), e]
  · rw [if_neg e]
    by_cases c : 1 ≤ i ∧ i ≤ k
    · rw [if_pos c, if_pos (by omega)]
    · rw [if_neg c, if_neg (by omega)]
theorem inv1_bd {m : Int} (hm : 2 ≤ m) (i : Nat) : 0 ≤ inv1 m i ∧ inv1 m i < m := by
  obtain ⟨-, -, u1, u2⟩ := eg_fact m ((i : Int) % m) (Int.emod_nonneg _ (by omega)) (Int.emod_lt_of_pos _ (by omega))
  exact ⟨u1, u2⟩
def insF (m : Int) (l : List Int) (n : Nat) : Int := if n = 0 then 0 else Ser.co l (n - 1) * inv1 m n
def insL (m : Int) (l : List Int) : List Int := Ser.cut m l.length (insF m l)
def insM (m : Int) (l : List Int) : Int × List Int × Int :=
  if isS m l = true then (if l.length ≤ 10 ∧ allU m l.length = true then (m, insL m l, 0) else (0, [], 5)) else (0, [], 1)
theorem insM_len (m : Int) (l : List Int) : (insM m l).2.1.length ≤ 1048576 := by
  unfold insM
  split
  · split
    · rename_i h
      dsimp only; unfold insL; rw [Ser.cut_length]; omega
    · simp
  · simp
/-- a block of one slice -/
def Cls (w : World) (g : Nat) (x : Value) : Prop := w.cell? ⟨g, 0, none⟩ = some x ∧ g < w.heap.size
theorem Cls.new (w : World) (x : Value) (t : TypeId) : Cls (w.alloc (.cells #[x] t)) w.heap.size x := by
  refine ⟨?_, by simp⟩
  rw [World.cell?_alloc_at _ _ _ _ rfl]; rfl
theorem Cls.keep {w w' : World} {g : Nat} {x : Value} (h : Cls w g x) (hb : Below w.heap.size w w') : Cls w' g x :=
  ⟨(hb.cell (p := ⟨g, 0, none⟩) h.2).trans h.1, Nat.lt_of_lt_of_le h.2 hb.size⟩

theorem insF_bd {m : Int} {d : Nat} {l : List Int} (hs : SerOk m d l) (n : Nat) : 0 ≤ insF m l n ∧ insF m l n ≤ 100000000 := by
  unfold insF
  split
  · omega
  · have b1 := hs.red (n - 1)
    have b2 := inv1_bd hs.m1 n
    have := hs.m2
    exact ⟨Int.mul_nonneg b1.1 b2.1, (mul_bd b1.1 (by omega) (by omega) (by omega)).2⟩

end Go.Proofs.Ytfhdgcndiljjcab

/- Contracts of the model's AddSeries. -/
namespace Go.Proofs.Ytfhdgcndiljjcab
open Go.RowKit Go.WideShapes Go.ChangeShapes Go.ChangeAt

theorem wrap_rem {x m : Int} (h1 : 0 ≤ x) (h2 : x ≤ 1000000000000000) : (IntKind.i64.wrap x).tmod m = x % m := by
  have : IntKind.i64.wrap x = x := by rw [IntKind.wrap_i64]; omega
  rw [this, Int.tmod_eq_emod_of_nonneg h1]

set_option maxHeartbeats 2000000 in
set_option maxRecDepth 100000 in
theorem l02Add_any (m : Int) (d : Nat) (A : Option Addr) (c : Nat) (l : List Int) (A' : Option Addr) (c' : Nat) (l' : List Int) (w : World) (hs : SerOk m d l) (hs' : SerOk m d l') (hr : RI w A l) (hr' : RI w A' l') :
    Calls Try.prog 69 #[.int .i64 m, .slice A l.length c, .slice A' l'.length c'] w fun e w' => ∃ v, e = .returned v ∧ OwnI w' w.heap.size v (addL m d l l') ∧ Below w.heap.size w w' := by
  have HS := Lib.hid hs
  have HS' := Lib.hid hs'
  have HR := Lib.hid hr
  have HR' := Lib.hid hr'
  have hm1 := hs.m1
  have hm2 := hs.m2
  have hd := hs.d2
  have hm0 : ¬ m = 0 := by omega
  have hll : l.length ≤ 11 := by have := hs.len; omega
  have hll' : l'.length ≤ 11 := by have := hs'.len; omega
  have E1 := Lib.hid hs.len
  have E2 := Lib.hid hs'.len
  clear hs hs' hr hr'
  go_enter Try.func69, Try.ntmps69
  go_wp2
  go_loopw [7, 8] (fun r i wr => ∃ k : Nat, k ≤ l.length ∧ i = .int .i64 k ∧ OwnI wr w.heap.size r ((addL m d l l').take k) ∧ Below w.heap.size w wr) (fun _ i _ => l.length - (intOf i).toNat)
  case atStart => exact ⟨0, Nat.zero_le _, rfl, OwnI.empty _, below_one _ _⟩
  case round =>
    obtain ⟨k, hk, rfl, hown, hbel⟩ := hrel
    have HB := Lib.hid hbel
    have HO := Lib.hid hown
    have hsz := hbel.size
    clear hown hbel
    by_cases hlt : k < l.length
    · obtain ⟨b, off, rfl, hb, hc⟩ := HR.out.at k hlt
      obtain ⟨b', off', rfl, hb', hc'⟩ := HR'.out.at k (by rw [E2.out, ← E1.out]; exact hlt)
      have c1 := (HB.out.cell (p := ⟨b, off + k, none⟩) hb).trans hc
      have c2 := (HB.out.cell (p := ⟨b', off' + k, none⟩) hb').trans hc'
      have r1 := HS.out.red k
      have r2 := HS'.out.red k
      have hst : (addL m d l l').take (k + 1) = (addL m d l l').take k ++ [(Ser.co l k + Ser.co l' k) % m] := Ser.cut_take_succ _ _ _ _ (by have := E1.out; omega)
      obtain ⟨X, hX⟩ : ∃ X, Ser.co l k = X := ⟨_, rfl⟩
      obtain ⟨Y, hY⟩ : ∃ Y, Ser.co l' k = Y := ⟨_, rfl⟩
      rw [hX] at hc c1 r1
      rw [hY] at hc' c2 r2
      rw [hX, hY] at hst
      have HST := Lib.hid hst
      have C1 := Lib.hid hc
      have C2 := Lib.hid hc'
      have j0 : (0 : Int) ≤ (k : Int) := by omega
      have j1 : (k : Int) < (l.length : Int) := by omega
      have j2 : (k : Int) < (l'.length : Int) := by have := E1.out; have := E2.out; omega
      obtain ⟨r1, r3⟩ := r1
      obtain ⟨r2, r4⟩ := r2
      have HQ := Lib.hid (wrap_rem (x := X + Y) (m := m) (by omega) (by omega))
      clear hX hY hst hc hc'
      go_wp2
      go_region_held3 (fun w' => w'.cell? ⟨b, off + k, none⟩ = some (.int .i64 X) ∧ w'.cell? ⟨b', off' + k, none⟩ = some (.int .i64 Y) ∧ ¬ m = 0) (first | exact ⟨((((HB.out.alloc hsz _).drew).trans hpb).cell hb).trans C1.out, ((((HB.out.alloc hsz _).drew).trans hpb).cell hb').trans C2.out, hm0⟩ | exact ⟨c1, c2, hm0⟩ | go_keep) ((refine step_push _ _ _ (by rfl) (by rfl) Try.underlying22 w.heap.size _ _ (by rfl) ((HO.out.alloc _).drew) wr.heap.size ((X + Y) % m) (by rfl) (by simp; exact HQ.out) (by have := take_cut_len m d (fun n => Ser.co l n + Ser.co l' n) k; unfold addL; omega) (by simp; omega) ?_; intro v' w1 ho1 hpb))
      all_goals
        have hb1 := (((HB.out.alloc hsz _).drew).trans hpb)
        have HB1 := Lib.hid hb1
        have HO1 := Lib.hid ho1
        clear hb1 ho1 hpb
        go_wp2
        go_roundw
        case rel => exact ⟨k + 1, by omega, by go_num, by rw [HST.out]; exact HO1.out, HB1.out⟩
        case measure => simp only [intOf]; omega
    · obtain rfl : k = l.length := by omega
      have ho := HO.out
      rw [List.take_of_length_le (by unfold addL; rw [Ser.cut_length, E1.out]; exact Nat.le_refl _)] at ho
      have HF := Lib.hid ho
      clear ho
      go_wp2
      go_ret
      exact ⟨_, rfl, HF.out, HB.out⟩

end Go.Proofs.Ytfhdgcndiljjcab

