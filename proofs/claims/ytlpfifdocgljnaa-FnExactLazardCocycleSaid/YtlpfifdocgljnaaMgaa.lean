/- Texts of contracts, joined. -/
import Derived.WalkKit
import Derived.WalkSpells
import Derived.WalkLawsBesides
import Derived.ProofKit
import Derived.OpenShut
import Derived.Lib.Hide
import Derived.Test.YtlpfifdocgljnaaProg
import Derived.RegionTactic
import Derived.Deep.RegionHeld3
import Derived.Deep.QuietTactic
import Derived.BigQuiet
import Derived.Deep.OwnRows
/- Plain facts about worlds that the walks share: nothing here names the program. -/
namespace Go.Proofs.Ytlpfifdocgljnaa
open Go.RowKit Go.WideShapes Go.ChangeShapes Go.ChangeAt

theorem ret_int {a b : Int} (h : a = b) : Ending.returned (.int .i64 a) = .returned (.int .i64 b) := by rw [h]
theorem ret_bool {a b : Bool} (h : a = b) : Ending.returned (.bool a) = .returned (.bool b) := by rw [h]
theorem ret_ii {a b c d : Int} (h : a = c) (k : b = d) : Ending.returned (.tuple #[.int .i64 a, .int .i64 b]) = .returned (.tuple #[.int .i64 c, .int .i64 d]) := by rw [h, k]
theorem ret_bi {a c : Bool} {b d : Int} (h : a = c) (k : b = d) : Ending.returned (.tuple #[.bool a, .int .i64 b]) = .returned (.tuple #[.bool c, .int .i64 d]) := by rw [h, k]
theorem ne_facts {c : Int} (h : ¬ c = 0) : (c == 0) = false ∧ (c != 0) = true := ⟨by simpa using h, by simpa using h⟩

/-- what the end of a law's call asks, where the call has only made new blocks -/
theorem below_post {H : Type} {enc : TypeId × Value → H} {P : Program} {f : Func} {s : ChangeSpec} {apart fresh handsOn again : Bool} {W W' : World} {args : Array Value} {v : Value}
    {ds gs : List (DataW H)} {before pa pv : List MemPlace} (hW : DataW.Whole enc P f.params.toList s.vars apart W args.toList ds gs before)
    (hres : ∀ (b : Nat) (sp : Nat → Bool) (hd : Bool), DataW.TrodAll enc P W' b sp hd f.resultTypes.toList (v.resultList f.resultTypes.size) (s.fn H (ds ++ gs)).results [])
    (hargs : ∀ sp : Nat → Bool, (∀ p ∈ before, sp p.block = true) → DataW.TrodAll enc P W' 0 sp true f.params.toList args.toList (s.fn H (ds ++ gs)).args pa)
    (hvars : ∀ sp : Nat → Bool, (∀ p ∈ before, sp p.block = true) → DataW.TrodVars enc P W' sp s.vars (s.fn H (ds ++ gs)).vars pv)
    (hps : before = pa ++ pv) (hb : Below W.heap.size W W')
    (hok : ∀ (j : Nat) (t : TypeId) (r : Value), f.resultTypes[j]? = some t → (v.resultList f.resultTypes.size)[j]? = some r → Value.okWide P W' .any 0 t r) :
    s.post enc P f apart fresh handsOn again W args v W' := by
  subst hps
  have hlt := fun p hp => hW.lt p hp
  have hsp : ∀ p ∈ pa ++ pv, (fun b => decide (b < W.heap.size)) p.block = true := fun p hp => decide_eq_true (hlt p hp)
  refine ⟨ds, gs, pa ++ pv, [], pa, pv, hW, hres _ _ _, hargs _ hsp, hvars _ hsp, ?_, ?_⟩
  · exact World.keptBut_mono (fun p hp => ⟨hp, .inr (List.mem_append.1 hp)⟩) (hb.frame (· ∈ pa ++ pv))
  · intro _
    obtain ⟨_, _, _, _, _, hz, hn⟩ := hW
    refine ⟨hok, _, _, ([] ++ pa) ++ pv, ⟨[] ++ pa, pv, trodAll_append (hargs _ (fun _ _ => rfl)) (hres _ _ _), hvars _ (fun _ _ => rfl), rfl, ?_, ?_⟩, ?_⟩
    · intro b off hp
      have hin : MemPlace.cell b off ∈ pa ++ pv := by simpa using hp
      rw [hb.frozen (hlt _ hin)]
      exact hz b off hin
    · exact fun ha => by simpa using hn ha
    · exact fun p hp _ => by simpa using hp

end Go.Proofs.Ytlpfifdocgljnaa

/- Contracts of the functions that look at a modulus and at numbers, of the program and of the model. -/
namespace Go.Proofs.Ytlpfifdocgljnaa
open Go.RowKit Go.WideShapes Go.ChangeShapes Go.ChangeAt

/-- n lies in lo..hi -/
def inB (n lo hi : Int) : Bool := decide (lo ≤ n) && decide (n ≤ hi)
theorem inB_iff (n lo hi : Int) : inB n lo hi = true ↔ lo ≤ n ∧ n ≤ hi := by simp [inB]
theorem inB_yes {n lo hi : Int} (h1 : lo ≤ n) (h2 : n ≤ hi) : inB n lo hi = true := (inB_iff _ _ _).2 ⟨h1, h2⟩
theorem inB_no {n lo hi : Int} (h : ¬ (lo ≤ n ∧ n ≤ hi)) : inB n lo hi = false := by
  rw [← Bool.not_eq_true, inB_iff]; exact h

theorem isWithin_any (n lo hi : Int) (w : World) :
    Calls Try.prog 53 #[.int .i64 n, .int .i64 lo, .int .i64 hi] w fun e w' => e = .returned (.bool (inB n lo hi)) ∧ w = w' := by
  by_cases h1 : lo ≤ n
  · go_enter Try.func53, Try.ntmps53
    go_wp2
    go_ret
    exact ⟨by simp [inB, h1], rfl⟩
  · have h2 : inB n lo hi = false := inB_no (fun h => h1 h.1)
    have H := Lib.hid h2
    clear h2
    go_enter Try.func53, Try.ntmps53
    go_wp2
    go_ret
    exact ⟨ret_bool H.out.symm, rfl⟩

theorem l01In_any (n lo hi : Int) (w : World) :
    Calls Try.prog 51 #[.int .i64 n, .int .i64 lo, .int .i64 hi] w fun e w' => e = .returned (.bool (inB n lo hi)) ∧ w = w' := by
  by_cases h1 : lo ≤ n
  · go_enter Try.func51, Try.ntmps51
    go_wp2
    go_ret
    exact ⟨by simp [inB, h1], rfl⟩
  · have h2 : inB n lo hi = false := inB_no (fun h => h1 h.1)
    have H := Lib.hid h2
    clear h2
    go_enter Try.func51, Try.ntmps51
    go_wp2
    go_ret
    exact ⟨ret_bool H.out.symm, rfl⟩

/-- m is a modulus -/
def isM (m : Int) : Bool := inB m 2 10000
theorem IsModulus_any (m : Int) (w : World) :
    Calls Try.prog 52 #[.int .i64 m] w fun e w' => e = .returned (.bool (isM m)) ∧ w = w' := by
  go_enter Try.func52, Try.ntmps52
  go_wp2_with (go_at_call 53; refine (isWithin_any _ _ _ _).mono ?_; rintro e w' ⟨rfl, rfl⟩)
  go_ret
  exact ⟨rfl, rfl⟩
theorem l01Modulus_any (m : Int) (w : World) :
    Calls Try.prog 50 #[.int .i64 m] w fun e w' => e = .returned (.bool (isM m)) ∧ w = w' := by
  go_enter Try.func50, Try.ntmps50
  go_wp2_with (go_at_call 51; refine (l01In_any _ _ _ _).mono ?_; rintro e w' ⟨rfl, rfl⟩)
  go_ret
  exact ⟨rfl, rfl⟩

/-- all numbers of the list lie in lo..hi -/
def allIn (lo hi : Int) (l : List Int) : Bool := l.all fun n => inB n lo hi
/-- the code of a modulus and numbers -/
def codeN (m : Int) (l : List Int) : Int := if isM m then (if allIn 0 (m - 1) l then 0 else 2) else 1

end Go.Proofs.Ytlpfifdocgljnaa

/- Contracts of the functions that take numbers as variadics, of the program and of the model. -/
namespace Go.Proofs.Ytlpfifdocgljnaa
open Go.RowKit Go.WideShapes Go.ChangeShapes Go.ChangeAt

theorem isM_iff (m : Int) : isM m = true ↔ 2 ≤ m ∧ m ≤ 10000 := inB_iff _ _ _

/-- the slice at A holds the integers of l -/
def RI (w : World) (A : Option Addr) (l : List Int) : Prop :=
  l ≠ [] → ∃ b off, A = some ⟨b, off, none⟩ ∧ b < w.heap.size ∧ ∀ k, k < l.length → w.cell? ⟨b, off + k, none⟩ = some (.int .i64 (l[k]?.getD 0))
theorem RI.below {w w' : World} {A : Option Addr} {l : List Int} (h : RI w A l) (hb : Below w.heap.size w w') : RI w' A l := by
  intro hl
  obtain ⟨b, off, e, hlt, hc⟩ := h hl
  exact ⟨b, off, e, Nat.lt_of_lt_of_le hlt hb.size, fun k hk => (hb.cell (p := ⟨b, off + k, none⟩) hlt).trans (hc k hk)⟩

theorem allIn_split (lo hi : Int) (l : List Int) (k : Nat) (hk : k < l.length) : allIn lo hi l = (allIn lo hi (l.take k) && (inB (l[k]?.getD 0) lo hi && allIn lo hi (l.drop (k + 1)))) := by
  have e : l = l.take k ++ l[k] :: l.drop (k + 1) := by rw [List.getElem_cons_drop, List.take_append_drop]
  have e2 : l[k]?.getD 0 = l[k] := by rw [List.getElem?_eq_getElem hk]; rfl
  have e3 : allIn lo hi l = allIn lo hi (l.take k ++ l[k] :: l.drop (k + 1)) := congrArg _ e
  rw [e2, e3]
  unfold allIn
  rw [List.all_append, List.all_cons]
theorem allIn_take_succ (lo hi : Int) (l : List Int) (k : Nat) (hk : k < l.length) : allIn lo hi (l.take (k + 1)) = (allIn lo hi (l.take k) && inB (l[k]?.getD 0) lo hi) := by
  have e2 : l[k]?.getD 0 = l[k] := by rw [List.getElem?_eq_getElem hk]; rfl
  rw [List.take_succ_eq_append_getElem hk, e2]
  unfold allIn
  rw [List.all_append, List.all_cons, List.all_nil, Bool.and_true]

set_option maxHeartbeats 400000 in
theorem codeOfNumbers_any (m : Int) (A : Option Addr) (c : Nat) (l : List Int) (w : World) (hl : l.length ≤ 9223372036854775807) (hr : RI w A l) :
    Calls Try.prog 111 #[.int .i64 m, .slice A l.length c] w fun e w' => e = .returned (.int .i64 (codeN m l)) ∧ w = w' := by
  by_cases hm : isM m = true
  · obtain ⟨hm2, hm3⟩ := (isM_iff m).1 hm
    have hfin : codeN m l = if allIn 0 (m - 1) l then 0 else 2 := by rw [codeN, if_pos hm]
    have HF := Lib.hid hfin
    clear hfin
    go_enter Try.func111, Try.ntmps111
    go_wp2_with (go_at_call 52; refine (IsModulus_any _ _).mono ?_; rintro e w' ⟨rfl, rfl⟩)
    go_loop [12] (fun i => ∃ k : Nat, k ≤ l.length ∧ i = .int .i64 k ∧ allIn 0 (m - 1) (l.take k) = true) (fun i => l.length - (intOf i).toNat)
    case atStart => exact ⟨0, Nat.zero_le _, rfl, rfl⟩
    case round =>
      obtain ⟨k, hk, rfl, hall⟩ := hrel
      have HA := Lib.hid hall
      clear hall
      by_cases hlt : k < l.length
      · obtain ⟨b, off, rfl, hb, hc⟩ := hr (by rintro rfl; simp at hlt)
        have hck := hc k hlt
        clear hc hr
        obtain ⟨x, hx⟩ : ∃ x, l[k]?.getD 0 = x := ⟨_, rfl⟩
        rw [hx] at hck
        have HX := Lib.hid hx
        clear hx
        by_cases hin : inB x 0 (m - 1) = true
        · go_wp2_with (go_at_call 53; refine (isWithin_any _ _ _ _).mono ?_; rintro e w' ⟨rfl, rfl⟩)
          go_round
          case rel => exact ⟨k + 1, by omega, by go_num, by rw [allIn_take_succ _ _ _ _ hlt, HA.out, HX.out, hin]; rfl⟩
          case measure => simp [intOf]; omega
        · have hin' : inB x 0 (m - 1) = false := by simpa using hin
          clear hin
          go_wp2_with (go_at_call 53; refine (isWithin_any _ _ _ _).mono ?_; rintro e w' ⟨rfl, rfl⟩)
          go_ret
          exact ⟨ret_int (by rw [HF.out, allIn_split _ _ _ _ hlt, HX.out, hin']; simp), rfl⟩
      · go_wp2
        go_ret
        exact ⟨ret_int (by rw [HF.out]; have := HA.out; rw [List.take_of_length_le (by omega)] at this; rw [this]; rfl), rfl⟩
  · have hm' : isM m = false := by simpa using hm
    have hfin : codeN m l = 1 := by rw [codeN, if_neg hm]
    have HF := Lib.hid hfin
    clear hfin hm
    go_enter Try.func111, Try.ntmps111
    go_wp2_with (go_at_call 52; refine (IsModulus_any _ _).mono ?_; rintro e w' ⟨rfl, rfl⟩)
    go_ret
    exact ⟨ret_int HF.out.symm, rfl⟩


set_option maxHeartbeats 400000 in
theorem l01Numbers_any (m : Int) (A : Option Addr) (c : Nat) (l : List Int) (w : World) (hm2 : 2 ≤ m) (hm3 : m ≤ 10000) (hl : l.length ≤ 9223372036854775807) (hr : RI w A l) :
    Calls Try.prog 72 #[.int .i64 m, .slice A l.length c] w fun e w' => e = .returned (.bool (allIn 0 (m - 1) l)) ∧ w = w' := by
  go_enter Try.func72, Try.ntmps72
  go_wp2
  go_loop [5] (fun i => ∃ k : Nat, k ≤ l.length ∧ i = .int .i64 k ∧ allIn 0 (m - 1) (l.take k) = true) (fun i => l.length - (intOf i).toNat)
  case atStart => exact ⟨0, Nat.zero_le _, rfl, rfl⟩
  case round =>
    obtain ⟨k, hk, rfl, hall⟩ := hrel
    have HA := Lib.hid hall
    clear hall
    by_cases hlt : k < l.length
    · obtain ⟨b, off, rfl, hb, hc⟩ := hr (by rintro rfl; simp at hlt)
      have hck := hc k hlt
      clear hc hr
      obtain ⟨x, hx⟩ : ∃ x, l[k]?.getD 0 = x := ⟨_, rfl⟩
      rw [hx] at hck
      have HX := Lib.hid hx
      clear hx
      by_cases hin : inB x 0 (m - 1) = true
      · go_wp2_with (go_at_call 51; refine (l01In_any _ _ _ _).mono ?_; rintro e w' ⟨rfl, rfl⟩)
        go_round
        case rel => exact ⟨k + 1, by omega, by go_num, by rw [allIn_take_succ _ _ _ _ hlt, HA.out, HX.out, hin]; rfl⟩
        case measure => simp [intOf]; omega
      · have hin' : inB x 0 (m - 1) = false := by simpa using hin
        clear hin
        go_wp2_with (go_at_call 51; refine (l01In_any _ _ _ _).mono ?_; rintro e w' ⟨rfl, rfl⟩)
        go_ret
        exact ⟨ret_bool (by rw [allIn_split _ _ _ _ hlt, HX.out, hin']; simp), rfl⟩
    · go_wp2
      go_ret
      exact ⟨ret_bool (by have := HA.out; rw [List.take_of_length_le (by omega)] at this; rw [this]), rfl⟩


theorem rem_neg (m n : Int) (hm : 0 < m) (hn : n < 0) : ∃ r, 0 ≤ r ∧ r < m ∧ n.tmod m = -r ∧ n % m = (if r = 0 then 0 else m - r) ∧ (-r) % m = n % m := by
  refine ⟨(-n) % m, Int.emod_nonneg _ (by omega), Int.emod_lt_of_pos _ hm, ?_, ?_, ?_⟩
  · rw [← Int.neg_neg n, Int.neg_tmod, Int.tmod_eq_emod_of_nonneg (by omega), Int.neg_neg]
  · have h := Int.emod_add_mul_ediv (-n) m
    have h1 := Int.emod_nonneg (-n) (show m ≠ 0 by omega)
    have h2 := Int.emod_lt_of_pos (-n) hm
    generalize (-n) % m = r at *
    generalize (-n) / m = q at *
    obtain rfl : n = -r + m * (-q) := by rw [Int.mul_neg]; omega
    rw [Int.add_mul_emod_self_left]
    by_cases hr : r = 0
    · subst hr; simp
    · rw [if_neg hr, ← Int.add_emod_right, Int.emod_eq_of_lt (by omega) (by omega)]; omega
  · have h := Int.emod_add_mul_ediv (-n) m
    generalize (-n) % m = r at *
    generalize (-n) / m = q at *
    obtain rfl : n = -r + m * (-q) := by rw [Int.mul_neg]; omega
    rw [Int.add_mul_emod_self_left]

theorem remainder_any (m n : Int) (w : World) (h1 : 1 ≤ m) (h2 : m ≤ 10000) (h3 : -1000000000000 ≤ n) (h4 : n ≤ 1000000000000) :
    Calls Try.prog 105 #[.int .i64 m, .int .i64 n] w fun e w' => e = .returned (.int .i64 (n % m)) ∧ w = w' := by
  by_cases hn : 0 ≤ n
  · have h5 := Int.emod_nonneg n (show m ≠ 0 by omega)
    have h6 := Int.emod_lt_of_pos n (show 0 < m by omega)
    go_enter Try.func105, Try.ntmps105
    go_wp2
    go_ret
    exact ⟨rfl, rfl⟩
  · obtain ⟨r, a1, a2, a3, a4, a5⟩ := rem_neg m n (by omega) (by omega)
    have H4 := Lib.hid a4
    clear a4 a5
    by_cases hr : r = 0
    · subst hr
      go_enter Try.func105, Try.ntmps105
      go_wp2
      go_ret
      exact ⟨ret_int (by rw [H4.out]; simp), rfl⟩
    · have hr' : 0 < r := by omega
      clear hr
      go_enter Try.func105, Try.ntmps105
      go_wp2
      go_ret
      exact ⟨ret_int (by rw [H4.out, if_neg (by omega)]; omega), rfl⟩

theorem l01Mod_any (m n : Int) (w : World) (h1 : 1 ≤ m) (h2 : m ≤ 10000) (h3 : -1000000000000 ≤ n) (h4 : n ≤ 1000000000000) :
    Calls Try.prog 101 #[.int .i64 m, .int .i64 n] w fun e w' => e = .returned (.int .i64 (n % m)) ∧ w = w' := by
  by_cases hn : 0 ≤ n
  · have h5 := Int.emod_nonneg n (show m ≠ 0 by omega)
    have h6 := Int.emod_lt_of_pos n (show 0 < m by omega)
    have H7 := Lib.hid (show (n % m + m) % m = n % m by rw [Int.add_emod_right, Int.emod_emod])
    go_enter Try.func101, Try.ntmps101
    go_wp2
    go_ret
    exact ⟨ret_int H7.out, rfl⟩
  · obtain ⟨r, a1, a2, a3, a4, a5⟩ := rem_neg m n (by omega) (by omega)
    have H5 := Lib.hid a5
    clear a4 a5
    go_enter Try.func101, Try.ntmps101
    go_wp2
    go_ret
    exact ⟨ret_int H5.out, rfl⟩

end Go.Proofs.Ytlpfifdocgljnaa

/- Slices of integers that a call has made itself: appending one number, reading. -/
namespace Go.Proofs.Ytlpfifdocgljnaa
open Go.RowKit Go.WideShapes Go.ChangeShapes Go.ChangeAt

/-- v is a slice of the call's own, from block base on, that holds the integers of l -/
def OwnI (w : World) (base : Nat) (v : Value) (l : List Int) : Prop := w.ownsRow base 2 1 v l.length (l.map (Value.int .i64))
theorem info64 : (Try.prog.info? 2).map (fun i => (i.zero, i.size, i.bytes)) = some (some (.int .i64 0), 1, 8) := by kernel_rfl

theorem OwnI.nil (w : World) (base : Nat) : OwnI w base (.slice none 0 0) [] := World.ownsRow_nil _ _ _ _
theorem OwnI.form {w : World} {base : Nat} {v : Value} {l : List Int} (h : OwnI w base v l) : ∃ A c, v = .slice A l.length c ∧ RI w A l := by
  unfold OwnI at h
  rcases h.2 with ⟨rfl, h0⟩ | ⟨g, cap, cur, rfl, hb, hg, h1, h2, h3, h4⟩
  · obtain rfl : l = [] := List.eq_nil_of_length_eq_zero h0
    exact ⟨none, 0, rfl, fun h => absurd rfl h⟩
  · refine ⟨_, _, rfl, fun _ => ⟨g, 0, rfl, (Array.getElem?_eq_some_iff.1 hg).1, fun k hk => ?_⟩⟩
    have hc := h.cells (g := g) rfl k (.int .i64 (l[k]?.getD 0)) (by
      rw [List.getElem?_map, List.getElem?_eq_getElem hk]; rfl)
    have e : (⟨g, 0, none⟩ : Addr).add k = ⟨g, 0 + k, none⟩ := by unfold Addr.add; split <;> simp_all
    rw [← e]; exact hc
theorem OwnI.below {w w' : World} {base B : Nat} {v : Value} {l : List Int} (h : OwnI w base v l) (hb : Below B w w') (hB : ∀ g, v.ownBlock = some g → g < B) : OwnI w' base v l := by
  unfold OwnI at h ⊢
  refine ⟨h.1, ?_⟩
  rcases h.2 with hn | ⟨g, cap, cur, rfl, hg, hh, rest⟩
  · exact .inl hn
  · exact .inr ⟨g, cap, cur, rfl, hg, (hb.block g (hB g rfl)).trans hh, rest⟩
theorem OwnI.keep {w w' : World} {base : Nat} {v : Value} {l : List Int} (h : OwnI w base v l) (hb : Below w.heap.size w w') : OwnI w' base v l :=
  h.below hb (fun g hg => (World.ownsRow.lt h g hg).2)
theorem OwnI.lt {w : World} {base : Nat} {v : Value} {l : List Int} (h : OwnI w base v l) : ∀ g, v.ownBlock = some g → base ≤ g ∧ g < w.heap.size := World.ownsRow.lt h
theorem OwnI.more {w : World} {base b' : Nat} {v : Value} {l : List Int} (h : OwnI w base v l) (hb : b' ≤ base) : OwnI w b' v l := by
  unfold OwnI at h ⊢
  refine ⟨h.1, ?_⟩
  rcases h.2 with hn | ⟨g, cap, cur, hv, hg, hh, rest⟩
  · exact .inl hn
  · exact .inr ⟨g, cap, cur, hv, Nat.le_trans hb hg, hh, rest⟩
theorem OwnI.one (w : World) (x : Int) : OwnI (w.alloc (.cells #[.int .i64 x] 2)) w.heap.size (.slice (some ⟨w.heap.size, 0, none⟩) 1 1) [x] :=
  ⟨rfl, .inr ⟨w.heap.size, 1, #[.int .i64 x], rfl, Nat.le_refl _, heap_alloc_new w _, Nat.le_refl _, by unfold maxLen; omega, rfl, rfl⟩⟩

/-- appending one number, which lies in a new block of its own -/
theorem wp_push {ops : Array Oper} {rest : List Oper} {o : Oper} {a : Act} {Q : Exit → Act → World → Prop} {w : World} (s x : Operand) (t : TypeId)
    (hgd : o.guard = none) (ho : o.op = .call { callee := .builtin .append, args := #[s, x], argTypes := #[t, t] })
    (ht : Try.prog.underlying t = some (.slice 2)) (base : Nat) (v : Value) (l : List Int) (hs : a.eval s = v) (hown : OwnI w base v l)
    (y : Int) (hx : a.eval x = .slice (some ⟨w.heap.size, 0, none⟩) 1 1) (hlen : l.length ≤ 1000000000000) (hbase : base ≤ w.heap.size)
    (h : ∀ v' w', OwnI w' base v' (l ++ [y]) → Below base w w' → wpList Try.prog ops Q rest (a.put o.dst v') w') :
    wpList Try.prog ops Q (o :: rest) a (w.alloc (.cells #[.int .i64 y] 2)) := by
  obtain ⟨i0, hi, hz0, hz1, hz2⟩ := info_parts info64
  refine wpList_append_own _ hgd s x t ho base 2 i0 (.int .i64 0) 1 8 ht hi hz0 hz1 hz2 rfl (by decide) v l.length (l.map (Value.int .i64)) hs (hown.alloc _)
    ⟨w.heap.size, 0, none⟩ 1 1 [.int .i64 y] hx rfl ?_ ?_ ?_ ?_ ?_ ?_
  · intro j u hj
    match j, hj with
    | 0, hj => simp at hj; subst hj; simp [Addr.add]
  · intro u hu; simp at hu; subst hu; rfl
  · unfold maxLen; omega
  · omega
  · simp; omega
  · intro v' w' h1 h2 _
    refine h v' w' ?_ ?_
    · unfold OwnI; rw [List.map_append, List.length_append]; exact h1
    · exact ((Below.refl base w).alloc hbase _).grown h2 (by simp; omega) (fun k hk => (World.ownsRow.lt hown k hk).1)

/-- the same at a step of a region that draws its order: the number lies in block g -/
theorem step_push {ops : Array Oper} {o : Oper} {a : Act} {K : Act → World → Prop} {Q : Exit → Act → World → Prop} {E : Prop} {w : World} (s x : Operand) (t : TypeId)
    (hgd : o.guard = none) (ho : o.op = .call { callee := .builtin .append, args := #[s, x], argTypes := #[t, t] })
    (ht : Try.prog.underlying t = some (.slice 2)) (base : Nat) (v : Value) (l : List Int) (hs : a.eval s = v) (hown : OwnI w base v l)
    (g : Nat) (y : Int) (hx : a.eval x = .slice (some ⟨g, 0, none⟩) 1 1) (hy : w.cell? ⟨g, 0, none⟩ = some (.int .i64 y)) (hlen : l.length ≤ 1000000000000) (hbase : base ≤ w.heap.size)
    (h : ∀ v' w', OwnI w' base v' (l ++ [y]) → Below base w w' → K (a.put o.dst v') w') :
    if Region.wanted o (yielded ops a.tmps) = true then Oper.wp Try.prog o a w K Q else E := by
  have hw : Region.wanted o (yielded ops a.tmps) = true := by simp [Region.wanted, hgd]
  rw [if_pos hw]
  obtain ⟨i0, hi, hz0, hz1, hz2⟩ := info_parts info64
  refine wp_append_own _ s x t ho base 2 i0 (.int .i64 0) 1 8 ht hi hz0 hz1 hz2 rfl (by decide) v l.length (l.map (Value.int .i64)) hs hown
    ⟨g, 0, none⟩ 1 1 [.int .i64 y] hx rfl ?_ ?_ ?_ ?_ hbase ?_
  · intro j u hj
    match j, hj with
    | 0, hj => simp at hj; subst hj; simp [Addr.add]; exact hy
  · intro u hu; simp at hu; subst hu; rfl
  · unfold maxLen; omega
  · omega
  · intro v' w' h1 h2 _
    refine h v' w' ?_ ?_
    · unfold OwnI; rw [List.map_append, List.length_append]; exact h1
    · exact (Below.refl base w).grown h2 hbase (fun k hk => (World.ownsRow.lt hown k hk).1)
theorem OwnI.alloc {w : World} {base : Nat} {v : Value} {l : List Int} (h : OwnI w base v l) (o : Obj) : OwnI (w.alloc o) base v l := World.ownsRow.alloc h o
theorem OwnI.drewN {w : World} {base : Nat} {v : Value} {l : List Int} (h : OwnI w base v l) (n : Nat) : OwnI (w.drewN n) base v l := h
theorem OwnI.drew {w : World} {base : Nat} {v : Value} {l : List Int} (h : OwnI w base v l) : OwnI w.drew base v l := h

end Go.Proofs.Ytlpfifdocgljnaa

/- Plain number theory: numbers of choices. No program in sight. -/
namespace Go.Proofs.Ytlpfifdocgljnaa
namespace Num

/-- the number of ways to choose k of n things -/
def bin : Nat → Nat → Nat
  | _, 0 => 1
  | 0, _ + 1 => 0
  | n + 1, k + 1 => bin n k + bin n (k + 1)
theorem bin_zero (n : Nat) : bin n 0 = 1 := by cases n <;> rfl
theorem bin_succ (n k : Nat) : bin (n + 1) (k + 1) = bin n k + bin n (k + 1) := rfl
theorem bin_mul (n : Nat) : ∀ k, (k + 1) * bin n (k + 1) + k * bin n k = n * bin n k := by
  induction n with
  | zero =>
    intro k
    cases k <;> simp [bin]
  | succ n ih =>
    intro k
    cases k with
    | zero =>
      have h := ih 0
      rw [bin_zero] at h ⊢
      rw [bin_succ, bin_zero]
      omega
    | succ k =>
      have h1 := ih k
      have h2 := ih (k + 1)
      rw [bin_succ, bin_succ]
      generalize bin n k = b0 at *
      generalize bin n (k + 1) = b1 at *
      generalize bin n (k + 1 + 1) = b2 at *
      grind
theorem bin_over (n : Nat) : ∀ k, n < k → bin n k = 0 := by
  induction n with
  | zero => intro k h; cases k with
    | zero => omega
    | succ k => rfl
  | succ n ih => intro k h; cases k with
    | zero => omega
    | succ k => rw [bin_succ, ih k (by omega), ih (k + 1) (by omega)]
theorem bin_self (n : Nat) : bin n n = 1 := by
  induction n with
  | zero => rfl
  | succ n ih => rw [bin_succ, ih, bin_over n (n + 1) (by omega)]
theorem bin_pos (n : Nat) : ∀ k, k ≤ n → 0 < bin n k := by
  induction n with
  | zero => intro k h; obtain rfl : k = 0 := by omega
            exact Nat.one_pos
  | succ n ih => intro k h; cases k with
    | zero => rw [bin_zero]; omega
    | succ k => rw [bin_succ]; have := ih k (by omega); omega
theorem bin_mono (n k : Nat) : bin n k ≤ bin (n + 1) k := by
  cases k with
  | zero => rw [bin_zero, bin_zero]; omega
  | succ k => rw [bin_succ]; omega
theorem bin_mono' (n k : Nat) : ∀ d, bin n k ≤ bin (n + d) k
  | 0 => Nat.le_refl _
  | d + 1 => Nat.le_trans (bin_mono' n k d) (bin_mono (n + d) k)

/-- a row of the triangle, quickly -/
def rowL : Nat → List Nat
  | 0 => [1]
  | n + 1 => List.zipWith (· + ·) (0 :: rowL n) (rowL n ++ [0])
theorem rowL_length : ∀ n, (rowL n).length = n + 1
  | 0 => rfl
  | n + 1 => by simp [rowL, rowL_length n]
theorem rowL_get : ∀ n k, k ≤ n → (rowL n)[k]? = some (bin n k)
  | 0, k, h => by obtain rfl : k = 0 := by omega
                  rfl
  | n + 1, k, h => by
    have hl := rowL_length n
    rw [rowL, List.getElem?_zipWith]
    cases k with
    | zero =>
      have h0 := rowL_get n 0 (by omega)
      rw [List.getElem?_append_left (by omega), h0, bin_zero, bin_zero]
      rfl
    | succ k =>
      rw [List.getElem?_cons_succ, rowL_get n k (by omega)]
      by_cases hk : k + 1 ≤ n
      · rw [List.getElem?_append_left (by omega), rowL_get n (k + 1) hk, bin_succ]
      · obtain rfl : k = n := by omega
        rw [List.getElem?_append_right (by omega), hl, Nat.sub_self, bin_succ, bin_over k (k + 1) (by omega)]
        rfl
theorem row60 : (rowL 60).all (fun x => decide (x ≤ 118264581564861424)) = true := by decide +kernel
theorem bin_le (n k : Nat) (hn : n ≤ 60) : bin n k ≤ 118264581564861424 := by
  by_cases hk : k ≤ 60
  · have h1 := bin_mono' n k (60 - n)
    rw [show n + (60 - n) = 60 by omega] at h1
    have h2 := rowL_get 60 k hk
    have h3 := List.all_eq_true.1 row60 _ (List.mem_of_getElem? h2)
    have h4 := of_decide_eq_true h3
    omega
  · rw [bin_over n k (by omega)]; omega
/-- a step of the product -/
theorem bin_next {n k : Nat} (h : k < n) : bin n k * (n - k) = bin n (k + 1) * (k + 1) := by
  have h1 := bin_mul n k
  have h2 : n * bin n k = (n - k) * bin n k + k * bin n k := by rw [← Nat.add_mul]; congr 1; omega
  rw [Nat.mul_comm (bin n k), Nat.mul_comm (bin n (k + 1))]
  omega
theorem bin_step {n k : Nat} (h : k < n) : bin n k * (n - k) / (k + 1) = bin n (k + 1) := by
  rw [bin_next h, Nat.mul_div_cancel _ (by omega)]
theorem bin_prod {n k : Nat} (hn : n ≤ 60) : bin n k * (n - k) ≤ 118264581564861424 * 60 := Nat.mul_le_mul (bin_le n k hn) (by omega)

end Num
end Go.Proofs.Ytlpfifdocgljnaa

/- Contracts of the two binomial functions. -/
namespace Go.Proofs.Ytlpfifdocgljnaa
open Go.RowKit Go.WideShapes Go.ChangeShapes Go.ChangeAt

/-- the number of ways to choose k of n things -/
def binI (n k : Int) : Int := (Num.bin n.toNat k.toNat : Nat)
theorem binI_bd {n k : Int} (hn : n ≤ 60) : 0 ≤ binI n k ∧ binI n k ≤ 118264581564861424 := by
  have := Num.bin_le n.toNat k.toNat (by omega)
  unfold binI; omega

set_option maxHeartbeats 1000000 in
theorem choices_any (n k : Int) (w : World) (h1 : 0 ≤ n) (h2 : n ≤ 60) (h3 : 0 ≤ k) (h4 : k ≤ 60) :
    Calls Try.prog 88 #[.int .i64 n, .int .i64 k] w fun e w' => e = .returned (.int .i64 (binI n k)) ∧ w = w' := by
  obtain ⟨N, rfl⟩ := Int.eq_ofNat_of_zero_le h1
  obtain ⟨K, rfl⟩ := Int.eq_ofNat_of_zero_le h3
  by_cases hkn : N < K
  · have HF := Lib.hid (show binI (N : Int) (K : Int) = 0 by rw [binI, Int.toNat_natCast, Int.toNat_natCast, Num.bin_over N K hkn]; rfl)
    go_enter Try.func88, Try.ntmps88
    go_wp2
    go_ret
    exact ⟨ret_int HF.out.symm, rfl⟩
  · go_enter Try.func88, Try.ntmps88
    go_wp2
    go_loop [5, 6] (fun c i => ∃ I : Nat, 1 ≤ I ∧ I ≤ K + 1 ∧ c = .int .i64 (Num.bin N (I - 1) : Nat) ∧ i = .int .i64 I) (fun _ i => K + 1 - (intOf i).toNat)
    case atStart => exact ⟨1, by omega, by omega, by rw [Nat.sub_self, Num.bin_zero]; rfl, rfl⟩
    case round =>
      obtain ⟨I, i1, i2, rfl, rfl⟩ := hrel
      by_cases hlt : I ≤ K
      · have hle := Num.bin_le N (I - 1) (by omega)
        have hpr := Num.bin_prod (n := N) (k := I - 1) (by omega)
        have hst := Num.bin_step (n := N) (k := I - 1) (by omega)
        rw [show I - 1 + 1 = I by omega] at hst
        obtain ⟨C, hC⟩ : ∃ C, Num.bin N (I - 1) = C := ⟨_, rfl⟩
        rw [hC] at hle hpr hst ⊢
        have e1 : (C : Int) * ((N : Int) - (I : Int) + 1) = ((C * (N - (I - 1)) : Nat) : Int) := by
          rw [Int.natCast_mul]; congr 1; omega
        have p1 : 0 ≤ (C : Int) * ((N : Int) - (I : Int) + 1) := by rw [e1]; exact Int.natCast_nonneg _
        have p2 : (C : Int) * ((N : Int) - (I : Int) + 1) ≤ 7095874893891685440 := by rw [e1]; omega
        have HS := Lib.hid (show (C : Int) * ((N : Int) - (I : Int) + 1) / (I : Int) = ((Num.bin N I : Nat) : Int) by rw [e1, ← Int.natCast_ediv, hst])
        clear hst hpr e1 hC
        go_wp2
        go_round
        case rel => exact ⟨I + 1, by omega, by omega, by rw [HS.out, Nat.add_sub_cancel], by go_num⟩
        case measure => simp only [intOf]; omega
      · obtain rfl : I = K + 1 := by omega
        go_wp2
        go_ret
        exact ⟨ret_int (by rw [binI, Int.toNat_natCast, Int.toNat_natCast]), rfl⟩

/-- the beginning of a row of the triangle -/
def rowI (n j : Nat) : List Int := (List.range j).map fun i => ((Num.bin n i : Nat) : Int)
theorem rowI_length (n j : Nat) : (rowI n j).length = j := by simp [rowI]
theorem rowI_succ (n j : Nat) : rowI n (j + 1) = rowI n j ++ [((Num.bin n j : Nat) : Int)] := by simp [rowI, List.range_succ]
theorem rowI_one (n : Nat) : rowI n 1 = [1] := by simp [rowI, Num.bin_zero]
theorem rowI_get (n j i : Nat) (h : i < j) : (rowI n j)[i]?.getD 0 = ((Num.bin n i : Nat) : Int) := by simp [rowI, h]

set_option maxHeartbeats 2000000 in
theorem l01Binomial_any (n k : Int) (w : World) (h1 : 0 ≤ n) (h2 : n ≤ 60) (h3 : 0 ≤ k) (h4 : k ≤ 60) :
    Calls Try.prog 84 #[.int .i64 n, .int .i64 k] w fun e w' => e = .returned (.int .i64 (binI n k)) ∧ Below w.heap.size w w' := by
  obtain ⟨N, rfl⟩ := Int.eq_ofNat_of_zero_le h1
  obtain ⟨K, rfl⟩ := Int.eq_ofNat_of_zero_le h3
  by_cases hkn : N < K
  · have HF := Lib.hid (show binI (N : Int) (K : Int) = 0 by rw [binI, Int.toNat_natCast, Int.toNat_natCast, Num.bin_over N K hkn]; rfl)
    go_enter Try.func84, Try.ntmps84
    go_wp2
    go_ret
    exact ⟨ret_int HF.out.symm, Below.refl _ _⟩
  · go_enter Try.func84, Try.ntmps84
    go_wp2
    go_loopw [5, 6] (fun r i wr => ∃ I : Nat, I ≤ N ∧ i = .int .i64 I ∧ OwnI wr w.heap.size r (rowI I (I + 1)) ∧ Below w.heap.size w wr) (fun _ i _ => N - (intOf i).toNat)
    case atStart => exact ⟨0, Nat.zero_le _, rfl, by rw [rowI_one]; exact OwnI.one w 1, (Below.refl _ _).alloc (Nat.le_refl _) _⟩
    case round =>
      obtain ⟨I, hI, rfl, hown, hbel⟩ := hrel
      have HB := Lib.hid hbel
      have HO := Lib.hid hown
      obtain ⟨A, c, rfl, hri⟩ := hown.form
      rw [rowI_length] at HO ⊢
      clear hbel hown
      by_cases hlt : I < N
      · have hB1 := HB.out.size
        obtain ⟨wo, rfl⟩ : ∃ wo : World, wo = wr := ⟨_, rfl⟩
        obtain ⟨b, off, rfl, hb, hc⟩ := hri (by intro h; have := congrArg List.length h; rw [rowI_length] at this; simp at this)
        have HC := Lib.hid hc
        clear hri hc
        go_wp2
        go_loopw [7, 8] (fun x j wi => ∃ T : Nat, 1 ≤ T ∧ T ≤ I + 1 ∧ j = .int .i64 T ∧ OwnI wi wo.heap.size x (rowI (I + 1) T) ∧ Below wo.heap.size wo wi) (fun _ j _ => I + 1 - (intOf j).toNat)
        case atStart => exact ⟨1, by omega, by omega, rfl, by rw [rowI_one]; exact OwnI.one wo 1, (Below.refl _ _).alloc (Nat.le_refl _) _⟩
        case round =>
          obtain ⟨T, hT1, hT2, rfl, hown2, hbel2⟩ := hrel
          have HB2 := Lib.hid hbel2
          have HO2 := Lib.hid hown2
          clear hbel2 hown2
          by_cases hj : T < I + 1
          · obtain ⟨J, hJ⟩ : ∃ J, T = J + 1 := ⟨T - 1, by omega⟩
            have c1 := (HB2.out.cell (p := ⟨b, off + J, none⟩) hb).trans (HC.out J (by rw [rowI_length]; omega))
            have c2 := (HB2.out.cell (p := ⟨b, off + T, none⟩) hb).trans (HC.out T (by rw [rowI_length]; omega))
            rw [rowI_get _ _ _ (by omega)] at c1 c2
            have l1 := Num.bin_le I J (by omega)
            have l2 := Num.bin_le I T (by omega)
            have HS := Lib.hid (show Num.bin (I + 1) T = Num.bin I J + Num.bin I T by rw [hJ, Num.bin_succ])
            obtain ⟨X, hX⟩ : ∃ X, Num.bin I J = X := ⟨_, rfl⟩
            obtain ⟨Y, hY⟩ : ∃ Y, Num.bin I T = Y := ⟨_, rfl⟩
            rw [hX] at c1 l1
            rw [hY] at c2 l2
            have HX := Lib.hid hX
            have HY := Lib.hid hY
            have j1 : (0 : Int) ≤ (T : Int) := by omega
            have j2 : (T : Int) < (I : Int) + 1 := by omega
            have j3 : (0 : Int) ≤ (J : Int) := by omega
            have j4 : (J : Int) < (I : Int) + 1 := by omega
            have j5 : IntKind.i64.wrap ((T : Int) - 1) = (J : Int) := by rw [IntWalk.i64_in _ (by omega)]; omega
            have j6 : IntKind.i64.wrap ((X : Int) + (Y : Int)) = (X : Int) + (Y : Int) := IntWalk.i64_in _ (by omega)
            have hsz := HB2.out.size
            clear hX hY hJ
            go_wp2
            go_region_held3 (fun w' => w'.cell? ⟨b, off + J, none⟩ = some (.int .i64 (X : Nat)) ∧ w'.cell? ⟨b, off + T, none⟩ = some (.int .i64 (Y : Nat))) (first | go_keep | exact ⟨((((Below.refl wo.heap.size wr).alloc hsz _).drew.trans hpb).cell hb).trans c1, ((((Below.refl wo.heap.size wr).alloc hsz _).drew.trans hpb).cell hb).trans c2⟩) ((refine step_push _ _ _ (by rfl) (by rfl) Try.underlying25 wo.heap.size _ _ (by rfl) ((HO2.out.alloc _).drew) wr.heap.size ((X : Int) + (Y : Int)) (by rfl) (by simp) (by rw [rowI_length]; omega) (by have := HB2.out.size; simp; omega) ?_; intro v' w1 ho1 hpb))
            have hpb' := ((Below.refl wo.heap.size wr).alloc hsz _).drew.trans hpb
            have HP := Lib.hid hpb'
            have HQ := Lib.hid ho1
            clear hpb hpb' ho1 c1 c2 j5 j6
            go_wp2
            go_roundw
            case rel => exact ⟨T + 1, by omega, by omega, by go_num, by rw [rowI_succ, HS.out, HX.out, HY.out, Int.natCast_add]; exact HQ.out, HB2.out.trans HP.out⟩
            case measure => simp only [intOf]; omega
          · obtain rfl : T = I + 1 := by omega
            have hsz := HB2.out.size
            go_wp2_with (at_builtin; refine wp_push _ _ _ (by rfl) (by rfl) Try.underlying25 wo.heap.size _ _ (by rfl) HO2.out 1 (by rfl) (by rw [rowI_length]; omega) (by omega) ?_; intro v' w1 ho1 hpb)
            have HP := Lib.hid hpb
            have HQ := Lib.hid ho1
            clear hpb ho1
            go_wp2
            go_roundw
            case rel =>
              refine ⟨I + 1, by omega, by go_num, OwnI.more ?_ hB1, HB.out.trans ((HB2.out.trans HP.out).mono hB1)⟩
              rw [rowI_succ _ (I + 1), Num.bin_self]
              exact HQ.out
            case measure => simp only [intOf]; omega
      · obtain rfl : I = N := by omega
        obtain ⟨b, off, rfl, hb, hc⟩ := hri (by intro h; have := congrArg List.length h; rw [rowI_length] at this; simp at this)
        have c1 := hc K (by rw [rowI_length]; omega)
        rw [rowI_get _ _ _ (by omega)] at c1
        clear hri hc
        go_wp2
        go_ret
        exact ⟨ret_int (by rw [binI, Int.toNat_natCast, Int.toNat_natCast]), HB.out⟩

end Go.Proofs.Ytlpfifdocgljnaa

/- Contract of the model's greatest common divisor. -/
namespace Go.Proofs.Ytlpfifdocgljnaa
open Go.RowKit Go.WideShapes Go.ChangeShapes Go.ChangeAt

/-- the greatest common divisor, at integers of any sign -/
def gcdI (a b : Int) : Int := (Nat.gcd a.natAbs b.natAbs : Nat)
theorem emod_nat (G H : Nat) : (G : Int) % (H : Int) = ((G % H : Nat) : Int) := (Int.natCast_emod G H).symm
set_option maxHeartbeats 1000000 in
theorem l01Gcd_any (a b : Int) (w : World) (h1 : -4000000000000000000 ≤ a) (h2 : a ≤ 4000000000000000000) (h3 : -4000000000000000000 ≤ b) (h4 : b ≤ 4000000000000000000) :
    Calls Try.prog 73 #[.int .i64 a, .int .i64 b] w fun e w' => e = .returned (.int .i64 (gcdI a b)) ∧ w = w' := by
  have hA : (∃ A : Nat, a = -(A : Int) ∧ 0 < A ∧ A ≤ 4000000000000000000) ∨ (∃ A : Nat, a = (A : Int) ∧ A ≤ 4000000000000000000) := by
    by_cases h : a < 0
    · exact .inl ⟨a.natAbs, by omega, by omega, by omega⟩
    · exact .inr ⟨a.natAbs, by omega, by omega⟩
  have hB : (∃ B : Nat, b = -(B : Int) ∧ 0 < B ∧ B ≤ 4000000000000000000) ∨ (∃ B : Nat, b = (B : Int) ∧ B ≤ 4000000000000000000) := by
    by_cases h : b < 0
    · exact .inl ⟨b.natAbs, by omega, by omega, by omega⟩
    · exact .inr ⟨b.natAbs, by omega, by omega⟩
  clear h1 h2 h3 h4
  rcases hA with ⟨A, rfl, hA1, hA2⟩ | ⟨A, rfl, hA2⟩ <;> rcases hB with ⟨B, rfl, hB1, hB2⟩ | ⟨B, rfl, hB2⟩
  all_goals
    go_enter Try.func73, Try.ntmps73
    go_wp2
    go_loop [0, 1] (fun g ng => ∃ (G H : Nat), g = .int .i64 G ∧ ng = .int .i64 H ∧ G ≤ 4000000000000000000 ∧ H ≤ 4000000000000000000 ∧ Nat.gcd G H = Nat.gcd A B) (fun _ ng => (intOf ng).toNat)
    case atStart => exact ⟨A, B, by go_num, by go_num, by omega, by omega, rfl⟩
    case round =>
      obtain ⟨G, H, rfl, rfl, b1, b2, heq⟩ := hrel
      have HE := Lib.hid heq
      clear heq
      by_cases hH : H = 0
      · subst hH
        go_wp2
        go_ret
        have := HE.out
        rw [Nat.gcd_zero_right] at this
        exact ⟨ret_int (by rw [this]; simp [gcdI]), rfl⟩
      · have hpos : 0 < H := by omega
        have hlt := Nat.mod_lt G hpos
        have hm1 : 0 ≤ (G : Int) % H := by rw [emod_nat]; exact Int.natCast_nonneg _
        have hg : Nat.gcd H (G % H) = Nat.gcd G H := by rw [Nat.gcd_comm H (G % H), ← Nat.gcd_rec, Nat.gcd_comm]
        have HG := Lib.hid hg
        clear hg hH
        go_wp2
        go_round
        case rel => exact ⟨H, G % H, rfl, by rw [emod_nat], b2, by omega, HG.out.trans HE.out⟩
        case measure => simp only [intOf]; rw [emod_nat]; omega

end Go.Proofs.Ytlpfifdocgljnaa

/- Contracts of greatestDivisor and CommonDivisor, of the program and of the model. -/
namespace Go.Proofs.Ytlpfifdocgljnaa
open Go.RowKit Go.WideShapes Go.ChangeShapes Go.ChangeAt

set_option maxHeartbeats 1000000 in
theorem greatestDivisor_any (a b : Int) (w : World) (h1 : -4000000000000000000 ≤ a) (h2 : a ≤ 4000000000000000000) (h3 : -4000000000000000000 ≤ b) (h4 : b ≤ 4000000000000000000) :
    Calls Try.prog 109 #[.int .i64 a, .int .i64 b] w fun e w' => e = .returned (.int .i64 (gcdI a b)) ∧ Below w.heap.size w w' := by
  go_enter Try.func109, Try.ntmps109
  go_wp2
  go_loopw [0, 1] (fun x y wr => ∃ (X Y : Int), x = .int .i64 X ∧ y = .int .i64 Y ∧ -4000000000000000000 ≤ X ∧ X ≤ 4000000000000000000 ∧ -4000000000000000000 ≤ Y ∧ Y ≤ 4000000000000000000 ∧ gcdI X Y = gcdI a b ∧ Below w.heap.size w wr) (fun _ y _ => (intOf y).natAbs)
  case atStart => exact ⟨a, b, rfl, rfl, h1, h2, h3, h4, rfl, Below.refl _ _⟩
  case round =>
    obtain ⟨X, Y, rfl, rfl, b1, b2, b3, b4, heq, hbel⟩ := hrel
    have HE := Lib.hid heq
    have HB := Lib.hid hbel
    clear heq hbel
    by_cases hY : Y = 0
    · subst hY
      have h0 : gcdI X 0 = X.natAbs := by simp [gcdI]
      have H0 := Lib.hid h0
      clear h0
      by_cases hX : X < 0
      · go_wp2
        go_ret
        exact ⟨ret_int (by rw [← HE.out, H0.out]; omega), HB.out⟩
      · go_wp2
        go_ret
        exact ⟨ret_int (by rw [← HE.out, H0.out]; omega), HB.out⟩
    · obtain ⟨n1, n2⟩ := ne_facts hY
      have hlt : (X.tmod Y).natAbs < Y.natAbs := by rw [Int.natAbs_tmod]; exact Nat.mod_lt _ (by omega)
      have hg : gcdI Y (X.tmod Y) = gcdI X Y := by
        unfold gcdI; rw [Int.natAbs_tmod, Nat.gcd_comm Y.natAbs, ← Nat.gcd_rec, Nat.gcd_comm]
      have HG := Lib.hid hg
      have HL := Lib.hid hlt
      have c1 : -4000000000000000000 ≤ X.tmod Y ∧ X.tmod Y ≤ 4000000000000000000 := by omega
      obtain ⟨c1, c2⟩ := c1
      clear hg hlt
      go_wp2
      go_quiet (fail)
      go_wp2
      go_roundw
      case rel => exact ⟨Y, X.tmod Y, rfl, rfl, b3, b4, c1, c2, HG.out.trans HE.out, below_drewN HB.out _⟩
      case measure => simp only [intOf]; exact HL.out


end Go.Proofs.Ytlpfifdocgljnaa

/- Contracts of BinomialNumber and BinomialDivisor, of the program and of the model. -/
namespace Go.Proofs.Ytlpfifdocgljnaa
open Go.RowKit Go.WideShapes Go.ChangeShapes Go.ChangeAt


/-- the greatest common divisor of the first numbers of choices -/
def lz (n : Int) : Nat → Int
  | 0 => 0
  | k + 1 => gcdI (lz n k) (binI n (k + 1 : Nat))
theorem gcdI_le (a : Int) {b : Int} (hb : 0 < b) : 0 ≤ gcdI a b ∧ gcdI a b ≤ b := by
  have := Nat.le_of_dvd (show 0 < b.natAbs by omega) (Nat.gcd_dvd_right a.natAbs b.natAbs)
  unfold gcdI; omega
theorem lz_bd {n : Int} (h2 : n ≤ 60) : ∀ k : Nat, (k : Int) ≤ n → 0 ≤ lz n k ∧ lz n k ≤ 118264581564861424
  | 0, _ => by simp [lz]
  | k + 1, h => by
    have hp : 0 < binI n (k + 1 : Nat) := by
      have := Num.bin_pos n.toNat (k + 1) (by omega)
      unfold binI; simp only [Int.toNat_natCast]; omega
    have h3 := gcdI_le (lz n k) hp
    have h4 := binI_bd (k := (k + 1 : Nat)) h2
    rw [lz]; omega

set_option maxHeartbeats 1000000 in
theorem l01Lazard_any (n : Int) (w : World) (h1 : 2 ≤ n) (h2 : n ≤ 60) :
    Calls Try.prog 83 #[.int .i64 n] w fun e w' => e = .returned (.int .i64 (lz n (n.toNat - 1))) ∧ Below w.heap.size w w' := by
  go_enter Try.func83, Try.ntmps83
  go_wp2
  go_loopw [3, 4] (fun g k wr => ∃ K : Nat, (K : Int) < n ∧ g = .int .i64 (lz n K) ∧ k = .int .i64 (K + 1 : Nat) ∧ Below w.heap.size w wr) (fun _ k _ => n.toNat - (intOf k).toNat)
  case atStart => exact ⟨0, by omega, rfl, rfl, Below.refl _ _⟩
  case round =>
    obtain ⟨K, hK, rfl, rfl, hbel⟩ := hrel
    have HB := Lib.hid hbel
    have hsz := hbel.size
    clear hbel
    obtain ⟨l1, l2⟩ := lz_bd h2 K (by omega)
    obtain ⟨T, hT⟩ : ∃ T, K + 1 = T := ⟨_, rfl⟩
    have HL := Lib.hid (show lz n T = gcdI (lz n K) (binI n T) by rw [← hT, lz])
    have hT' : (T : Int) = K + 1 := by omega
    rw [hT] at *
    have HT := Lib.hid hT
    clear hT
    obtain ⟨t1, t2⟩ : 1 ≤ (T : Int) ∧ (T : Int) ≤ n := by omega
    have HT' := Lib.hid hT'
    clear hT'
    by_cases hlt : (T : Int) < n
    · obtain ⟨q1, q2⟩ := binI_bd (n := n) (k := (T : Int)) h2
      go_wp2_with (first | (go_at_call 84; refine (l01Binomial_any _ _ _ (by omega) (by omega) (by omega) (by omega)).mono ?_; rintro e w1 ⟨rfl, hb1⟩) | (go_at_call 73; refine (l01Gcd_any _ _ _ (by omega) (by omega) (by omega) (by omega)).mono ?_; rintro e w2 ⟨rfl, rfl⟩))
      go_roundw
      case rel => exact ⟨T, hlt, by rw [HL.out], by go_num, HB.out.trans (hb1.mono hsz)⟩
      case measure => simp only [intOf]; omega
    · go_wp2
      go_ret
      exact ⟨ret_int (by congr 1; have := HT'.out; omega), HB.out⟩

set_option maxHeartbeats 1000000 in
theorem BinomialDivisor_any (n : Int) (w : World) :
    Calls Try.prog 87 #[.int .i64 n] w fun e w' => e = .returned (.tuple #[.int .i64 (if inB n 2 60 then lz n (n.toNat - 1) else 0), .int .i64 (if inB n 2 60 then 0 else 2)]) ∧ Below w.heap.size w w' := by
  by_cases hn : inB n 2 60 = true
  · obtain ⟨h1, h2⟩ := (inB_iff _ _ _).1 hn
    go_enter Try.func87, Try.ntmps87
    go_wp2_with (go_at_call 53; refine (isWithin_any _ _ _ _).mono ?_; rintro e w' ⟨rfl, rfl⟩)
    go_loopw [4, 5] (fun g k wr => ∃ K : Nat, (K : Int) < n ∧ g = .int .i64 (lz n K) ∧ k = .int .i64 (K + 1 : Nat) ∧ Below w.heap.size w wr) (fun _ k _ => n.toNat - (intOf k).toNat)
    case atStart => exact ⟨0, by omega, rfl, rfl, Below.refl _ _⟩
    case round =>
      obtain ⟨K, hK, rfl, rfl, hbel⟩ := hrel
      have HB := Lib.hid hbel
      have hsz := hbel.size
      clear hbel
      obtain ⟨l1, l2⟩ := lz_bd h2 K (by omega)
      obtain ⟨T, hT⟩ : ∃ T, K + 1 = T := ⟨_, rfl⟩
      have HL := Lib.hid (show lz n T = gcdI (lz n K) (binI n T) by rw [← hT, lz])
      have hT' : (T : Int) = K + 1 := by omega
      rw [hT] at *
      have HT := Lib.hid hT
      clear hT
      obtain ⟨t1, t2⟩ : 1 ≤ (T : Int) ∧ (T : Int) ≤ n := by omega
      have HT' := Lib.hid hT'
      clear hT'
      by_cases hlt : (T : Int) < n
      · obtain ⟨q1, q2⟩ := binI_bd (n := n) (k := (T : Int)) h2
        go_wp2_with (first | (go_at_call 88; refine (choices_any _ _ _ (by omega) (by omega) (by omega) (by omega)).mono ?_; rintro e w1 ⟨rfl, rfl⟩) | (go_at_call 109; refine (greatestDivisor_any _ _ _ (by omega) (by omega) (by omega) (by omega)).mono ?_; rintro e w2 ⟨rfl, hb2⟩))
        go_roundw
        case rel => exact ⟨T, hlt, by rw [HL.out], by go_num, HB.out.trans (hb2.mono hsz)⟩
        case measure => simp only [intOf]; omega
      · go_wp2
        go_ret2
        exact ⟨ret_ii (by first | (rw [if_pos hn]; congr 1; have := HT'.out; omega) | (congr 1; have := HT'.out; omega)) (by first | rfl | rw [if_pos hn]), HB.out⟩
  · have hn' : inB n 2 60 = false := by simpa using hn
    go_enter Try.func87, Try.ntmps87
    go_wp2_with (go_at_call 53; refine (isWithin_any _ _ _ _).mono ?_; rintro e w' ⟨rfl, rfl⟩)
    go_ret2
    exact ⟨ret_ii (by first | rfl | rw [if_neg hn]) (by first | rfl | rw [if_neg hn]), Below.refl _ _⟩
end Go.Proofs.Ytlpfifdocgljnaa

/- Plain theory of power series over the integers, and of congruence modulo m up to a degree: no program in sight. -/
namespace Go.Proofs.Ytlpfifdocgljnaa
namespace Ser

/-- the series behind its constant -/
def sh (a : Nat → Int) : Nat → Int := fun i => a (i + 1)
/-- the coefficient of t^n in a b -/
def cv : Nat → (Nat → Int) → (Nat → Int) → Int
  | 0, a, b => a 0 * b 0
  | n + 1, a, b => a 0 * b (n + 1) + cv n (sh a) b
/-- the product -/
def mul (a b : Nat → Int) : Nat → Int := fun n => cv n a b
theorem cv_zero (a b : Nat → Int) : cv 0 a b = a 0 * b 0 := rfl
theorem cv_succ (n : Nat) (a b : Nat → Int) : cv (n + 1) a b = a 0 * b (n + 1) + cv n (sh a) b := rfl
theorem mul_at (a b : Nat → Int) (n : Nat) : mul a b n = cv n a b := rfl

theorem cv_add (a a' : Nat → Int) (b : Nat → Int) : ∀ n, cv n (fun i => a i + a' i) b = cv n a b + cv n a' b := by
  intro n
  induction n generalizing a a' with
  | zero => simp only [cv_zero]; exact Int.add_mul _ _ _
  | succ n ih =>
    simp only [cv_succ]
    have := ih (sh a) (sh a')
    have e : (sh fun i => a i + a' i) = fun i => sh a i + sh a' i := rfl
    rw [e, this, Int.add_mul]
    omega
theorem cv_smul (c : Int) (a b : Nat → Int) : ∀ n, cv n (fun i => c * a i) b = c * cv n a b := by
  intro n
  induction n generalizing a with
  | zero => simp only [cv_zero]; exact Int.mul_assoc _ _ _
  | succ n ih =>
    simp only [cv_succ]
    have e : (sh fun i => c * a i) = fun i => c * sh a i := rfl
    rw [e, ih, Int.mul_assoc, Int.mul_add]
theorem cv_zero_left (b : Nat → Int) : ∀ n, cv n (fun _ => 0) b = 0 := by
  intro n
  induction n with
  | zero => simp [cv_zero]
  | succ n ih =>
    rw [cv_succ]
    have e : (sh fun _ => (0 : Int)) = fun _ => 0 := rfl
    rw [e, ih]; simp
/-- the same recursion from the other side -/
theorem cv_succ' (a b : Nat → Int) : ∀ n, cv (n + 1) a b = cv n a (sh b) + a (n + 1) * b 0 := by
  intro n
  induction n generalizing a with
  | zero => simp only [cv_succ, cv_zero, sh]
  | succ n ih =>
    rw [cv_succ (n + 1), ih (sh a), cv_succ n a (sh b)]
    simp only [sh]
    omega
theorem cv_comm (a b : Nat → Int) : ∀ n, cv n a b = cv n b a := by
  intro n
  induction n generalizing a with
  | zero => simp only [cv_zero]; exact Int.mul_comm _ _
  | succ n ih => rw [cv_succ, cv_succ' b a, ih, Int.mul_comm (a 0)]; omega
theorem mul_comm (a b : Nat → Int) : mul a b = mul b a := funext fun n => cv_comm a b n
theorem sh_mul (a b : Nat → Int) : sh (mul a b) = fun i => a 0 * sh b i + mul (sh a) b i := rfl
theorem cv_assoc (a b c : Nat → Int) : ∀ n, cv n (mul a b) c = cv n a (mul b c) := by
  intro n
  induction n generalizing a with
  | zero => simp only [cv_zero, mul_at]; exact Int.mul_assoc _ _ _
  | succ n ih =>
    rw [cv_succ, sh_mul, cv_add, cv_smul, ih, cv_succ n a, mul_at, mul_at, cv_zero, cv_succ, Int.mul_add, Int.mul_assoc]
    omega
theorem mul_assoc (a b c : Nat → Int) : mul (mul a b) c = mul a (mul b c) := funext fun n => cv_assoc a b c n
theorem add_mul (a a' b : Nat → Int) : mul (fun i => a i + a' i) b = fun i => mul a b i + mul a' b i := funext fun n => cv_add a a' b n
theorem mul_add (a b b' : Nat → Int) : mul a (fun i => b i + b' i) = fun i => mul a b i + mul a b' i := by
  rw [mul_comm, add_mul, mul_comm b, mul_comm b']
theorem smul_mul (c : Int) (a b : Nat → Int) : mul (fun i => c * a i) b = fun i => c * mul a b i := funext fun n => cv_smul c a b n
theorem mul_smul (c : Int) (a b : Nat → Int) : mul a (fun i => c * b i) = fun i => c * mul a b i := by
  rw [mul_comm, smul_mul, mul_comm b]

/-- c t^k -/
def mon (k : Nat) (c : Int) : Nat → Int := fun n => if n = k then c else 0
theorem sh_mon0 (c : Int) : sh (mon 0 c) = fun _ => 0 := by funext i; simp [sh, mon]
theorem cv_const (c : Int) (b : Nat → Int) : ∀ n, cv n (mon 0 c) b = c * b n := by
  intro n
  cases n with
  | zero => simp [cv_zero, mon]
  | succ n => rw [cv_succ, sh_mon0, cv_zero_left]; simp [mon]
theorem const_mul (c : Int) (b : Nat → Int) : mul (mon 0 c) b = fun i => c * b i := funext fun n => cv_const c b n
theorem one_mul (b : Nat → Int) : mul (mon 0 1) b = b := by rw [const_mul]; funext i; simp
theorem mul_one (b : Nat → Int) : mul b (mon 0 1) = b := by rw [mul_comm, one_mul]

/-- equal up to t^n -/
def Eq (m : Int) (n : Nat) (a b : Nat → Int) : Prop := ∀ i, i ≤ n → a i % m = b i % m
theorem Eq.refl (m : Int) (n : Nat) (a : Nat → Int) : Eq m n a a := fun _ _ => rfl
theorem Eq.of (m : Int) (n : Nat) {a b : Nat → Int} (h : ∀ i, i ≤ n → a i = b i) : Eq m n a b := fun i hi => by rw [h i hi]
theorem Eq.symm {m : Int} {n : Nat} {a b : Nat → Int} (h : Eq m n a b) : Eq m n b a := fun i hi => (h i hi).symm
theorem Eq.trans {m : Int} {n : Nat} {a b c : Nat → Int} (h : Eq m n a b) (k : Eq m n b c) : Eq m n a c := fun i hi => (h i hi).trans (k i hi)
theorem Eq.less {m : Int} {n k : Nat} {a b : Nat → Int} (h : Eq m n a b) (hk : k ≤ n) : Eq m k a b := fun i hi => h i (Nat.le_trans hi hk)
theorem modEq (m x y : Int) : x % m = y % m ↔ m ∣ x - y := ⟨fun h => Int.dvd_of_emod_eq_zero (Int.emod_eq_emod_iff_emod_sub_eq_zero.1 h), fun h => Int.emod_eq_emod_iff_emod_sub_eq_zero.2 (Int.emod_eq_zero_of_dvd h)⟩
theorem add_cong {m x y z u : Int} (h : x % m = y % m) (k : z % m = u % m) : (x + z) % m = (y + u) % m := by
  rw [Int.add_emod, h, k, ← Int.add_emod]
theorem sub_cong {m x y z u : Int} (h : x % m = y % m) (k : z % m = u % m) : (x - z) % m = (y - u) % m := by
  rw [Int.sub_emod, h, k, ← Int.sub_emod]
theorem mul_cong {m x y z u : Int} (h : x % m = y % m) (k : z % m = u % m) : (x * z) % m = (y * u) % m := by
  rw [Int.mul_emod, h, k, ← Int.mul_emod]
theorem cv_congr {m : Int} {a a' b b' : Nat → Int} : ∀ n, Eq m n a a' → Eq m n b b' → cv n a b % m = cv n a' b' % m := by
  intro n
  induction n generalizing a a' with
  | zero => intro h k; exact mul_cong (h 0 (Nat.le_refl _)) (k 0 (Nat.le_refl _))
  | succ n ih =>
    intro h k
    exact add_cong (mul_cong (h 0 (Nat.zero_le _)) (k _ (Nat.le_refl _))) (ih (fun i hi => h (i + 1) (by omega)) (k.less (by omega)))
theorem Eq.mul {m : Int} {n : Nat} {a a' b b' : Nat → Int} (h : Eq m n a a') (k : Eq m n b b') : Eq m n (mul a b) (mul a' b') :=
  fun i hi => cv_congr i (h.less hi) (k.less hi)
theorem Eq.add {m : Int} {n : Nat} {a a' b b' : Nat → Int} (h : Eq m n a a') (k : Eq m n b b') : Eq m n (fun i => a i + b i) (fun i => a' i + b' i) :=
  fun i hi => add_cong (h i hi) (k i hi)
theorem Eq.sub {m : Int} {n : Nat} {a a' b b' : Nat → Int} (h : Eq m n a a') (k : Eq m n b b') : Eq m n (fun i => a i - b i) (fun i => a' i - b' i) :=
  fun i hi => sub_cong (h i hi) (k i hi)
theorem Eq.smul {m : Int} {n : Nat} {b b' : Nat → Int} (c : Int) (k : Eq m n b b') : Eq m n (fun i => c * b i) (fun i => c * b' i) :=
  fun i hi => mul_cong rfl (k i hi)
/-- a product with a series without a constant asks one coefficient less of the other -/
theorem cv_congr_curve {m : Int} {f f' b b' : Nat → Int} {n : Nat} (hf : f 0 % m = 0) (hf' : f' 0 % m = 0) (h : Eq m n f f') (k : ∀ i, i < n → b i % m = b' i % m) : cv n f b % m = cv n f' b' % m := by
  cases n with
  | zero =>
    rw [cv_zero, cv_zero, Int.mul_emod, hf, Int.mul_emod (f' 0), hf']; simp
  | succ n =>
    rw [cv_succ, cv_succ]
    refine add_cong ?_ (cv_congr n (fun i hi => h (i + 1) (by omega)) (fun i hi => k i (by omega)))
    rw [Int.mul_emod, hf, Int.mul_emod (f' 0), hf']; simp

/-! sums of equal many terms -/
def psum (f : Nat → Int) : Nat → Int
  | 0 => 0
  | k + 1 => psum f k + f k
theorem psum_left (f : Nat → Int) : ∀ k, psum f (k + 1) = f 0 + psum (fun i => f (i + 1)) k := by
  intro k
  induction k with
  | zero => simp [psum]
  | succ k ih => rw [psum, ih, psum]; omega
theorem psum_ext {f g : Nat → Int} : ∀ k, (∀ i, i < k → f i = g i) → psum f k = psum g k := by
  intro k
  induction k with
  | zero => intro _; rfl
  | succ k ih => intro h; rw [psum, psum, ih (fun i hi => h i (by omega)), h k (by omega)]
theorem cv_psum : ∀ (n : Nat) (a b : Nat → Int), cv n a b = psum (fun i => a i * b (n - i)) (n + 1) := by
  intro n
  induction n with
  | zero => intro a b; simp [cv_zero, psum]
  | succ n ih =>
    intro a b
    rw [psum_left, cv_succ, ih]
    congr 1
    exact psum_ext _ (fun i hi => by simp [sh])

/-! composition, by Horner's rule -/
def hor : Nat → (Nat → Int) → (Nat → Int) → Nat → Int
  | 0, a, _ => mon 0 (a 0)
  | k + 1, a, f => fun i => mon 0 (a 0) i + mul f (hor k (sh a) f) i
def comp (a f : Nat → Int) : Nat → Int := fun n => hor n a f n
theorem hor_zero (a f : Nat → Int) : hor 0 a f = mon 0 (a 0) := rfl
theorem hor_succ (k : Nat) (a f : Nat → Int) : hor (k + 1) a f = fun i => mon 0 (a 0) i + mul f (hor k (sh a) f) i := rfl
theorem cv_ext {a a' b b' : Nat → Int} : ∀ n, (∀ i, i ≤ n → a i = a' i) → (∀ i, i ≤ n → b i = b' i) → cv n a b = cv n a' b' := by
  intro n
  induction n generalizing a a' with
  | zero => intro h k; rw [cv_zero, cv_zero, h 0 (Nat.le_refl _), k 0 (Nat.le_refl _)]
  | succ n ih =>
    intro h k
    rw [cv_succ, cv_succ, h 0 (Nat.zero_le _), k _ (Nat.le_refl _)]
    congr 1
    exact ih (fun i hi => h (i + 1) (by omega)) (fun i hi => k i (by omega))
theorem cv_ext_curve {f b b' : Nat → Int} {n : Nat} (hf : f 0 = 0) (k : ∀ i, i < n → b i = b' i) : cv n f b = cv n f b' := by
  cases n with
  | zero => rw [cv_zero, cv_zero, hf]; simp
  | succ n => rw [cv_succ, cv_succ, hf, cv_ext n (fun _ _ => rfl) (fun i hi => k i (by omega))]; simp
theorem hor_stable {f : Nat → Int} (hf : f 0 = 0) : ∀ (k : Nat) (a : Nat → Int) (i : Nat), i ≤ k → hor (k + 1) a f i = hor k a f i := by
  intro k
  induction k with
  | zero =>
    intro a i hi
    obtain rfl : i = 0 := by omega
    rw [hor_succ]
    simp [mul_at, cv_zero, hf, hor_zero]
  | succ k ih =>
    intro a i hi
    rw [hor_succ (k + 1), hor_succ k a]
    dsimp only
    rw [mul_at, mul_at, cv_ext_curve hf (fun j hj => ih (sh a) j (by omega))]
theorem hor_comp {f : Nat → Int} (hf : f 0 = 0) (a : Nat → Int) (k i : Nat) (h : i ≤ k) : hor k a f i = comp a f i := by
  induction k with
  | zero => obtain rfl : i = 0 := by omega
            rfl
  | succ k ih =>
    by_cases hi : i ≤ k
    · rw [hor_stable hf k a i hi, ih hi]
    · obtain rfl : i = k + 1 := by omega
      rfl
theorem comp_eq {f : Nat → Int} (hf : f 0 = 0) (a : Nat → Int) : comp a f = fun i => mon 0 (a 0) i + mul f (comp (sh a) f) i := by
  funext i
  rw [← hor_comp hf a (i + 1) i (by omega), hor_succ]
  dsimp only
  rw [mul_at, mul_at]
  congr 1
  exact cv_ext _ (fun _ _ => rfl) (fun j hj => hor_comp hf _ _ _ hj)
theorem comp_zero (a : Nat → Int) (f : Nat → Int) : comp a f 0 = a 0 := by simp [comp, hor, mon]
theorem comp_add {f : Nat → Int} (hf : f 0 = 0) : ∀ (n : Nat) (a b : Nat → Int), comp (fun i => a i + b i) f n = comp a f n + comp b f n := by
  intro n
  induction n using Nat.strongRecOn with
  | ind n ih =>
    intro a b
    rw [comp_eq hf (fun i => a i + b i), comp_eq hf a, comp_eq hf b]
    dsimp only
    have e : (sh fun i => a i + b i) = fun i => sh a i + sh b i := rfl
    rw [e, mul_at, mul_at, mul_at, cv_ext_curve (b' := fun i => comp (sh a) f i + comp (sh b) f i) hf (fun j hj => ih j hj _ _)]
    rw [cv_comm, cv_add, cv_comm _ f, cv_comm _ f]
    have : mon 0 (a 0 + b 0) n = mon 0 (a 0) n + mon 0 (b 0) n := by unfold mon; split <;> omega
    rw [this]; omega
theorem comp_smul {f : Nat → Int} (hf : f 0 = 0) (c : Int) : ∀ (n : Nat) (a : Nat → Int), comp (fun i => c * a i) f n = c * comp a f n := by
  intro n
  induction n using Nat.strongRecOn with
  | ind n ih =>
    intro a
    rw [comp_eq hf (fun i => c * a i), comp_eq hf a]
    dsimp only
    have e : (sh fun i => c * a i) = fun i => c * sh a i := rfl
    rw [e, mul_at, mul_at, cv_ext_curve (b' := fun i => c * comp (sh a) f i) hf (fun j hj => ih j hj _)]
    rw [cv_comm, cv_smul, cv_comm _ f, Int.mul_add]
    have : mon 0 (c * a 0) n = c * mon 0 (a 0) n := by unfold mon; split <;> simp
    rw [this]
theorem comp_mul {f : Nat → Int} (hf : f 0 = 0) : ∀ (n : Nat) (a b : Nat → Int), comp (mul a b) f n = cv n (comp a f) (comp b f) := by
  intro n
  induction n using Nat.strongRecOn with
  | ind n ih =>
    intro a b
    have e1 : comp (mul a b) f n = mon 0 (a 0 * b 0) n + cv n f (fun i => a 0 * comp (sh b) f i + mul (comp (sh a) f) (comp b f) i) := by
      rw [comp_eq hf (mul a b)]
      dsimp only
      rw [mul_at, sh_mul]
      congr 1
      refine cv_ext_curve hf (fun j hj => ?_)
      rw [comp_add hf, comp_smul hf, ih j hj]
      rfl
    have e2 : cv n (comp a f) (comp b f) = a 0 * comp b f n + cv n f (mul (comp (sh a) f) (comp b f)) := by
      rw [comp_eq hf a, cv_add, cv_const, cv_assoc]
    rw [e1, e2, cv_comm f, cv_add, cv_smul, cv_comm _ f, cv_comm _ f, comp_eq hf b]
    dsimp only
    rw [mul_at, Int.mul_add]
    have : mon 0 (a 0 * b 0) n = a 0 * mon 0 (b 0) n := by unfold mon; split <;> simp
    rw [this]; omega
theorem comp_comp {f g : Nat → Int} (hf : f 0 = 0) (hg : g 0 = 0) : ∀ (n : Nat) (a : Nat → Int), comp (comp a f) g n = comp a (comp f g) n := by
  have hfg : comp f g 0 = 0 := by rw [comp_zero, hf]
  intro n
  induction n using Nat.strongRecOn with
  | ind n ih =>
    intro a
    rw [comp_eq hf a, comp_add hg, comp_mul hg, comp_eq hfg a]
    dsimp only
    rw [mul_at, cv_ext_curve hfg (fun j hj => ih j hj (sh a))]
    congr 1
    rw [comp_eq hg]
    rw [sh_mon0]
    have e : comp (fun _ => 0) g = fun _ => 0 := by
      funext i
      have := comp_smul hg 0 i (fun _ => 0)
      simpa using this
    rw [e]
    dsimp only
    rw [mul_at, cv_comm, cv_zero_left]
    simp [mon]
/-- t is the unit of composition on both sides -/
theorem sh_t : sh (mon 1 1) = mon 0 1 := by funext i; simp [sh, mon]
theorem comp_const {f : Nat → Int} (hf : f 0 = 0) (c : Int) : comp (mon 0 c) f = mon 0 c := by
  rw [comp_eq hf, sh_mon0]
  have e : comp (fun _ => 0) f = fun _ => 0 := by
    funext i
    have := comp_smul hf 0 i (fun _ => 0)
    simpa using this
  funext i
  rw [e, mul_at, cv_comm, cv_zero_left]
  simp [mon]
theorem t_comp {f : Nat → Int} (hf : f 0 = 0) : comp (mon 1 1) f = f := by
  rw [comp_eq hf, sh_t, comp_const hf, mul_one]
  funext i
  simp [mon]
theorem cv_t (b : Nat → Int) (n : Nat) : cv n (mon 1 1) b = if n = 0 then 0 else b (n - 1) := by
  cases n with
  | zero => simp [cv_zero, mon]
  | succ n => rw [cv_succ, sh_t, cv_const]; simp [mon]
theorem comp_t : ∀ (n : Nat) (a : Nat → Int), comp a (mon 1 1) n = a n := by
  intro n
  induction n with
  | zero => intro a; rw [comp_zero]
  | succ n ih =>
    intro a
    rw [comp_eq (by simp [mon])]
    dsimp only
    rw [mul_at, cv_t, if_neg (by omega), Nat.add_sub_cancel, ih]
    simp [mon, sh]
/-- composition respects congruence -/
theorem comp_congr {m : Int} {f f' : Nat → Int} (hf : f 0 = 0) (hf' : f' 0 = 0) : ∀ (n : Nat) (a a' : Nat → Int), Eq m n a a' → Eq m n f f' → comp a f n % m = comp a' f' n % m := by
  intro n
  induction n using Nat.strongRecOn with
  | ind n ih =>
    intro a a' ha h
    rw [comp_eq hf, comp_eq hf']
    dsimp only
    refine add_cong ?_ ?_
    · unfold mon
      split
      · exact ha 0 (Nat.zero_le _)
      · rfl
    · rw [mul_at, mul_at]
      exact cv_congr_curve (by simp [hf]) (by simp [hf']) h (fun i hi => ih i hi _ _ (fun j hj => ha (j + 1) (by omega)) (h.less (by omega)))
theorem Eq.comp {m : Int} {n : Nat} {f f' a a' : Nat → Int} (hf : f 0 = 0) (hf' : f' 0 = 0) (ha : Eq m n a a') (h : Eq m n f f') : Eq m n (comp a f) (comp a' f') :=
  fun i hi => comp_congr hf hf' i a a' (ha.less hi) (h.less hi)
/-- an inverse on the left and one on the right are the same -/
theorem left_right {m : Int} {n : Nat} {f g h : Nat → Int} (hf : f 0 = 0) (hh : h 0 = 0) (l : Eq m n (comp g f) (mon 1 1)) (r : Eq m n (comp f h) (mon 1 1)) : Eq m n g h := by
  have hfh : comp f h 0 = 0 := by rw [comp_zero, hf]
  have a1 : Eq m n (comp g (comp f h)) g := (Eq.comp hfh (by simp [mon]) (Eq.refl m n g) r).trans (Eq.of m n (fun i _ => comp_t i g))
  have a2 : Eq m n (comp (comp g f) h) h := (Eq.comp hh hh l (Eq.refl m n h)).trans (Eq.of m n (fun i _ => by rw [t_comp hh]))
  have a3 : Eq m n (comp (comp g f) h) (comp g (comp f h)) := Eq.of m n (fun i _ => comp_comp hf hh i g)
  exact (a1.symm.trans a3.symm).trans a2

/-! the derivative -/
def th (a : Nat → Int) : Nat → Int := fun n => (n : Int) * a n
theorem th_mul (a b : Nat → Int) : ∀ n, cv n (th a) b + cv n a (th b) = (n : Int) * cv n a b := by
  intro n
  induction n generalizing a with
  | zero => simp [cv_zero, th]
  | succ n ih =>
    have e : sh (th a) = fun i => th (sh a) i + sh a i := by
      funext i
      simp only [sh, th]
      rw [show ((i + 1 : Nat) : Int) = (i : Int) + 1 by omega, Int.add_mul, Int.one_mul]
    have h1 := ih (sh a)
    have t1 : th a 0 = 0 := by simp [th]
    have t2 : th b (n + 1) = ((n : Int) + 1) * b (n + 1) := by simp [th]
    have t3 : ((n + 1 : Nat) : Int) = (n : Int) + 1 := by omega
    have e2 : a 0 * (((n : Int) + 1) * b (n + 1)) = ((n : Int) + 1) * (a 0 * b (n + 1)) := by rw [← Int.mul_assoc, Int.mul_comm (a 0), Int.mul_assoc]
    have e4 : ((n : Int) + 1) * cv n (sh a) b = (n : Int) * cv n (sh a) b + cv n (sh a) b := by rw [Int.add_mul, Int.one_mul]
    rw [cv_succ, cv_succ, cv_succ, e, cv_add, t1, t2, t3, Int.mul_add, e2, e4, Int.zero_mul]
    omega
/-- the derivative -/
def der (a : Nat → Int) : Nat → Int := fun n => ((n : Int) + 1) * a (n + 1)
theorem der_th (a : Nat → Int) : der a = sh (th a) := by funext i; simp [der, sh, th]
theorem der_mul (a b : Nat → Int) (n : Nat) : der (mul a b) n = cv n (der a) b + cv n a (der b) := by
  have h := th_mul a b (n + 1)
  rw [cv_succ n (th a), cv_succ' a (th b)] at h
  rw [der_th a, der_th b]
  simp only [th, der, mul_at] at *
  simp at h
  omega
end Ser
end Go.Proofs.Ytlpfifdocgljnaa

/- Lists of coefficients modulo m up to a degree: the steps of the algorithms on them, of the program and of the model. Plain: no program in sight. -/
namespace Go.Proofs.Ytlpfifdocgljnaa
namespace Ser

/-- the series with a list of coefficients -/
def co (l : List Int) : Nat → Int := fun i => l[i]?.getD 0
/-- the list of the coefficients up to a degree, modulo m -/
def cut (m : Int) (d : Nat) (a : Nat → Int) : List Int := (List.range (d + 1)).map fun n => a n % m
theorem cut_length (m : Int) (d : Nat) (a : Nat → Int) : (cut m d a).length = d + 1 := by simp [cut]
theorem co_cut {m : Int} {d : Nat} {a : Nat → Int} {i : Nat} (h : i ≤ d) : co (cut m d a) i = a i % m := by
  unfold co cut
  rw [List.getElem?_map, List.getElem?_range (by omega)]; rfl
theorem co_over {l : List Int} {i : Nat} (h : l.length ≤ i) : co l i = 0 := by
  unfold co
  rw [List.getElem?_eq_none h]; rfl
theorem co_cut_eq (m : Int) (d : Nat) (a : Nat → Int) : Eq m d (co (cut m d a)) a := by
  intro i hi; rw [co_cut hi, Int.emod_emod]
theorem cut_congr {m : Int} {d : Nat} {a b : Nat → Int} (h : Eq m d a b) : cut m d a = cut m d b := by
  unfold cut
  refine List.map_congr_left (fun i hi => h i ?_)
  have := List.mem_range.1 hi
  omega
theorem list_ext {l k : List Int} (h : l.length = k.length) (hc : ∀ i, i < l.length → co l i = co k i) : l = k := by
  refine List.ext_getElem h (fun i h1 h2 => ?_)
  have := hc i h1
  unfold co at this
  rw [List.getElem?_eq_getElem h1, List.getElem?_eq_getElem h2] at this
  exact this
/-- the numbers of l are remainders -/
def Red (m : Int) (l : List Int) : Prop := ∀ i, 0 ≤ co l i ∧ co l i < m
theorem cut_red {m : Int} (hm : 0 < m) (d : Nat) (a : Nat → Int) : Red m (cut m d a) := by
  intro i
  by_cases h : i ≤ d
  · rw [co_cut h]; exact ⟨Int.emod_nonneg _ (by omega), Int.emod_lt_of_pos _ hm⟩
  · rw [co_over (by rw [cut_length]; omega)]; omega
theorem cut_self {m : Int} {d : Nat} {l : List Int} (hl : l.length = d + 1) (h : Red m l) : cut m d (co l) = l := by
  refine list_ext (by rw [cut_length, hl]) (fun i hi => ?_)
  rw [cut_length] at hi
  rw [co_cut (by omega), Int.emod_eq_of_lt (h i).1 (h i).2]
theorem red_unique {m : Int} {d : Nat} {l k : List Int} (hl : l.length = d + 1) (hk : k.length = d + 1) (h1 : Red m l) (h2 : Red m k) (h : Eq m d (co l) (co k)) : l = k := by
  rw [← cut_self hl h1, ← cut_self hk h2]; exact cut_congr h
theorem co_set {l : List Int} {i : Nat} (h : i < l.length) (x : Int) (j : Nat) : co (l.set i x) j = if j = i then x else co l j := by
  unfold co
  rw [List.getElem?_set]
  by_cases hj : i = j
  · subst hj; simp [h]
  · rw [if_neg hj, if_neg (fun e => hj e.symm)]
theorem co_app {l k : List Int} (i : Nat) : co (l ++ k) i = if i < l.length then co l i else co k (i - l.length) := by
  unfold co
  rw [List.getElem?_append]
  split <;> rfl
theorem co_zeros (n i : Nat) : co (List.replicate n 0) i = 0 := by
  unfold co
  rw [List.getElem?_replicate]
  split <;> rfl
theorem co_pad (l : List Int) (n : Nat) : co (l ++ List.replicate n 0) = co l := by
  funext i
  rw [co_app]
  by_cases h : i < l.length
  · rw [if_pos h]
  · rw [if_neg h, co_zeros, co_over (by omega)]
theorem co_nil (i : Nat) : co [] i = 0 := co_over (Nat.zero_le _)
theorem cut_take_succ (m : Int) (d : Nat) (a : Nat → Int) (k : Nat) (h : k ≤ d) : (cut m d a).take (k + 1) = (cut m d a).take k ++ [a k % m] := by
  rw [List.take_succ_eq_append_getElem (by rw [cut_length]; omega)]
  simp [cut]
theorem cut_take_all (m : Int) (d : Nat) (a : Nat → Int) : (cut m d a).take (d + 1) = cut m d a := List.take_of_length_le (by rw [cut_length]; omega)
theorem cut_zero (m : Int) (d : Nat) : cut m d (fun _ => 0) = List.replicate (d + 1) 0 := by
  refine list_ext (by rw [cut_length, List.length_replicate]) (fun i hi => ?_)
  rw [cut_length] at hi
  rw [co_cut (by omega), co_zeros, Int.zero_emod]

/-! the model's product: row by row -/
def tr (a b : Nat → Int) (n i : Nat) : Int := if i ≤ n then a i * b (n - i) else 0
def timS (m : Int) (d : Nat) (a b : Nat → Int) (i : Nat) : List Int := cut m d fun n => psum (tr a b n) i
def timP (m : Int) (d : Nat) (a b : Nat → Int) (i k : Nat) : List Int := cut m d fun n => psum (tr a b n) i + if i ≤ n ∧ n < i + k then a i * b (n - i) else 0
theorem timS_zero (m : Int) (d : Nat) (a b : Nat → Int) : timS m d a b 0 = List.replicate (d + 1) 0 := cut_zero m d
theorem timP_zero (m : Int) (d : Nat) (a b : Nat → Int) (i : Nat) : timP m d a b i 0 = timS m d a b i := by
  unfold timP timS
  refine cut_congr (Eq.of m d (fun n _ => ?_))
  rw [if_neg (by omega), Int.add_zero]
theorem timP_step (m : Int) (d : Nat) (a b : Nat → Int) (i k : Nat) (h : i + k ≤ d) : (timP m d a b i k).set (i + k) ((co (timP m d a b i k) (i + k) + a i * b k) % m) = timP m d a b i (k + 1) := by
  refine list_ext (by rw [List.length_set, timP, timP, cut_length, cut_length]) (fun j hj => ?_)
  rw [List.length_set, timP, cut_length] at hj
  rw [co_set (by rw [timP, cut_length]; omega)]
  unfold timP
  rw [co_cut (i := j) (by omega), co_cut (i := j) (by omega), co_cut h]
  by_cases e : j = i + k
  · subst e
    rw [if_pos rfl, if_neg (by omega), if_pos (by omega), Int.add_zero, Nat.add_sub_cancel_left, Int.emod_add_emod]
  · rw [if_neg e]
    by_cases c : i ≤ j ∧ j < i + k
    · rw [if_pos c, if_pos (by omega)]
    · rw [if_neg c, if_neg (by omega)]
theorem timP_end (m : Int) (d : Nat) (a b : Nat → Int) (i k : Nat) (hk : ∀ j, k ≤ j → i + j ≤ d → b j = 0) : timP m d a b i k = timS m d a b (i + 1) := by
  unfold timP timS
  refine cut_congr (Eq.of m d (fun n hn => ?_))
  rw [psum]
  congr 1
  unfold tr
  by_cases c : i ≤ n
  · rw [if_pos c]
    by_cases c2 : n < i + k
    · rw [if_pos ⟨c, c2⟩]
    · rw [if_neg (by omega), hk (n - i) (by omega) (by omega), Int.mul_zero]
  · rw [if_neg c, if_neg (by omega)]
theorem timS_skip (m : Int) (d : Nat) (a b : Nat → Int) (i : Nat) (h : a i = 0) : timS m d a b (i + 1) = timS m d a b i := by
  unfold timS
  refine cut_congr (Eq.of m d (fun n hn => ?_))
  rw [psum]
  unfold tr
  rw [h]
  simp
theorem psum_tr (a b : Nat → Int) (n : Nat) : ∀ k, n + 1 ≤ k → psum (tr a b n) k = cv n a b := by
  intro k
  induction k with
  | zero => intro h; omega
  | succ k ih =>
    intro h
    by_cases hk : n + 1 ≤ k
    · rw [psum, ih hk]; unfold tr; rw [if_neg (by omega)]; omega
    · obtain rfl : k = n := by omega
      rw [cv_psum]
      exact psum_ext _ (fun i hi => by unfold tr; rw [if_pos (by omega)])
theorem timS_end (m : Int) (d : Nat) (a b : Nat → Int) (i : Nat) (h : ∀ j, i ≤ j → j ≤ d → a j = 0) : timS m d a b i = cut m d (mul a b) := by
  unfold timS
  refine cut_congr (Eq.of m d (fun n hn => ?_))
  rw [mul_at, ← psum_tr a b n (i + (n + 1)) (by omega)]
  have key : ∀ k, psum (tr a b n) (i + k) = psum (tr a b n) i := by
    intro k
    induction k with
    | zero => rfl
    | succ k ih =>
      rw [Nat.add_succ, psum, ih]
      unfold tr
      split
      · rw [h (i + k) (by omega) (by omega)]; omega
      · omega
  exact (key _).symm

/-! the inverse, number by number -/
def invC (m u : Int) (a : Nat → Int) : Nat → List Int
  | 0 => [u]
  | n + 1 => invC m u a n ++ [(-u * cv (n + 1) a (co (invC m u a n))) % m]
theorem invC_length (m u : Int) (a : Nat → Int) : ∀ n, (invC m u a n).length = n + 1 := by
  intro n
  induction n with
  | zero => rfl
  | succ n ih => simp [invC, ih]
theorem invC_pre (m u : Int) (a : Nat → Int) (n k i : Nat) (h : i ≤ n) : co (invC m u a (n + k)) i = co (invC m u a n) i := by
  induction k with
  | zero => rfl
  | succ k ih => rw [Nat.add_succ, invC, co_app, if_pos (by rw [invC_length]; omega), ih]
theorem invC_last (m u : Int) (a : Nat → Int) (n : Nat) : co (invC m u a (n + 1)) (n + 1) = (-u * cv (n + 1) a (co (invC m u a n))) % m := by
  rw [invC, co_app, if_neg (by rw [invC_length]; omega), invC_length, Nat.sub_self]; rfl
theorem invC_red {m u : Int} (hm : 0 < m) (hu : 0 ≤ u) (hu2 : u < m) (a : Nat → Int) : ∀ n, Red m (invC m u a n) := by
  intro n
  induction n with
  | zero =>
    intro i
    cases i with
    | zero => exact ⟨hu, hu2⟩
    | succ i => rw [co_over (by simp [invC])]; omega
  | succ n ih =>
    intro i
    rw [invC, co_app]
    split
    · exact ih i
    · rename_i h
      rw [invC_length] at h ⊢
      rcases hi : i - (n + 1) with _ | j
      · exact ⟨Int.emod_nonneg _ (by omega), Int.emod_lt_of_pos _ hm⟩
      · rw [co_over (by simp)]; omega
theorem cv_last (a b b' : Nat → Int) : ∀ n, (∀ i, i < n → b i = b' i) → cv n a b = cv n a b' + a 0 * (b n - b' n) := by
  intro n h
  cases n with
  | zero => rw [cv_zero, cv_zero, Int.mul_sub]; omega
  | succ n =>
    rw [cv_succ, cv_succ, Int.mul_sub, cv_ext n (fun _ _ => rfl) (fun i hi => h i (by omega))]
    omega
theorem invC_inverse {m u : Int} (a : Nat → Int) (h : (a 0 * u) % m = 1 % m) (d : Nat) : Eq m d (mul a (co (invC m u a d))) (mon 0 1) := by
  intro i hi
  rw [mul_at]
  cases i with
  | zero =>
    rw [cv_zero]
    have := invC_pre m u a 0 d 0 (Nat.le_refl _)
    rw [Nat.zero_add] at this
    rw [this]
    simpa [invC, co, mon] using h
  | succ i =>
    obtain ⟨k, rfl⟩ : ∃ k, d = (i + 1) + k := ⟨d - (i + 1), by omega⟩
    rw [cv_ext (i + 1) (fun _ _ => rfl) (fun j hj => invC_pre m u a (i + 1) k j hj)]
    rw [cv_last a _ (co (invC m u a i)) (i + 1) (fun j hj => invC_pre m u a i 1 j (by omega)), invC_last, co_over (l := invC m u a i) (by rw [invC_length]; omega)]
    generalize cv (i + 1) a (co (invC m u a i)) = S
    have e : (S + a 0 * (-u * S % m - 0)) % m = (S + a 0 * (-u * S)) % m := by
      rw [Int.sub_zero]
      exact add_cong rfl (mul_cong rfl (Int.emod_emod _ _))
    rw [e, show a 0 * (-u * S) = -((a 0 * u) * S) by rw [Int.neg_mul, Int.mul_neg, Int.mul_assoc], ← Int.sub_eq_add_neg]
    have e2 : (S - a 0 * u * S) % m = (S - 1 * S) % m := sub_cong rfl (mul_cong h rfl)
    rw [e2, Int.one_mul, Int.sub_self]
    simp [mon]
end Ser
end Go.Proofs.Ytlpfifdocgljnaa

/- Plain facts about tables of coefficients in two variables: no program in sight. -/
namespace Go.Proofs.Ytlpfifdocgljnaa
namespace Pl

/-- row i of a table; the coefficient at x^i y^j -/
def rw' (t : List (List Int)) (i : Nat) : List Int := t[i]?.getD []
def pc (t : List (List Int)) (i j : Nat) : Int := Ser.co (rw' t i) j
/-- the table of a degree with the remainders of f -/
def tab (m : Int) (d : Nat) (f : Nat → Nat → Int) : List (List Int) := (List.range (d + 1)).map fun i => Ser.cut m (d - i) (f i)
theorem tab_length (m : Int) (d : Nat) (f : Nat → Nat → Int) : (tab m d f).length = d + 1 := by simp [tab]
theorem tab_get (m : Int) (d : Nat) (f : Nat → Nat → Int) (i : Nat) (h : i ≤ d) : (tab m d f)[i]? = some (Ser.cut m (d - i) (f i)) := by
  unfold tab
  rw [List.getElem?_map, List.getElem?_range (by omega)]; rfl
theorem tab_row (m : Int) (d : Nat) (f : Nat → Nat → Int) (i : Nat) (h : i ≤ d) : rw' (tab m d f) i = Ser.cut m (d - i) (f i) := by
  unfold rw'; rw [tab_get m d f i h]; rfl
theorem rw_over {t : List (List Int)} {i : Nat} (h : t.length ≤ i) : rw' t i = [] := by
  unfold rw'; rw [List.getElem?_eq_none h]; rfl
theorem pc_tab {m : Int} {d : Nat} {f : Nat → Nat → Int} {i j : Nat} (h : i + j ≤ d) : pc (tab m d f) i j = f i j % m := by
  unfold pc; rw [tab_row m d f i (by omega), Ser.co_cut (by omega)]
theorem pc_over {m : Int} {d : Nat} {f : Nat → Nat → Int} {i j : Nat} (h : d < i + j) : pc (tab m d f) i j = 0 := by
  unfold pc
  by_cases hi : i ≤ d
  · rw [tab_row m d f i hi, Ser.co_over (by rw [Ser.cut_length]; omega)]
  · rw [rw_over (by rw [tab_length]; omega), Ser.co_over (Nat.zero_le _)]
/-- congruent up to the degree -/
def Eq (m : Int) (d : Nat) (f g : Nat → Nat → Int) : Prop := ∀ i j, i + j ≤ d → f i j % m = g i j % m
theorem Eq.refl (m : Int) (d : Nat) (f : Nat → Nat → Int) : Eq m d f f := fun _ _ _ => rfl
theorem Eq.of (m : Int) (d : Nat) {f g : Nat → Nat → Int} (h : ∀ i j, i + j ≤ d → f i j = g i j) : Eq m d f g := fun i j hij => by rw [h i j hij]
theorem Eq.symm {m : Int} {d : Nat} {f g : Nat → Nat → Int} (h : Eq m d f g) : Eq m d g f := fun i j hij => (h i j hij).symm
theorem Eq.trans {m : Int} {d : Nat} {f g k : Nat → Nat → Int} (h : Eq m d f g) (h' : Eq m d g k) : Eq m d f k := fun i j hij => (h i j hij).trans (h' i j hij)
theorem pc_tab_eq (m : Int) (d : Nat) (f : Nat → Nat → Int) : Eq m d (pc (tab m d f)) f := fun i j h => by rw [pc_tab h, Int.emod_emod]
theorem tab_congr {m : Int} {d : Nat} {f g : Nat → Nat → Int} (h : Eq m d f g) : tab m d f = tab m d g := by
  unfold tab
  refine List.map_congr_left (fun i hi => Ser.cut_congr (fun j hj => h i j ?_))
  have := List.mem_range.1 hi
  omega
theorem tab_ext {t : List (List Int)} {m : Int} {d : Nat} {f : Nat → Nat → Int} (hl : t.length = d + 1) (h : ∀ i, i ≤ d → rw' t i = Ser.cut m (d - i) (f i)) : t = tab m d f := by
  refine List.ext_getElem? (fun i => ?_)
  by_cases hi : i ≤ d
  · rw [tab_get m d f i hi]
    have := h i hi
    unfold rw' at this
    rw [List.getElem?_eq_getElem (by omega)] at this ⊢
    exact congrArg some this
  · rw [List.getElem?_eq_none (by omega), List.getElem?_eq_none (by rw [tab_length]; omega)]
theorem rw_set_self {t : List (List Int)} {p : Nat} (h : p < t.length) (r : List Int) : rw' (t.set p r) p = r := by
  unfold rw'; rw [List.getElem?_set_self h]; rfl
theorem rw_set_ne {t : List (List Int)} {p i : Nat} (h : p ≠ i) (r : List Int) : rw' (t.set p r) i = rw' t i := by
  unfold rw'; rw [List.getElem?_set_ne h]
/-- one number is written -/
theorem tab_put {m : Int} {d : Nat} {f g : Nat → Nat → Int} {p q : Nat} (h : p + q ≤ d) {y : Int} (hy : g p q % m = y) (hne : ∀ i j, i + j ≤ d → ¬ (i = p ∧ j = q) → g i j % m = f i j % m) :
    (tab m d f).set p ((rw' (tab m d f) p).set q y) = tab m d g := by
  refine tab_ext (by rw [List.length_set, tab_length]) (fun i hi => ?_)
  by_cases hip : p = i
  · subst hip
    rw [rw_set_self (by rw [tab_length]; omega), tab_row m d f p hi]
    refine Ser.list_ext (by rw [List.length_set, Ser.cut_length, Ser.cut_length]) (fun j hj => ?_)
    rw [List.length_set, Ser.cut_length] at hj
    rw [Ser.co_set (by rw [Ser.cut_length]; omega), Ser.co_cut (by omega), Ser.co_cut (by omega)]
    by_cases hjq : j = q
    · rw [if_pos hjq, hjq, hy]
    · rw [if_neg hjq, hne p j (by omega) (fun e => hjq e.2)]
  · rw [rw_set_ne hip, tab_row m d f i hi]
    refine Ser.cut_congr (fun j hj => ?_)
    exact (hne i j (by omega) (fun e => hip e.1.symm)).symm
/-- a table of a plane: its rows' lengths, its numbers remainders -/
structure Ok (m : Int) (d : Nat) (t : List (List Int)) : Prop where
  m1 : 2 ≤ m
  m2 : m ≤ 10000
  d1 : 1 ≤ d
  d2 : d ≤ 10
  len : t.length = d + 1
  row : ∀ i, i ≤ d → (rw' t i).length = d - i + 1
  red : ∀ i, Ser.Red m (rw' t i)
theorem Ok.self {m : Int} {d : Nat} {t : List (List Int)} (h : Ok m d t) : t = tab m d (pc t) :=
  tab_ext h.len (fun i hi => (Ser.cut_self (h.row i hi) (h.red i)).symm)
theorem Ok.pc {m : Int} {d : Nat} {t : List (List Int)} (h : Ok m d t) (i j : Nat) : 0 ≤ pc t i j ∧ pc t i j < m := h.red i j
theorem Ok.of_tab {m : Int} {d : Nat} (m1 : 2 ≤ m) (m2 : m ≤ 10000) (d1 : 1 ≤ d) (d2 : d ≤ 10) (f : Nat → Nat → Int) : Ok m d (tab m d f) := by
  refine ⟨m1, m2, d1, d2, tab_length _ _ _, fun i hi => by rw [tab_row m d f i hi, Ser.cut_length], fun i => ?_⟩
  by_cases hi : i ≤ d
  · rw [tab_row m d f i hi]; exact Ser.cut_red (by omega) _ _
  · rw [rw_over (by rw [tab_length]; omega)]
    intro j; rw [Ser.co_over (Nat.zero_le _)]; omega
theorem Ok.tab {m : Int} {d : Nat} {t : List (List Int)} (h : Ok m d t) (f : Nat → Nat → Int) : Ok m d (tab m d f) := Ok.of_tab h.m1 h.m2 h.d1 h.d2 f
/-- equal tables of planes have equal coefficients -/
theorem Ok.ext {m : Int} {d : Nat} {t u : List (List Int)} (h : Ok m d t) (h' : Ok m d u) (he : Eq m d (Pl.pc t) (Pl.pc u)) : t = u := by
  rw [h.self, h'.self]; exact tab_congr he
/-- the rows behind k are still empty -/
theorem tab_take_succ (m : Int) (d : Nat) (f : Nat → Nat → Int) (k : Nat) (h : k ≤ d) : (tab m d f).take (k + 1) = (tab m d f).take k ++ [Ser.cut m (d - k) (f k)] := by
  rw [List.take_succ_eq_append_getElem (by rw [tab_length]; omega)]
  simp [tab]
theorem tab_take_all (m : Int) (d : Nat) (f : Nat → Nat → Int) : (tab m d f).take (d + 1) = tab m d f := List.take_of_length_le (by rw [tab_length]; omega)
theorem tab_step (m : Int) (d : Nat) (f : Nat → Nat → Int) (k : Nat) (h : k ≤ d) (r : List Int) :
    ((tab m d f).take k ++ List.replicate (d + 1 - k) []).set k r = (tab m d f).take k ++ (r :: List.replicate (d + 1 - (k + 1)) []) := by
  have hl := tab_length m d f
  rw [List.set_append_right _ _ (by simp; omega), List.length_take, hl, Nat.min_eq_left (by omega), Nat.sub_self, show d + 1 - k = (d + 1 - (k + 1)) + 1 by omega, List.replicate_succ, List.set_cons_zero]
theorem tab_step2 (m : Int) (d : Nat) (f : Nat → Nat → Int) (k : Nat) (h : k ≤ d) (r r' : List Int) :
    ((tab m d f).take k ++ (r :: List.replicate (d + 1 - (k + 1)) [])).set k r' = (tab m d f).take k ++ (r' :: List.replicate (d + 1 - (k + 1)) []) := by
  have hl := tab_length m d f
  rw [List.set_append_right _ _ (by simp; omega), List.length_take, hl, Nat.min_eq_left (by omega), Nat.sub_self, List.set_cons_zero]
theorem tab_mid (m : Int) (d : Nat) (f : Nat → Nat → Int) (k : Nat) (h : k ≤ d) (r : List Int) : rw' ((tab m d f).take k ++ (r :: List.replicate (d + 1 - (k + 1)) [])) k = r := by
  have hl := tab_length m d f
  unfold rw'
  rw [List.getElem?_append_right (by simp; omega), List.length_take, hl, Nat.min_eq_left (by omega), Nat.sub_self]; rfl
theorem tab_mid_length (m : Int) (d : Nat) (f : Nat → Nat → Int) (k : Nat) (h : k ≤ d) (r : List Int) : ((tab m d f).take k ++ (r :: List.replicate (d + 1 - (k + 1)) [])).length = d + 1 := by
  have hl := tab_length m d f
  simp; omega
theorem tab_done (m : Int) (d : Nat) (f : Nat → Nat → Int) (k : Nat) (h : k ≤ d) : (tab m d f).take k ++ (Ser.cut m (d - k) (f k) :: List.replicate (d + 1 - (k + 1)) []) = (tab m d f).take (k + 1) ++ List.replicate (d + 1 - (k + 1)) [] := by
  rw [tab_take_succ m d f k h, List.append_assoc]; rfl
end Pl
end Go.Proofs.Ytlpfifdocgljnaa

/- Plain facts on the layers of Lazard's cocycles. -/
namespace Go.Proofs.Ytlpfifdocgljnaa
open Go.RowKit

/-- the coefficient of C(n) at x^i y^(n - i) -/
def layF (n i : Nat) : Int := if 0 < i ∧ i < n then (binI (n : Int) (i : Int)).tdiv (lz (n : Int) (n - 1)) else 0
/-- a layer as far as the program has written it: below k -/
def layP (n k : Nat) : List Int := (List.range (n + 1)).map fun i => if i < k then layF n i else 0
def layL (n : Nat) : List Int := (List.range (n + 1)).map (layF n)
theorem layL_length (n : Nat) : (layL n).length = n + 1 := by simp [layL]
theorem layP_length (n k : Nat) : (layP n k).length = n + 1 := by simp [layP]
theorem layP_co {n k i : Nat} (h : i ≤ n) : Ser.co (layP n k) i = if i < k then layF n i else 0 := by
  unfold Ser.co layP
  rw [List.getElem?_map, List.getElem?_range (by omega)]; rfl
theorem layL_co {n i : Nat} (h : i ≤ n) : Ser.co (layL n) i = layF n i := by
  unfold Ser.co layL
  rw [List.getElem?_map, List.getElem?_range (by omega)]; rfl
theorem layP_one (n : Nat) : layP n 1 = List.replicate (n + 1) 0 := by
  refine Ser.list_ext (by rw [layP_length, List.length_replicate]) (fun i hi => ?_)
  rw [layP_length] at hi
  rw [layP_co (by omega), Ser.co_zeros]
  by_cases h : i < 1
  · rw [if_pos h]; unfold layF; rw [if_neg (by omega)]
  · rw [if_neg h]
theorem layP_end (n : Nat) : layP n n = layL n := by
  refine Ser.list_ext (by rw [layP_length, layL_length]) (fun i hi => ?_)
  rw [layP_length] at hi
  rw [layP_co (by omega), layL_co (by omega)]
  by_cases h : i < n
  · rw [if_pos h]
  · rw [if_neg h]; unfold layF; rw [if_neg (by omega)]
theorem layP_step {n k : Nat} (h : k ≤ n) : (layP n k).set k (layF n k) = layP n (k + 1) := by
  refine Ser.list_ext (by rw [List.length_set, layP_length, layP_length]) (fun i hi => ?_)
  rw [List.length_set, layP_length] at hi
  rw [Ser.co_set (by rw [layP_length]; omega), layP_co (by omega), layP_co (by omega)]
  by_cases e : i = k
  · rw [if_pos e, if_pos (by omega), e]
  · rw [if_neg e]
    by_cases c : i < k
    · rw [if_pos c, if_pos (by omega)]
    · rw [if_neg c, if_neg (by omega)]
theorem layF_mid {n k : Nat} (h1 : 0 < k) (h2 : k < n) : layF n k = (binI (n : Int) (k : Int)).tdiv (lz (n : Int) (n - 1)) := by
  unfold layF; rw [if_pos ⟨h1, h2⟩]
theorem lz_pos {n : Int} : ∀ k : Nat, 0 < k → (k : Int) ≤ n → 0 < lz n k
  | 0, h, _ => absurd h (by omega)
  | k + 1, _, h => by
    have hp : 0 < binI n (k + 1 : Nat) := by
      have := Num.bin_pos n.toNat (k + 1) (by omega)
      unfold binI; simp only [Int.toNat_natCast]; omega
    rw [lz]
    unfold gcdI
    have := Nat.gcd_pos_of_pos_right (lz n k).natAbs (show 0 < (binI n (k + 1 : Nat)).natAbs by omega)
    omega
theorem layF_small : ∀ n : Fin 11, ∀ i : Fin 11, 0 ≤ layF n i ∧ layF n i ≤ 252 := by decide +kernel
theorem layF_bd {n i : Nat} (h : n ≤ 10) : 0 ≤ layF n i ∧ layF n i ≤ 252 := by
  by_cases hi : i ≤ 10
  · exact layF_small ⟨n, by omega⟩ ⟨i, by omega⟩
  · unfold layF; rw [if_neg (by omega)]; omega
/-- a layer as a table: 0 below the degree -/
def ofLay (d : Nat) (f : Nat → Int) : Nat → Nat → Int := fun i j => if i + j < d then 0 else f i
/-- the model's table, its rows below k written -/
def lazQ (n k : Nat) : Nat → Nat → Int := fun i j => if i < k then ofLay n (layF n) i j else 0
theorem lazQ_one (m : Int) (n : Nat) : Pl.tab m n (lazQ n 1) = Pl.tab m n fun _ _ => 0 := Pl.tab_congr (Pl.Eq.of m n (fun i j _ => by
  unfold lazQ ofLay layF
  by_cases h : i < 1
  · rw [if_pos h]; split
    · rfl
    · rw [if_neg (by omega)]
  · rw [if_neg h]))
theorem lazQ_end (m : Int) (n : Nat) : Pl.tab m n (lazQ n n) = Pl.tab m n (ofLay n (layF n)) := Pl.tab_congr (Pl.Eq.of m n (fun i j _ => by
  unfold lazQ
  by_cases h : i < n
  · rw [if_pos h]
  · rw [if_neg h]; unfold ofLay layF; split
    · rfl
    · rw [if_neg (by omega)]))
theorem lazQ_step {m : Int} {n k : Nat} (h2 : k < n) : (Pl.tab m n (lazQ n k)).set k ((Pl.rw' (Pl.tab m n (lazQ n k)) k).set (n - k) (layF n k % m)) = Pl.tab m n (lazQ n (k + 1)) := by
  refine Pl.tab_put (by omega) ?_ (fun i j hij hne => ?_)
  · unfold lazQ ofLay
    rw [if_pos (by omega), if_neg (by omega)]
  · unfold lazQ ofLay
    by_cases hi : i < k
    · rw [if_pos hi, if_pos (by omega)]
    · rw [if_neg hi]
      by_cases he : i < k + 1
      · rw [if_pos he, if_pos (by omega)]
      · rw [if_neg he]
/-- the table of C(n) -/
def lazT (m : Int) (n : Nat) : List (List Int) := Pl.tab m n (ofLay n (layF n))
/-- the model of LazardCocycle -/
def lazP (m n : Int) : Int × List (List Int) × Int :=
  if isM m = true then (if inB n 2 10 = true then (m, lazT m n.toNat, 0) else (0, [], 2)) else (0, [], 1)
/-- the number of laws of degree k + 1, if it is not too great -/
def cntO (m : Int) : Nat → Option Int
  | 0 => some 1
  | k + 1 => match cntO m k with
    | none => none
    | some c => if 1000000000000000000 / m < c then none else some (c * m)
theorem cntO_bd {m : Int} (m1 : 2 ≤ m) : ∀ k c, cntO m k = some c → 1 ≤ c ∧ c ≤ 1000000000000000000
  | 0, c, h => by simp [cntO] at h; omega
  | k + 1, c, h => by
    unfold cntO at h
    cases hk : cntO m k with
    | none => rw [hk] at h; simp at h
    | some b =>
      rw [hk] at h
      obtain ⟨b1, b2⟩ := cntO_bd m1 k b hk
      by_cases hb : 1000000000000000000 / m < b
      · simp [hb] at h
      · simp [hb] at h
        have h3 : b * m ≤ 1000000000000000000 := Int.le_trans (Int.mul_le_mul_of_nonneg_right (show b ≤ 1000000000000000000 / m by omega) (by omega)) (Int.ediv_mul_le _ (by omega))
        have h4 : 1 * 1 ≤ b * m := Int.mul_le_mul (by omega) (by omega) (by omega) (by omega)
        omega
theorem cntO_none {m : Int} {k : Nat} (h : cntO m k = none) (n : Nat) (hn : k ≤ n) : cntO m n = none := by
  obtain ⟨q, rfl⟩ : ∃ q, n = k + q := ⟨n - k, by omega⟩
  clear hn
  induction q with
  | zero => exact h
  | succ q ih => rw [← Nat.add_assoc]; unfold cntO; rw [ih]
def cntM (m d : Int) : Int × Int :=
  if isM m = true then (if inB d 1 10 = true then (match cntO m (d.toNat - 1) with
    | some c => (c, 0)
    | none => (0, 3)) else (0, 2)) else (0, 1)
end Go.Proofs.Ytlpfifdocgljnaa

/- Contracts of CountLaws, of the program and of the model. -/
namespace Go.Proofs.Ytlpfifdocgljnaa
open Go.RowKit Go.WideShapes Go.ChangeShapes Go.ChangeAt

theorem cntM_yes {m : Int} {d k : Nat} (hm : isM m = true) (hd : inB (d : Int) 1 10 = true) (hk : d = k + 1) : cntM m (d : Int) = match cntO m k with
    | some c => (c, 0)
    | none => (0, 3) := by
  unfold cntM
  rw [if_pos hm, if_pos hd, show (d : Int).toNat - 1 = k by omega]
  first | done | (cases cntO m k <;> rfl)
set_option maxHeartbeats 2000000 in
theorem CountLaws_any (m d : Int) (w : World) :
    Calls Try.prog 21 #[.int .i64 m, .int .i64 d] w fun e w' => e = .returned (.tuple #[.int .i64 (cntM m d).1, .int .i64 (cntM m d).2]) ∧ Below w.heap.size w w' := by
  by_cases hm : isM m = true
  · by_cases hd : inB d 1 10 = true
    · obtain ⟨m1, m2⟩ := (isM_iff m).1 hm
      obtain ⟨d1, d2⟩ := (inB_iff _ _ _).1 hd
      obtain ⟨D, hD⟩ : ∃ D : Nat, d = (D : Int) := ⟨d.toNat, by omega⟩
      subst hD
      obtain ⟨n, hn⟩ : ∃ n, D = n + 1 := ⟨D - 1, by omega⟩
      have hA := cntM_yes hm hd hn
      have hm0 : ¬ m = 0 := by omega
      have hm9 : ¬ m = -1 := by omega
      have HQ := Lib.hid (fun (k : Nat) (h : cntO m k = none) (q : Nat) (hq : k ≤ q) => cntO_none h q hq)
      have HS : Hid (∀ k, cntO m (k + 1) = match cntO m k with
        | none => none
        | some c => if 1000000000000000000 / m < c then none else some (c * m)) := Lib.hid (fun k => rfl)
      have HBD := Lib.hid (cntO_bd m1)
      have HMM := Lib.hid (fun W0 => IsModulus_any m W0)
      have HI := Lib.hid (fun W0 => isWithin_any (D : Int) 1 10 W0)
      rw [hm] at HMM
      rw [hd] at HI
      rw [hA]
      have hDn : (D : Int) - 1 = (n : Int) := by omega
      obtain ⟨R, hR⟩ : ∃ R : Int × Int, (match cntO m n with
        | some c => (c, (0 : Int))
        | none => (0, 3)) = R := ⟨_, rfl⟩
      rw [hR]
      have HR := Lib.hid hR
      have hnb : n ≤ 9 := by omega
      clear hm hd hA hR hn
      go_enter Try.func21, Try.ntmps21
      go_wp2_with fail
      refine (HMM.out _).mono ?_
      rintro e w1 ⟨rfl, rfl⟩
      go_wp2_with fail
      refine (HI.out _).mono ?_
      rintro e w1 ⟨rfl, rfl⟩
      go_wp2
      go_loopw [6, 15] (fun s6 s15 wr => ∃ (k : Nat) (c : Int), k ≤ n ∧ s6 = .int .i64 c ∧ s15 = .int .i64 k ∧ cntO m k = some c ∧ wr = w) (fun _ s15 _ => n + 1 - (intOf s15).toNat)
      case atStart => exact ⟨0, 1, Nat.zero_le _, rfl, rfl, rfl, rfl⟩
      case round =>
        obtain ⟨k, c, hk, rfl, rfl, hc, rfl⟩ := hrel
        obtain ⟨c1, c2⟩ := HBD.out k c hc
        by_cases hlt : k < n
        · have hlt2 : (k : Int) < (n : Int) := by omega
          have hs := HS.out k
          rw [hc] at hs
          obtain ⟨Q, hQ⟩ : ∃ Q, 1000000000000000000 / m = Q := ⟨_, rfl⟩
          have hQ2 : (1000000000000000000 : Int).tdiv m = Q := by rw [Int.tdiv_eq_ediv_of_nonneg (by omega)]; exact hQ
          have hQ3 : 0 ≤ Q ∧ Q ≤ 1000000000000000000 := by rw [← hQ]; exact ⟨Int.ediv_nonneg (by omega) (by omega), Int.ediv_le_self _ (by omega)⟩
          obtain ⟨hQ3, hQ4⟩ := hQ3
          dsimp only at hs
          rw [hQ] at hs
          by_cases hgt : Q < c
          · rw [if_pos hgt] at hs
            have hno := HQ.out _ hs n (by omega)
            have hr := HR.out
            rw [hno] at hr
            dsimp only at hr
            have HRR := Lib.hid hr
            clear hno hr hs hQ HQ HS HR hc
            go_wp2
            go_ret2
            exact ⟨by have h := HRR.out; subst h; rfl, Below.refl _ _⟩
          · rw [if_neg hgt] at hs
            obtain ⟨P, hP⟩ : ∃ P, c * m = P := ⟨_, rfl⟩
            rw [hP] at hs
            obtain ⟨p1, p2⟩ := HBD.out _ _ hs
            have hw : IntKind.i64.wrap (c * m) = P := by rw [hP, IntKind.wrap_i64]; omega
            have HC := Lib.hid hs
            clear hs hQ hP
            go_wp2
            go_roundw
            case rel => exact ⟨k + 1, P, by omega, rfl, by go_num, HC.out, by trivial⟩
            case measure => simp only [intOf]; omega
        · obtain rfl : k = n := by omega
          have hlt2 : ¬ (k : Int) < (k : Int) := by omega
          have hr := HR.out
          rw [hc] at hr
          dsimp only at hr
          have HRR := Lib.hid hr
          clear hr HQ HS HR hc
          go_wp2
          go_ret2
          exact ⟨by have h := HRR.out; subst h; rfl, Below.refl _ _⟩
    · have hd' : inB d 1 10 = false := by simpa using hd
      have HA : Hid (cntM m d = (0, 2)) := Lib.hid (by unfold cntM; rw [if_pos hm, if_neg hd])
      rw [HA.out]
      have HMM := Lib.hid (fun W0 => IsModulus_any m W0)
      have HI := Lib.hid (fun W0 => isWithin_any d 1 10 W0)
      rw [hm] at HMM
      rw [hd'] at HI
      clear hm hd hd'
      go_enter Try.func21, Try.ntmps21
      go_wp2_with fail
      refine (HMM.out _).mono ?_
      rintro e w1 ⟨rfl, rfl⟩
      go_wp2_with fail
      refine (HI.out _).mono ?_
      rintro e w1 ⟨rfl, rfl⟩
      go_wp2
      go_ret2
      exact ⟨rfl, Below.refl _ _⟩
  · have hm' : isM m = false := by simpa using hm
    have HA : Hid (cntM m d = (0, 1)) := Lib.hid (by unfold cntM; rw [if_neg hm])
    rw [HA.out]
    have HMM := Lib.hid (fun W0 => IsModulus_any m W0)
    rw [hm'] at HMM
    clear hm hm'
    go_enter Try.func21, Try.ntmps21
    go_wp2_with fail
    refine (HMM.out _).mono ?_
    rintro e w1 ⟨rfl, rfl⟩
    go_wp2
    go_ret2
    exact ⟨rfl, Below.refl _ _⟩
set_option maxHeartbeats 2000000 in
theorem sCountLaws_any (m d : Int) (w : World) :
    Calls Try.prog 20 #[.int .i64 m, .int .i64 d] w fun e w' => e = .returned (.tuple #[.int .i64 (cntM m d).1, .int .i64 (cntM m d).2]) ∧ Below w.heap.size w w' := by
  by_cases hm : isM m = true
  · by_cases hd : inB d 1 10 = true
    · obtain ⟨m1, m2⟩ := (isM_iff m).1 hm
      obtain ⟨d1, d2⟩ := (inB_iff _ _ _).1 hd
      obtain ⟨D, hD⟩ : ∃ D : Nat, d = (D : Int) := ⟨d.toNat, by omega⟩
      subst hD
      obtain ⟨n, hn⟩ : ∃ n, D = n + 1 := ⟨D - 1, by omega⟩
      have hA := cntM_yes hm hd hn
      have hm0 : ¬ m = 0 := by omega
      have hm9 : ¬ m = -1 := by omega
      have HQ := Lib.hid (fun (k : Nat) (h : cntO m k = none) (q : Nat) (hq : k ≤ q) => cntO_none h q hq)
      have HS : Hid (∀ k, cntO m (k + 1) = match cntO m k with
        | none => none
        | some c => if 1000000000000000000 / m < c then none else some (c * m)) := Lib.hid (fun k => rfl)
      have HBD := Lib.hid (cntO_bd m1)
      have HMM := Lib.hid (fun W0 => l01Modulus_any m W0)
      have HI := Lib.hid (fun W0 => l01In_any (D : Int) 1 10 W0)
      rw [hm] at HMM
      rw [hd] at HI
      rw [hA]
      obtain ⟨R, hR⟩ : ∃ R : Int × Int, (match cntO m n with
        | some c => (c, (0 : Int))
        | none => (0, 3)) = R := ⟨_, rfl⟩
      rw [hR]
      have HR := Lib.hid hR
      have HN := Lib.hid hn
      have hnb : n ≤ 9 := by omega
      clear hm hd hA hR hn
      go_enter Try.func20, Try.ntmps20
      go_wp2_with fail
      refine (HMM.out _).mono ?_
      rintro e w1 ⟨rfl, rfl⟩
      go_wp2_with fail
      refine (HI.out _).mono ?_
      rintro e w1 ⟨rfl, rfl⟩
      go_wp2
      go_loopw [1, 6] (fun s1 s6 wr => ∃ (k : Nat) (c E : Int), k ≤ n ∧ s6 = .int .i64 c ∧ s1 = .int .i64 E ∧ E = (n : Int) + 1 - k ∧ cntO m k = some c ∧ wr = w) (fun s1 _ _ => (intOf s1).toNat)
      case atStart => exact ⟨0, 1, D, Nat.zero_le _, rfl, rfl, by have := HN.out; omega, rfl, rfl⟩
      case round =>
        obtain ⟨k, c, E, hk, rfl, rfl, hE, hc, rfl⟩ := hrel
        obtain ⟨c1, c2⟩ := HBD.out k c hc
        by_cases hlt : k < n
        · have hlt2 : 1 < E := by omega
          have hE2 : E ≤ 100 := by omega
          have HE := Lib.hid hE
          have hs := HS.out k
          rw [hc] at hs
          obtain ⟨Q, hQ⟩ : ∃ Q, 1000000000000000000 / m = Q := ⟨_, rfl⟩
          have hQ2 : (1000000000000000000 : Int).tdiv m = Q := by rw [Int.tdiv_eq_ediv_of_nonneg (by omega)]; exact hQ
          have hQ3 : 0 ≤ Q ∧ Q ≤ 1000000000000000000 := by rw [← hQ]; exact ⟨Int.ediv_nonneg (by omega) (by omega), Int.ediv_le_self _ (by omega)⟩
          obtain ⟨hQ3, hQ4⟩ := hQ3
          dsimp only at hs
          rw [hQ] at hs
          clear hE
          by_cases hgt : Q < c
          · rw [if_pos hgt] at hs
            have hno := HQ.out _ hs n (by omega)
            have hr := HR.out
            rw [hno] at hr
            dsimp only at hr
            have HRR := Lib.hid hr
            clear hno hr hs hQ HQ HS HR hc
            go_wp2
            go_ret2
            exact ⟨by have h := HRR.out; subst h; rfl, Below.refl _ _⟩
          · rw [if_neg hgt] at hs
            obtain ⟨P, hP⟩ : ∃ P, c * m = P := ⟨_, rfl⟩
            rw [hP] at hs
            obtain ⟨p1, p2⟩ := HBD.out _ _ hs
            have hw : IntKind.i64.wrap (c * m) = P := by rw [hP, IntKind.wrap_i64]; omega
            have HC := Lib.hid hs
            clear hs hQ hP
            go_wp2
            go_roundw
            case rel => exact ⟨k + 1, P, E - 1, by omega, rfl, rfl, by have := HE.out; omega, HC.out, by trivial⟩
            case measure => simp only [intOf]; omega
        · obtain rfl : k = n := by omega
          have hlt2 : ¬ 1 < E := by omega
          have hr := HR.out
          rw [hc] at hr
          dsimp only at hr
          have HRR := Lib.hid hr
          clear hr HQ HS HR hc
          go_wp2
          go_ret2
          exact ⟨by have h := HRR.out; subst h; rfl, Below.refl _ _⟩
    · have hd' : inB d 1 10 = false := by simpa using hd
      have HA : Hid (cntM m d = (0, 2)) := Lib.hid (by unfold cntM; rw [if_pos hm, if_neg hd])
      rw [HA.out]
      have HMM := Lib.hid (fun W0 => l01Modulus_any m W0)
      have HI := Lib.hid (fun W0 => l01In_any d 1 10 W0)
      rw [hm] at HMM
      rw [hd'] at HI
      clear hm hd hd'
      go_enter Try.func20, Try.ntmps20
      go_wp2_with fail
      refine (HMM.out _).mono ?_
      rintro e w1 ⟨rfl, rfl⟩
      go_wp2_with fail
      refine (HI.out _).mono ?_
      rintro e w1 ⟨rfl, rfl⟩
      go_wp2
      go_ret2
      exact ⟨rfl, Below.refl _ _⟩
  · have hm' : isM m = false := by simpa using hm
    have HA : Hid (cntM m d = (0, 1)) := Lib.hid (by unfold cntM; rw [if_neg hm])
    rw [HA.out]
    have HMM := Lib.hid (fun W0 => l01Modulus_any m W0)
    rw [hm'] at HMM
    clear hm hm'
    go_enter Try.func20, Try.ntmps20
    go_wp2_with fail
    refine (HMM.out _).mono ?_
    rintro e w1 ⟨rfl, rfl⟩
    go_wp2
    go_ret2
    exact ⟨rfl, Below.refl _ _⟩
end Go.Proofs.Ytlpfifdocgljnaa

/- Contracts of the exact laws' helpers on lists of integers: copying, comparing, marking, looking whether the marks still stand. -/
namespace Go.Proofs.Ytlpfifdocgljnaa
open Go.RowKit Go.WideShapes Go.ChangeShapes Go.ChangeAt

/-- the slice at A, wherever it begins, holds the integers of l -/
def RA (w : World) (A : Option Addr) (l : List Int) : Prop :=
  l ≠ [] → ∃ ad : Addr, A = some ad ∧ ad.block < w.heap.size ∧ ∀ k, k < l.length → w.cell? (ad.add k) = some (.int .i64 (l[k]?.getD 0))
theorem add_block (a : Addr) (n : Nat) : (a.add n).block = a.block := by unfold Addr.add; split <;> rfl
theorem add_plain (g o k : Nat) : (⟨g, o, none⟩ : Addr).add k = ⟨g, o + k, none⟩ := by unfold Addr.add; split <;> simp_all
theorem RI.ra {w : World} {A : Option Addr} {l : List Int} (h : RI w A l) : RA w A l := by
  intro hl
  obtain ⟨b, off, e, hlt, hc⟩ := h hl
  exact ⟨_, e, hlt, fun k hk => by rw [add_plain]; exact hc k hk⟩
theorem RA.below {w w' : World} {A : Option Addr} {l : List Int} (h : RA w A l) (hb : Below w.heap.size w w') : RA w' A l := by
  intro hl
  obtain ⟨ad, e, hlt, hc⟩ := h hl
  exact ⟨ad, e, Nat.lt_of_lt_of_le hlt hb.size, fun k hk => (hb.cell (p := ad.add k) (by rw [add_block]; exact hlt)).trans (hc k hk)⟩

theorem OwnI.made (w : World) (n : Nat) (hn : n ≤ maxLen) : OwnI (w.alloc (.cells (madeCells #[.int .i64 0] n) 2)) w.heap.size (.slice (some ⟨w.heap.size, 0, none⟩) n n) (List.replicate n 0) := by
  unfold OwnI
  rw [List.length_replicate]
  refine ⟨by simp, .inr ⟨w.heap.size, n, _, rfl, Nat.le_refl _, heap_alloc_new w _, Nat.le_refl _, hn, by rw [size_madeCells]; omega, ?_⟩⟩
  rw [toList_madeCells_one]; simp
theorem OwnI.cells {w : World} {base g n c : Nat} {l : List Int} (h : OwnI w base (.slice (some ⟨g, 0, none⟩) n c) l) :
    base ≤ g ∧ g < w.heap.size ∧ (∀ i, i < l.length → w.cell? ⟨g, i, none⟩ = some (.int .i64 (l[i]?.getD 0))) ∧ (∀ i, w.frozen? ⟨g, i, none⟩ = false) := by
  have hlt := h.lt g rfl
  unfold OwnI at h
  refine ⟨hlt.1, hlt.2, fun i hi => ?_, fun i => ?_⟩
  · have hc := World.ownsRow.cells h (g := g) rfl i (.int .i64 (l[i]?.getD 0)) (by rw [List.getElem?_map, List.getElem?_eq_getElem hi]; rfl)
    rw [add_plain, Nat.zero_add] at hc
    exact hc
  · rcases h.2 with ⟨hv, _⟩ | ⟨g', cap, cur, hv, _, hg, _⟩
    · cases hv
    · obtain rfl : g = g' := by injection hv with h1; injection h1 with h1; injection h1
      simp [World.frozen?, hg]
theorem OwnI.openv {w : World} {base : Nat} {v : Value} {l : List Int} (h : OwnI w base v l) (hl : l ≠ []) : ∃ g c, v = .slice (some ⟨g, 0, none⟩) l.length c := by
  unfold OwnI at h
  rcases h.2 with ⟨_, h0⟩ | ⟨g, cap, cur, rfl, _⟩
  · exact absurd (List.eq_nil_of_length_eq_zero h0) hl
  · exact ⟨g, cap, rfl⟩
theorem OwnI.set {w : World} {base g n c : Nat} {l : List Int} (h : OwnI w base (.slice (some ⟨g, 0, none⟩) n c) l) (i : Nat) (y : Int) :
    OwnI (w.setCell ⟨g, i, none⟩ (.int .i64 y)) base (.slice (some ⟨g, 0, none⟩) n c) (l.set i y) := by
  unfold OwnI at h ⊢
  rw [List.length_set]
  refine ⟨by simp, .inr ?_⟩
  rcases h.2 with ⟨hv, _⟩ | ⟨g', cap, cur, hv, hb, hg, h1, h2, h3, h4⟩
  · cases hv
  · have e0 := hv
    injection hv with h5 h6 h7
    injection h5 with h5
    injection h5 with h5
    subst h5 h7
    refine ⟨g, c, cur.setIfInBounds i (.int .i64 y), e0, hb, ?_, h1, h2, by simpa using h3, ?_⟩
    · simp [World.setCell, Array.getElem?_modify, hg]
    · rw [Array.toList_setIfInBounds, List.take_set, h4, List.map_set]
theorem grown_setCell (w : World) (g i : Nat) (u : Value) : w.grownBy (w.setCell ⟨g, i, none⟩ u) (some g) :=
  ⟨rfl, rfl, rfl, by simp [World.setCell], fun k _ hne => Below.heap_setCell w ⟨g, i, none⟩ u k (fun e => hne (by rw [e]))⟩
theorem grown_refl (w : World) (r : Option Nat) : w.grownBy w r := ⟨rfl, rfl, rfl, Nat.le_refl _, fun _ _ _ => rfl⟩
theorem grown_trans {a b c : World} {r : Option Nat} (h : a.grownBy b r) (k : b.grownBy c r) : a.grownBy c r :=
  ⟨k.os.trans h.os, k.tape.trans h.tape, k.output.trans h.output, Nat.le_trans h.size k.size, fun i hi hne => (k.block i (Nat.lt_of_lt_of_le hi h.size) hne).trans (h.block i hi hne)⟩
theorem OwnI.other {w w' : World} {base : Nat} {v : Value} {l : List Int} {r : Option Nat} (h : OwnI w base v l) (hg : w.grownBy w' r) (hne : v.ownBlock = none ∨ v.ownBlock ≠ r) : OwnI w' base v l :=
  World.ownsRow.kept h hg hne

theorem fill_step (l : List Int) (k n : Nat) (hk : k < l.length) (hn : k < n) (y : Int) (hy : l[k]?.getD 0 = y) : (l.take k ++ List.replicate (n - k) 0).set k y = l.take (k + 1) ++ List.replicate (n - (k + 1)) 0 := by
  have e : n - k = (n - (k + 1)) + 1 := by omega
  have e2 : l[k] = y := by rw [← hy, List.getElem?_eq_getElem hk]; rfl
  rw [List.set_append_right _ _ (by simp; omega), e, List.replicate_succ, List.length_take, Nat.min_eq_left (by omega), Nat.sub_self, List.set_cons_zero, List.take_succ_eq_append_getElem hk, e2, List.append_assoc]
  rfl

set_option maxHeartbeats 1000000 in
theorem toInt64S_any (A : Option Addr) (c : Nat) (l : List Int) (w : World) (hl : l.length ≤ 1048576) (hr : RA w A l) :
    Calls Try.prog 31 #[.slice A l.length c] w fun e w' => ∃ v, e = .returned v ∧ OwnI w' w.heap.size v l ∧ Below w.heap.size w w' := by
  have hmk := fun W => run_make_row' (P := Try.prog) 25 2 (.int .i64 0) 8 Try.underlying25 info64 rfl .i64 .i64 l.length (by omega) (by omega) W
  go_enter Try.func31, Try.ntmps31
  go_wp2
  go_loopw [4] (fun i wr => ∃ k : Nat, k ≤ l.length ∧ i = .int .i64 k ∧ OwnI wr w.heap.size (.slice (some ⟨w.heap.size, 0, none⟩) l.length l.length) (l.take k ++ List.replicate (l.length - k) 0) ∧ Below w.heap.size w wr) (fun i _ => l.length - (intOf i).toNat)
  case atStart => exact ⟨0, Nat.zero_le _, rfl, by simpa using OwnI.made w l.length (by unfold maxLen; omega), (Below.refl _ _).alloc (Nat.le_refl _) _⟩
  case round =>
    obtain ⟨k, hk, rfl, hown, hbel⟩ := hrel
    have HB := Lib.hid hbel
    have HO := Lib.hid hown
    clear hown hbel
    by_cases hlt : k < l.length
    · obtain ⟨ad, rfl, hb, hc⟩ := hr (by rintro rfl; simp at hlt)
      have hck := (HB.out.cell (p := ad.add k) (by rw [add_block]; exact hb)).trans (hc k hlt)
      obtain ⟨_, _, o3, o4⟩ := HO.out.cells
      have hd := o3 k (by simp; omega)
      have hf := o4 k
      obtain ⟨x, hx⟩ : ∃ x, l[k]?.getD 0 = x := ⟨_, rfl⟩
      rw [hx] at hck
      obtain ⟨y, hy⟩ : ∃ y, (l.take k ++ List.replicate (l.length - k) 0)[k]?.getD 0 = y := ⟨_, rfl⟩
      rw [hy] at hd
      have HX := Lib.hid hx
      clear hx hy hc o3 o4 hr
      have hgk := HO.out.set k x
      rw [fill_step l k l.length hlt hlt x HX.out] at hgk
      have HK := Lib.hid hgk
      clear hgk
      go_wp2
      go_roundw
      case rel => exact ⟨k + 1, by omega, by go_num, HK.out, HB.out.setCell (Nat.le_refl _) _⟩
      case measure => simp only [intOf]; omega
    · obtain rfl : k = l.length := by omega
      have hfin := HO.out
      rw [Nat.sub_self, List.replicate_zero, List.append_nil, List.take_length] at hfin
      have HFin := Lib.hid hfin
      clear hfin
      go_wp2
      go_ret
      exact ⟨_, rfl, HFin.out, HB.out⟩

/-- n marks from k on -/
def marks (k : Int) (n : Nat) : List Int := (List.range n).map fun i => k + (i : Nat)
theorem marks_length (k : Int) (n : Nat) : (marks k n).length = n := by simp [marks]
theorem marks_get (k : Int) (n i : Nat) (h : i < n) : (marks k n)[i]?.getD 0 = k + (i : Nat) := by simp [marks, h]
theorem marks_succ (k : Int) (n : Nat) : marks k (n + 1) = marks k n ++ [k + (n : Nat)] := by simp [marks, List.range_succ]
theorem marks_step (l : List Int) (k : Int) (j : Nat) (h : j < l.length) : (marks k j ++ l.drop j).set j (k + (j : Nat)) = marks k (j + 1) ++ l.drop (j + 1) := by
  rw [List.set_append_right _ _ (by rw [marks_length]; exact Nat.le_refl _), marks_length, Nat.sub_self, List.drop_eq_getElem_cons h, List.set_cons_zero, marks_succ, List.append_assoc]
  rfl

set_option maxHeartbeats 1000000 in
theorem markInt64S_any (v : Value) (base : Nat) (l : List Int) (k : Int) (w : World) (hl : l.length ≤ 10485760) (hk : 0 ≤ k) (hk2 : k ≤ 1000000000000) (hown : OwnI w base v l) :
    Calls Try.prog 47 #[v, .int .i64 k] w fun e w' => e = .returned (.int .i64 (k + l.length)) ∧ OwnI w' base v (marks k l.length) ∧ w.grownBy w' v.ownBlock := by
  by_cases hnil : l = []
  · subst hnil
    have HO := Lib.hid hown
    obtain ⟨A, c, rfl, _⟩ := hown.form
    clear hown
    go_enter Try.func47, Try.ntmps47
    go_wp2
    refine wp_loop_rounds 1 ?_
    rw [rounds_succ]
    go_wp2
    go_ret
    exact ⟨ret_int (by simp), HO.out, grown_refl _ _⟩
  · obtain ⟨g, c, rfl⟩ := hown.openv hnil
    have HO := Lib.hid hown
    clear hown
    go_enter Try.func47, Try.ntmps47
    go_wp2
    go_loopw [5, 1] (fun i m wr => ∃ j : Nat, j ≤ l.length ∧ i = .int .i64 j ∧ m = .int .i64 (k + j) ∧ OwnI wr base (.slice (some ⟨g, 0, none⟩) l.length c) (marks k j ++ l.drop j) ∧ w.grownBy wr (some g)) (fun i _ _ => l.length - (intOf i).toNat)
    case atStart => exact ⟨0, Nat.zero_le _, rfl, by simp, HO.out, grown_refl _ _⟩
    case round =>
      obtain ⟨j, hj, rfl, rfl, ho, hg⟩ := hrel
      have HG := Lib.hid hg
      have HJ := Lib.hid ho
      clear ho hg
      by_cases hlt : j < l.length
      · obtain ⟨_, _, o3, o4⟩ := HJ.out.cells
        have hd := o3 j (by simp [marks_length]; omega)
        have hf := o4 j
        obtain ⟨y, hy⟩ : ∃ y, (marks k j ++ l.drop j)[j]?.getD 0 = y := ⟨_, rfl⟩
        rw [hy] at hd
        have hset := HJ.out.set j (k + (j : Nat))
        rw [marks_step l k j hlt] at hset
        have HS := Lib.hid hset
        clear hy o3 o4 hset
        go_wp2
        go_roundw
        case rel => exact ⟨j + 1, by omega, by go_num, by rw [show k + ((j + 1 : Nat) : Int) = k + j + 1 by omega], HS.out, grown_trans HG.out (grown_setCell _ _ _ _)⟩
        case measure => simp only [intOf]; omega
      · obtain rfl : j = l.length := by omega
        have hfin := HJ.out
        rw [List.drop_length, List.append_nil] at hfin
        have HFin := Lib.hid hfin
        clear hfin
        go_wp2
        go_ret
        exact ⟨rfl, HFin.out, HG.out⟩

set_option maxHeartbeats 1000000 in
theorem heldInt64S_any (A : Option Addr) (c n : Nat) (k : Int) (w : World) (hl : n ≤ 10485760) (hk : 0 ≤ k) (hk2 : k ≤ 1000000000000) (hr : RI w A (marks k n)) :
    Calls Try.prog 82 #[.slice A n c, .int .i64 k] w fun e w' => e = .returned (.int .i64 (k + n)) ∧ w = w' := by
  go_enter Try.func82, Try.ntmps82
  go_wp2
  go_loop [5, 1] (fun i m => ∃ j : Nat, j ≤ n ∧ i = .int .i64 j ∧ m = .int .i64 (k + j)) (fun i _ => n - (intOf i).toNat)
  case atStart => exact ⟨0, Nat.zero_le _, rfl, by simp⟩
  case round =>
    obtain ⟨j, hj, rfl, rfl⟩ := hrel
    by_cases hlt : j < n
    · obtain ⟨b, off, rfl, hb, hc⟩ := hr (by intro h; have := congrArg List.length h; rw [marks_length] at this; simp at this; omega)
      have hck := hc j (by rw [marks_length]; exact hlt)
      rw [marks_get _ _ _ hlt] at hck
      clear hc hr
      go_wp2
      go_round
      case rel => exact ⟨j + 1, by omega, by go_num, by rw [show k + ((j + 1 : Nat) : Int) = k + j + 1 by omega]⟩
      case measure => simp only [intOf]; omega
    · obtain rfl : j = n := by omega
      go_wp2
      go_ret
      exact ⟨rfl, rfl⟩

set_option maxHeartbeats 1000000 in
theorem eqInt64S_any (A B : Option Addr) (c d : Nat) (l : List Int) (w : World) (hl : l.length ≤ 10485760) (ha : RI w A l) (hb : RI w B l) :
    Calls Try.prog 38 #[.slice A l.length c, .slice B l.length d] w fun e w' => e = .returned (.bool true) ∧ Below w.heap.size w w' := by
  go_enter Try.func38, Try.ntmps38
  go_wp2
  go_loopw [5] (fun i wr => ∃ j : Nat, j ≤ l.length ∧ i = .int .i64 j ∧ Below w.heap.size w wr) (fun i _ => l.length - (intOf i).toNat)
  case atStart => exact ⟨0, Nat.zero_le _, rfl, Below.refl _ _⟩
  case round =>
    obtain ⟨j, hj, rfl, hbel⟩ := hrel
    have HB := Lib.hid hbel
    clear hbel
    by_cases hlt : j < l.length
    · obtain ⟨b, off, rfl, hb1, hc1⟩ := ha (by rintro rfl; simp at hlt)
      obtain ⟨b', off', rfl, hb2, hc2⟩ := hb (by rintro rfl; simp at hlt)
      have h1 := (HB.out.cell (p := ⟨b, off + j, none⟩) hb1).trans (hc1 j hlt)
      have h2 := (HB.out.cell (p := ⟨b', off' + j, none⟩) hb2).trans (hc2 j hlt)
      obtain ⟨x, hx⟩ : ∃ x, l[j]?.getD 0 = x := ⟨_, rfl⟩
      rw [hx] at h1 h2
      have j1 : (0 : Int) ≤ (j : Int) := by omega
      have j2 : (j : Int) < (l.length : Int) := by omega
      clear hx hc1 hc2 ha hb
      go_wp2
      go_quiet (fail)
      go_wp2
      go_roundw
      case rel => exact ⟨j + 1, by omega, by go_num, below_drewN HB.out _⟩
      case measure => simp only [intOf]; omega
    · obtain rfl : j = l.length := by omega
      go_wp2
      go_ret
      exact ⟨rfl, HB.out⟩

end Go.Proofs.Ytlpfifdocgljnaa

/- Contracts of the functions that look at series, of the program. -/
namespace Go.Proofs.Ytlpfifdocgljnaa
open Go.RowKit Go.WideShapes Go.ChangeShapes Go.ChangeAt

theorem below_alloc {w w' : World} (o : Obj) (h : Below w.heap.size w w') : Below w.heap.size w (w'.alloc o) := h.alloc h.size o
theorem below_one (w : World) (o : Obj) : Below w.heap.size w (w.alloc o) := (Below.refl _ _).alloc (Nat.le_refl _) o

theorem degree_any (m : Int) (A : Option Addr) (n c : Nat) (w : World) (hn : n ≤ 9223372036854775807) :
    Calls Try.prog 69 #[.agg #[.int .i64 m, .slice A n c]] w fun e w' => e = .returned (.int .i64 ((n : Int) - 1)) ∧ Below w.heap.size w w' := by
  go_enter Try.func69, Try.ntmps69
  go_wp2
  go_ret
  exact ⟨rfl, below_one _ _⟩

/-- the block of a series in a variable of its own -/
def Box (w : World) (g : Nat) (m : Int) (A : Option Addr) (n c : Nat) : Prop := w.cell? ⟨g, 0, none⟩ = some (.int .i64 m) ∧ w.cell? ⟨g, 1, none⟩ = some (.slice A n c) ∧ g < w.heap.size
theorem Box.new (w : World) (m : Int) (A : Option Addr) (n c : Nat) : Box (w.alloc (.cells #[.int .i64 m, .slice A n c] 34)) w.heap.size m A n c := by
  refine ⟨?_, ?_, by simp⟩ <;> rw [World.cell?_alloc_at _ _ _ _ rfl] <;> rfl
theorem Box.keep {w w' : World} {g : Nat} {m : Int} {A : Option Addr} {n c : Nat} (h : Box w g m A n c) (hb : Below w.heap.size w w') : Box w' g m A n c :=
  ⟨(hb.cell (p := ⟨g, 0, none⟩) h.2.2).trans h.1, (hb.cell (p := ⟨g, 1, none⟩) h.2.2).trans h.2.1, Nat.lt_of_lt_of_le h.2.2 hb.size⟩

theorem box_in {W w' : World} {g : Nat} {m : Int} {A : Option Addr} {n c : Nat} (h : Box W g m A n c) (hb : Below W.heap.size W w') : w'.cell? ⟨g, 0, none⟩ = some (.int .i64 m) ∧ w'.cell? ⟨g, 1, none⟩ = some (.slice A n c) :=
  ⟨(h.keep hb).1, (h.keep hb).2.1⟩
theorem box2_in {W w' : World} {g g' : Nat} {m m' : Int} {A A' : Option Addr} {n c n' c' : Nat} (h : Box W g m A n c) (h' : Box W g' m' A' n' c') (hb : Below W.heap.size W w') :
    (w'.cell? ⟨g, 0, none⟩ = some (.int .i64 m) ∧ w'.cell? ⟨g, 1, none⟩ = some (.slice A n c)) ∧ (w'.cell? ⟨g', 0, none⟩ = some (.int .i64 m') ∧ w'.cell? ⟨g', 1, none⟩ = some (.slice A' n' c')) ∧ Below W.heap.size W w' :=
  ⟨box_in h hb, box_in h' hb, hb⟩
theorem box2_next {W w w' : World} {g g' : Nat} {m m' : Int} {A A' : Option Addr} {n c n' c' : Nat} {p q : Prop} (h : Box W g m A n c) (h' : Box W g' m' A' n' c') (hb : Below w.heap.size w w') (hs : p ∧ q ∧ Below W.heap.size W w) :
    (w'.cell? ⟨g, 0, none⟩ = some (.int .i64 m) ∧ w'.cell? ⟨g, 1, none⟩ = some (.slice A n c)) ∧ (w'.cell? ⟨g', 0, none⟩ = some (.int .i64 m') ∧ w'.cell? ⟨g', 1, none⟩ = some (.slice A' n' c')) ∧ Below W.heap.size W w' :=
  box2_in h h' (hs.2.2.trans (hb.mono hs.2.2.size))
theorem box1_in {W w' : World} {g : Nat} {m : Int} {A : Option Addr} {n c : Nat} (h : Box W g m A n c) (hb : Below W.heap.size W w') :
    (w'.cell? ⟨g, 0, none⟩ = some (.int .i64 m) ∧ w'.cell? ⟨g, 1, none⟩ = some (.slice A n c)) ∧ Below W.heap.size W w' := ⟨box_in h hb, hb⟩
theorem box1_next {W w w' : World} {g : Nat} {m : Int} {A : Option Addr} {n c : Nat} {p : Prop} (h : Box W g m A n c) (hb : Below w.heap.size w w') (hs : p ∧ Below W.heap.size W w) :
    (w'.cell? ⟨g, 0, none⟩ = some (.int .i64 m) ∧ w'.cell? ⟨g, 1, none⟩ = some (.slice A n c)) ∧ Below W.heap.size W w' := box1_in h (hs.2.trans (hb.mono hs.2.size))
theorem box_call {w w' : World} {g : Nat} {m : Int} {A : Option Addr} {n c : Nat} (hb : Below w.heap.size w w') (h : w.cell? ⟨g, 0, none⟩ = some (.int .i64 m) ∧ w.cell? ⟨g, 1, none⟩ = some (.slice A n c) ∧ g < w.heap.size) :
    w'.cell? ⟨g, 0, none⟩ = some (.int .i64 m) ∧ w'.cell? ⟨g, 1, none⟩ = some (.slice A n c) ∧ g < w'.heap.size := Box.keep (show Box w g m A n c from h) hb
theorem box_store {w : World} {g b : Nat} {m : Int} {A : Option Addr} {n c : Nat} {x y : Value} (hne : b ≠ g) (h : w.cell? ⟨g, 0, none⟩ = some (.int .i64 m) ∧ w.cell? ⟨g, 1, none⟩ = some (.slice A n c) ∧ g < w.heap.size) :
    ((w.setCell ⟨b, 0, none⟩ x).setCell ⟨b, 1, none⟩ y).cell? ⟨g, 0, none⟩ = some (.int .i64 m) ∧ ((w.setCell ⟨b, 0, none⟩ x).setCell ⟨b, 1, none⟩ y).cell? ⟨g, 1, none⟩ = some (.slice A n c) ∧ g < ((w.setCell ⟨b, 0, none⟩ x).setCell ⟨b, 1, none⟩ y).heap.size := by
  refine ⟨?_, ?_, by simpa [World.setCell] using h.2.2⟩
  · rw [World.cell?_setCell_other _ _ _ _ (by intro e; injection e with e; exact hne e), World.cell?_setCell_other _ _ _ _ (by intro e; injection e with e; exact hne e)]; exact h.1
  · rw [World.cell?_setCell_other _ _ _ _ (by intro e; injection e with e; exact hne e), World.cell?_setCell_other _ _ _ _ (by intro e; injection e with e; exact hne e)]; exact h.2.1
theorem snd_of {p q : Prop} (h : p ∧ q) : q := h.2
theorem below_drew0 (w : World) : Below w.heap.size w w.drew := (Below.refl _ _).drew
theorem box2_new (w : World) (m m' : Int) (A A' : Option Addr) (n c n' c' : Nat) (W : World) (hW : ((w.alloc (.cells #[.int .i64 m, .slice A n c] 34)).alloc (.cells #[.int .i64 m', .slice A' n' c'] 34)) = W) :
    Box W w.heap.size m A n c ∧ Box W (w.heap.size + 1) m' A' n' c' ∧ Below w.heap.size w W := by
  subst hW
  have h1 := (Box.new w m A n c).keep (below_one _ (.cells #[.int .i64 m', .slice A' n' c'] 34))
  have h2 := Box.new (w.alloc (.cells #[.int .i64 m, .slice A n c] 34)) m' A' n' c'
  simp only [World.size_alloc] at h2
  exact ⟨h1, h2, below_alloc _ (below_one _ _)⟩
theorem alike_len (n n' : Nat) : ((n : Int) - 1 == (n' : Int) - 1) = decide (n = n') := by
  by_cases h : n = n'
  · subst h; simp
  · have : ¬ ((n : Int) - 1 = (n' : Int) - 1) := by omega
    simp [this, h]

set_option maxHeartbeats 1000000 in
theorem isAlike_any (m m' : Int) (A A' : Option Addr) (n c n' c' : Nat) (w : World) (hn : n ≤ 9223372036854775807) (hn' : n' ≤ 9223372036854775807) :
    Calls Try.prog 103 #[.agg #[.int .i64 m, .slice A n c], .agg #[.int .i64 m', .slice A' n' c']] w fun e w' => e = .returned (.bool (decide (m = m') && decide (n = n'))) ∧ Below w.heap.size w w' := by
  obtain ⟨W, hW⟩ : ∃ W, ((w.alloc (.cells #[.int .i64 m, .slice A n c] 34)).alloc (.cells #[.int .i64 m', .slice A' n' c'] 34)) = W := ⟨_, rfl⟩
  obtain ⟨b1, b2, hwb⟩ := box2_new w m m' A A' n c n' c' W hW
  have HB := Lib.hid hwb
  have HW := Lib.hid hW
  have B1 := Lib.hid b1
  have B2 := Lib.hid b2
  clear hwb hW b1 b2
  by_cases hm : m = m'
  · subst hm
    go_enter Try.func103, Try.ntmps103
    go_wp2
    rw [HW.out]
    go_region_held3 (fun w' => (w'.cell? ⟨w.heap.size, 0, none⟩ = some (.int .i64 m) ∧ w'.cell? ⟨w.heap.size, 1, none⟩ = some (.slice A n c)) ∧ (w'.cell? ⟨w.heap.size + 1, 0, none⟩ = some (.int .i64 m) ∧ w'.cell? ⟨w.heap.size + 1, 1, none⟩ = some (.slice A' n' c')) ∧ Below W.heap.size W w') (first | exact box2_in B1.out B2.out (below_drew0 _) | exact box2_next B1.out B2.out (by assumption) (by assumption)) (first
      | (go_at_call 69; refine (degree_any _ _ _ _ _ (by assumption)).mono ?_; rintro e1 w1 ⟨rfl, hb1⟩))
    all_goals go_wp2
    all_goals go_ret
    all_goals exact ⟨ret_bool (by show (((n : Int) - 1 == (n' : Int) - 1)) = _; rw [alike_len]; simp), HB.out.trans ((box2_next B1.out B2.out (Below.refl _ _) (by assumption)).2.2.mono HB.out.size)⟩
  · obtain ⟨n1, n2⟩ : (m == m') = false ∧ decide (m = m') = false := ⟨by simpa using hm, by simpa using hm⟩
    have N2 := Lib.hid n2
    clear n2
    obtain ⟨x1, x2, _⟩ := B1.out
    obtain ⟨y1, y2, _⟩ := B2.out
    go_enter Try.func103, Try.ntmps103
    go_wp2
    rw [HW.out]
    go_quiet (fail)
    go_wp2
    go_ret
    exact ⟨ret_bool (by rw [N2.out]; rfl), below_drewN HB.out _⟩

/-- a list of coefficients with a modulus is a series -/
def isS (m : Int) (l : List Int) : Bool := inB ((l.length : Int) - 1) 1 10 && codeN m l == 0
theorem isS_iff {m : Int} {l : List Int} (h : isS m l = true) : 2 ≤ l.length ∧ l.length ≤ 11 ∧ codeN m l = 0 := by
  unfold isS at h
  rw [Bool.and_eq_true, inB_iff] at h
  refine ⟨by omega, by omega, by simpa using h.2⟩
set_option maxHeartbeats 1000000 in
theorem IsSeries_any (m : Int) (A : Option Addr) (c : Nat) (l : List Int) (w : World) (hl : l.length ≤ 9223372036854775807) (hr : RI w A l) :
    Calls Try.prog 102 #[.agg #[.int .i64 m, .slice A l.length c]] w fun e w' => e = .returned (.bool (isS m l)) ∧ Below w.heap.size w w' := by
  have HR := Lib.hid hr
  clear hr
  by_cases h1 : inB ((l.length : Int) - 1) 1 10 = true
  · have HF := Lib.hid (show isS m l = (codeN m l == 0) by unfold isS; rw [h1]; rfl)
    go_enter Try.func102, Try.ntmps102
    go_wp2_with (first
      | (go_at_call 69; refine (degree_any _ _ _ _ _ hl).mono ?_; rintro e w1 ⟨rfl, hb1⟩; have hb2 := (below_one w (.cells #[.int .i64 m, .slice A l.length c] 34)).trans (hb1.mono (by simp)); obtain ⟨x1, x2⟩ := box_in (Box.new w m A l.length c) hb1)
      | (go_at_call 53; refine (isWithin_any _ _ _ _).mono ?_; rintro e w' ⟨rfl, rfl⟩)
      | (go_at_call 111; refine (codeOfNumbers_any _ _ _ l _ hl (HR.out.below hb2)).mono ?_; rintro e w' ⟨rfl, rfl⟩))
    go_ret
    exact ⟨ret_bool HF.out.symm, by assumption⟩
  · have h1' : inB ((l.length : Int) - 1) 1 10 = false := by simpa using h1
    have HF := Lib.hid (show isS m l = false by unfold isS; rw [h1']; rfl)
    clear h1
    go_enter Try.func102, Try.ntmps102
    go_wp2_with (first
      | (go_at_call 69; refine (degree_any _ _ _ _ _ hl).mono ?_; rintro e w1 ⟨rfl, hb1⟩; have hb2 := (below_one w (.cells #[.int .i64 m, .slice A l.length c] 34)).trans (hb1.mono (by simp)))
      | (go_at_call 53; refine (isWithin_any _ _ _ _).mono ?_; rintro e w' ⟨rfl, rfl⟩))
    go_ret
    exact ⟨ret_bool HF.out.symm, by assumption⟩
end Go.Proofs.Ytlpfifdocgljnaa

/- Contract of seriesOf: the list of the remainders of what a function value tells. -/
namespace Go.Proofs.Ytlpfifdocgljnaa
open Go.RowKit Go.WideShapes Go.ChangeShapes Go.ChangeAt

theorem cut_step (m : Int) (d : Nat) (f : Nat → Int) (k : Nat) (h : k ≤ d) : ((Ser.cut m d f).take k ++ List.replicate (d + 1 - k) 0).set k (f k % m) = (Ser.cut m d f).take (k + 1) ++ List.replicate (d + 1 - (k + 1)) 0 := by
  have hl := Ser.cut_length m d f
  rw [Ser.cut_take_succ m d f k h, List.set_append_right _ _ (by simp; omega), List.length_take, hl, Nat.min_eq_left (by omega), Nat.sub_self, show d + 1 - k = (d + 1 - (k + 1)) + 1 by omega, List.replicate_succ, List.set_cons_zero, List.append_assoc]
  rfl

/-- a function with a Go body is entered, called by whatever value -/
theorem enters_fn {f : FuncId} {fn : Func} {c : Code} (h : Try.prog.funcs[f]? = some fn) (hn : fn.name ≠ "runtime.NumGoroutine") (hb : fn.body = some c) (args : Array Value) (W : World) :
    (callFunc f args).run Try.prog W = .ok (.enter f args) W := by
  simp [callFunc, h, hn, hb]

/-- block g holds a series' variable -/
def Var2 (w : World) (g : Nat) (x y : Value) : Prop := w.heap[g]? = some (.cells #[x, y] 34 (0, 0))
theorem Var2.new (w : World) (x y : Value) : Var2 (w.alloc (.cells #[x, y] 34)) w.heap.size x y := heap_alloc_new w _
theorem Var2.lt {w : World} {g : Nat} {x y : Value} (h : Var2 w g x y) : g < w.heap.size := (Array.getElem?_eq_some_iff.1 h).1
theorem Var2.keep {w w' : World} {g : Nat} {x y : Value} (h : Var2 w g x y) (hb : Below w.heap.size w w') : Var2 w' g x y := (hb.block g h.lt).trans h
theorem Var2.far {w : World} {g : Nat} {x y : Value} (h : Var2 w g x y) (b i : Nat) (u : Value) (hne : b ≠ g) : Var2 (w.setCell ⟨b, i, none⟩ u) g x y :=
  (Below.heap_setCell w ⟨b, i, none⟩ u g (fun e => hne e.symm)).trans h
theorem Var2.c0 {w : World} {g : Nat} {x y : Value} (h : Var2 w g x y) : w.cell? ⟨g, 0, none⟩ = some x := by unfold Var2 at h; simp [World.cell?, h]
theorem Var2.c1 {w : World} {g : Nat} {x y : Value} (h : Var2 w g x y) : w.cell? ⟨g, 1, none⟩ = some y := by unfold Var2 at h; simp [World.cell?, h]
theorem Var2.fz {w : World} {g : Nat} {x y : Value} (h : Var2 w g x y) (k : Nat) : w.frozen? ⟨g, k, none⟩ = false := by unfold Var2 at h; simp [World.frozen?, h]
theorem Var2.set0 {w : World} {g : Nat} {x y : Value} (h : Var2 w g x y) (u : Value) : Var2 (w.setCell ⟨g, 0, none⟩ u) g u y := by
  unfold Var2 at h ⊢; simp [World.setCell, Array.getElem?_modify, h]
theorem Var2.set1 {w : World} {g : Nat} {x y : Value} (h : Var2 w g x y) (u : Value) : Var2 (w.setCell ⟨g, 1, none⟩ u) g x u := by
  unfold Var2 at h ⊢; simp [World.setCell, Array.getElem?_modify, h]
/-- both cells stored -/
def set2 (w : World) (g : Nat) (x y : Value) : World := (w.setCell ⟨g, 0, none⟩ x).setCell ⟨g, 1, none⟩ y
theorem Var2.set2 {w : World} {g : Nat} {x y : Value} (h : Var2 w g x y) (x' y' : Value) : Var2 (set2 w g x' y') g x' y' := (h.set0 x').set1 y'
theorem below_set2 {B : Nat} {w w' : World} {g : Nat} (hb : Below B w w') (hg : B ≤ g) (x y : Value) : Below B w (set2 w' g x y) := (hb.setCell hg x).setCell hg y
theorem grown_set2 (w : World) (g : Nat) (x y : Value) : w.grownBy (set2 w g x y) (some g) := grown_trans (grown_setCell w g 0 x) (grown_setCell _ g 1 y)

/-- a result is stored into its variable: what the return reads -/
theorem fin_var {w w2 : World} {g base : Nat} {v x y : Value} {l : List Int} (hv : Var2 w2 g x y) (ho : OwnI w2 base v l) (hg : g < base) (hwg : w.heap.size ≤ g) (hb : Below w.heap.size w w2) (p q : Value) :
    ((w2.setCell ⟨g, 0, none⟩ p).setCell ⟨g, 1, none⟩ q).cell? ⟨g, 0, none⟩ = some p ∧ ((w2.setCell ⟨g, 0, none⟩ p).setCell ⟨g, 1, none⟩ q).cell? ⟨g, 1, none⟩ = some q ∧
    OwnI ((w2.setCell ⟨g, 0, none⟩ p).setCell ⟨g, 1, none⟩ q) w.heap.size v l ∧ Below w.heap.size w ((w2.setCell ⟨g, 0, none⟩ p).setCell ⟨g, 1, none⟩ q) := by
  have h := hv.set2 p q
  refine ⟨h.c0, h.c1, OwnI.more (base := base) (ho.other (grown_set2 w2 g p q) ?_) (by omega), below_set2 hb hwg p q⟩
  rcases hc : v.ownBlock with _ | b
  · exact .inl rfl
  · refine .inr (fun e => ?_)
    injection e with e
    have := (ho.lt b hc).1
    omega

set_option maxHeartbeats 2000000 in
set_option maxRecDepth 100000 in
theorem seriesOf_any (m : Int) (d fn : Nat) (cap : Array Value) (f : Nat → Int) (w : World) (h1 : 1 ≤ m) (h2 : m ≤ 10000) (hd : d ≤ 1000) (hlo : ∀ n, n ≤ d → -1000000000000 ≤ f n ∧ f n ≤ 1000000000000)
    (hen : ∀ (args : Array Value) (W : World), (callFunc fn args).run Try.prog W = .ok (.enter fn args) W)
    (hf : ∀ (n : Nat) (W : World), n ≤ d → Below w.heap.size w W → Calls Try.prog fn (#[.int .i64 n] ++ cap) W fun e w' => e = .returned (.int .i64 (f n)) ∧ Below W.heap.size W w') :
    Calls Try.prog 78 #[.int .i64 m, .int .i64 d, .func (.func fn) #[] cap] w fun e w' => ∃ v, e = .returned (.agg #[.int .i64 m, v]) ∧ OwnI w' w.heap.size v (Ser.cut m d f) ∧ Below w.heap.size w w' := by
  have HF := Lib.hid hf
  have HL := Lib.hid hlo
  clear hf hlo
  have hmk : ∀ W : World, (Instr.makeSlice 25 (.int .i64 ((d : Int) + 1)) (.int .i64 ((d : Int) + 1))).run Try.prog W = .ok (.slice (some ⟨W.heap.size, 0, none⟩) (d + 1) (d + 1)) (W.alloc (.cells (madeCells #[.int .i64 0] (d + 1)) 2)) := by
    intro W
    have := run_make_row' (P := Try.prog) 25 2 (.int .i64 0) 8 Try.underlying25 info64 rfl .i64 .i64 (d + 1) (by omega) (by omega) W
    rwa [show ((d + 1 : Nat) : Int) = (d : Int) + 1 by omega] at this
  go_enter Try.func78, Try.ntmps78
  go_wp2
  go_loopw [14] (fun i wr => ∃ k : Nat, k ≤ d + 1 ∧ i = .int .i64 k ∧ OwnI wr (w.heap.size + 1) (.slice (some ⟨w.heap.size + 1, 0, none⟩) (d + 1) (d + 1)) ((Ser.cut m d f).take k ++ List.replicate (d + 1 - k) 0) ∧ Var2 wr w.heap.size (.int .i64 0) (.slice none 0 0) ∧ Below w.heap.size w wr) (fun i _ => d + 1 - (intOf i).toNat)
  case atStart =>
    refine ⟨0, Nat.zero_le _, rfl, ?_, (Var2.new w _ _).keep (below_one _ _), below_alloc _ (below_one _ _)⟩
    have h := OwnI.made (w.alloc (.cells #[.int .i64 0, .slice none 0 0] 34)) (d + 1) (by unfold maxLen; omega)
    simpa using h
  case round =>
    clear hmk
    obtain ⟨k, hk, rfl, hown, hvar, hbel⟩ := hrel
    have HV := Lib.hid hvar
    have HB := Lib.hid hbel
    have HO := Lib.hid hown
    clear hown hbel hvar
    by_cases hlt : k < d + 1
    · obtain ⟨q1, q2⟩ := HL.out k (by omega)
      obtain ⟨F, hF⟩ : ∃ F, f k = F := ⟨_, rfl⟩
      have HC := HF.out k wr (by omega) HB.out
      rw [hF] at q1 q2 HC
      have HC' := Lib.hid HC
      have HFk := Lib.hid hF
      clear HC hF
      have hkd : (k : Int) < (d : Int) + 1 := by omega
      go_wp2_with fail
      refine HC'.out.mono ?_
      rintro e w1 ⟨rfl, hb1⟩
      have HO1 := Lib.hid (HO.out.keep hb1)
      have HV1 := Lib.hid (HV.out.keep hb1)
      obtain ⟨_, _, o3, o4⟩ := HO1.out.cells
      have hd1 := o3 k (by simp [Ser.cut_length]; omega)
      have hf1 := o4 k
      obtain ⟨y, hy⟩ : ∃ y, ((Ser.cut m d f).take k ++ List.replicate (d + 1 - k) 0)[k]?.getD 0 = y := ⟨_, rfl⟩
      rw [hy] at hd1
      have hs := HO1.out.set k (f k % m)
      rw [cut_step m d f k (by omega), HFk.out] at hs
      have HS := Lib.hid hs
      have HB1 := Lib.hid (HB.out.trans (hb1.mono HB.out.size))
      clear hy o3 o4 hs hb1
      go_wp2_with (first | (go_at_call 105; refine (remainder_any _ _ _ h1 h2 q1 q2).mono ?_; rintro e w' ⟨rfl, rfl⟩))
      go_roundw
      case rel => exact ⟨k + 1, by omega, by go_num, HS.out, HV1.out.far _ _ _ (by omega), HB1.out.setCell (by show w.heap.size ≤ w.heap.size + 1; omega) _⟩
      case measure => simp only [intOf]; omega
    · obtain rfl : k = d + 1 := by omega
      have ho := HO.out
      rw [Ser.cut_take_all, Nat.sub_self, List.replicate_zero, List.append_nil] at ho
      have HFin := Lib.hid ho
      clear ho
      have v0 := HV.out.c0
      have v1 := HV.out.c1
      have v2 := HV.out.fz 0
      have v3 := HV.out.fz 1
      obtain ⟨v4, v5⟩ : (set2 wr w.heap.size (.int .i64 m) (.slice (some ⟨w.heap.size + 1, 0, none⟩) (d + 1) (d + 1))).cell? ⟨w.heap.size, 0, none⟩ = some (.int .i64 m) ∧
        (set2 wr w.heap.size (.int .i64 m) (.slice (some ⟨w.heap.size + 1, 0, none⟩) (d + 1) (d + 1))).cell? ⟨w.heap.size, 1, none⟩ = some (.slice (some ⟨w.heap.size + 1, 0, none⟩) (d + 1) (d + 1)) := ⟨(HV.out.set2 _ _).c0, (HV.out.set2 _ _).c1⟩
      unfold set2 at v4 v5
      go_wp2
      refine bodyPost_ret (v := .agg #[.int .i64 m, .slice (some ⟨w.heap.size + 1, 0, none⟩) (d + 1) (d + 1)]) (by simp [results, Try.results78, go_sem, v4, v5]) rfl ⟨_, rfl, ?_, below_set2 HB.out (Nat.le_refl _) _ _⟩
      exact (HFin.out.other (grown_set2 wr w.heap.size _ _) (.inr (by simp [Value.ownBlock]))).more (by omega)
end Go.Proofs.Ytlpfifdocgljnaa

/- What the walks of exact laws over lists share: slices made one behind the other lie in blocks of their own. -/
namespace Go.Proofs.Ytlpfifdocgljnaa
open Go.RowKit Go.WideShapes Go.ChangeShapes Go.ChangeAt

theorem OwnI.ri {w : World} {base n c : Nat} {A : Option Addr} {l : List Int} (h : OwnI w base (.slice A n c) l) : RI w A l := by
  obtain ⟨A', c', e, hr⟩ := h.form
  injection e with e1 e2 e3
  rw [e1]; exact hr
/-- the blocks of two slices of the call's own differ, if the one was made behind the other -/
theorem apart {w1 w2 : World} {b1 b2 : Nat} {v u : Value} {l1 l2 : List Int} (hv : OwnI w1 b1 v l1) (hu : OwnI w2 b2 u l2) (h : w1.heap.size ≤ b2) : v.ownBlock = none ∨ v.ownBlock ≠ u.ownBlock := by
  rcases hc : v.ownBlock with _ | g
  · exact .inl rfl
  · refine .inr fun e => ?_
    have h1 := hv.lt g hc
    have h2 := hu.lt g e.symm
    omega
theorem apart' {w1 w2 : World} {b1 b2 : Nat} {v u : Value} {l1 l2 : List Int} (hv : OwnI w1 b1 v l1) (hu : OwnI w2 b2 u l2) (h : w1.heap.size ≤ b2) : u.ownBlock = none ∨ u.ownBlock ≠ v.ownBlock := by
  rcases apart hv hu h with e | e
  · rcases hc : u.ownBlock with _ | g
    · exact .inl rfl
    · exact .inr (by rw [e]; simp)
  · exact .inr (Ne.symm e)
/-- a mark's writes are no news below the block where the call began -/
theorem below_grown {w0 w w' : World} {base : Nat} {v : Value} {l : List Int} (hb : Below w0.heap.size w0 w) (hg : w.grownBy w' v.ownBlock) (ho : OwnI w base v l) (h : w0.heap.size ≤ base) : Below w0.heap.size w0 w' :=
  hb.grown hg hb.size (fun k hk => Nat.le_trans h (ho.lt k hk).1)
/-- a slice of integers that came in -/
theorem ra_of_row {w : World} {a : Option Addr} {len cap : Nat} {zs : List Int}
    (h : (a = none ∧ len = 0 ∧ cap = 0 ∧ zs = []) ∨ ∃ x : Addr, a = some x ∧ len ≤ cap ∧ cap ≤ maxLen ∧ zs.length = cap ∧ (∀ i, i < zs.length → w.cell? (x.add i) = some (.int .i64 (zs.getD i 0))) ∧ ∀ n ∈ zs, (Lit.int .i64 n).wf = true) :
    ∃ l : List Int, l.length = len ∧ len ≤ maxLen ∧ RA w a l := by
  rcases h with ⟨rfl, rfl, rfl, rfl⟩ | ⟨x, rfl, h1, h2, h3, h4, _⟩
  · exact ⟨[], rfl, Nat.zero_le _, fun h => absurd rfl h⟩
  · have hl : (zs.take len).length = len := by rw [List.length_take]; omega
    refine ⟨zs.take len, hl, Nat.le_trans h1 h2, fun hne => ?_⟩
    have hpos : 0 < len := by
      rcases Nat.eq_zero_or_pos len with h0 | h0
      · exact absurd (List.eq_nil_of_length_eq_zero (by omega)) hne
      · exact h0
    have hb := World.block_lt_of_cell? w _ (h4 0 (by omega))
    rw [add_block] at hb
    refine ⟨x, rfl, hb, fun k hk => ?_⟩
    rw [h4 k (by omega), List.getElem?_take, if_pos (by omega), List.getD_eq_getElem?_getD]

end Go.Proofs.Ytlpfifdocgljnaa

/- Contracts of the exact laws' helpers on series: size, copying, comparing, marking, looking at the marks. -/
namespace Go.Proofs.Ytlpfifdocgljnaa
open Go.RowKit Go.WideShapes Go.ChangeShapes Go.ChangeAt

theorem szInt64S_any (A : Option Addr) (n c : Nat) (left : Int) (w : World) (h1 : 0 ≤ left) (h2 : left ≤ 1048576) (hn : n ≤ 9223372036854775807) :
    Calls Try.prog 25 #[.slice A n c, .int .i64 left] w fun e w' => e = .returned (.int .i64 (if (n : Int) ≤ left then left - n else -1)) ∧ w = w' := by
  by_cases h : (n : Int) ≤ left
  · rw [if_pos h]
    go_enter Try.func25, Try.ntmps25
    go_wp2
    go_ret
    exact ⟨rfl, rfl⟩
  · rw [if_neg h]
    go_enter Try.func25, Try.ntmps25
    go_wp2
    go_ret
    exact ⟨rfl, rfl⟩

theorem szSeries_any (m : Int) (A : Option Addr) (n c : Nat) (left : Int) (w : World) (h1 : 0 ≤ left) (h2 : left ≤ 1048576) (hn : n ≤ 9223372036854775807) :
    Calls Try.prog 8 #[.agg #[.int .i64 m, .slice A n c], .int .i64 left] w fun e w' => e = .returned (.int .i64 (if (n : Int) ≤ left then left - n else -1)) ∧ Below w.heap.size w w' := by
  have hsz := fun W => szInt64S_any A n c left W h1 h2 hn
  by_cases h : (n : Int) ≤ left
  · rw [if_pos h] at hsz ⊢
    have HS := Lib.hid hsz
    clear hsz
    go_enter Try.func8, Try.ntmps8
    go_wp2_with (go_at_call 25; refine (HS.out _).mono ?_; rintro e w' ⟨rfl, rfl⟩)
    go_ret
    exact ⟨rfl, below_one _ _⟩
  · rw [if_neg h] at hsz ⊢
    have HS := Lib.hid hsz
    clear hsz
    go_enter Try.func8, Try.ntmps8
    go_wp2_with (go_at_call 25; refine (HS.out _).mono ?_; rintro e w' ⟨rfl, rfl⟩)
    go_ret
    exact ⟨rfl, below_one _ _⟩

theorem Box.newT (t : TypeId) (w : World) (m : Int) (A : Option Addr) (n c : Nat) : Box (w.alloc (.cells #[.int .i64 m, .slice A n c] t)) w.heap.size m A n c := by
  refine ⟨?_, ?_, by simp⟩ <;> rw [World.cell?_alloc_at _ _ _ _ rfl] <;> rfl
theorem start1 (t : TypeId) (w : World) (m : Int) (A : Option Addr) (n c : Nat) : ∃ W, w.alloc (.cells #[.int .i64 m, .slice A n c] t) = W ∧ Box W w.heap.size m A n c ∧ Below w.heap.size w W :=
  ⟨_, rfl, Box.newT t w m A n c, below_one _ _⟩
theorem start2 (t : TypeId) (w : World) (m : Int) (A : Option Addr) (n c : Nat) (m' : Int) (A' : Option Addr) (n' c' : Nat) :
    ∃ W, (w.alloc (.cells #[.int .i64 m, .slice A n c] t)).alloc (.cells #[.int .i64 m', .slice A' n' c'] t) = W ∧ Box W w.heap.size m A n c ∧ Box W (w.heap.size + 1) m' A' n' c' ∧ Below w.heap.size w W := by
  refine ⟨_, rfl, (Box.newT t w m A n c).keep (below_one _ _), ?_, below_alloc _ (below_one _ _)⟩
  have := Box.newT t (w.alloc (.cells #[.int .i64 m, .slice A n c] t)) m' A' n' c'
  simpa using this

theorem box22_call {w w' : World} {g g' : Nat} {m m' : Int} {A A' : Option Addr} {n c n' c' : Nat} (hb : Below w.heap.size w w')
    (h : (w.cell? ⟨g, 0, none⟩ = some (.int .i64 m) ∧ w.cell? ⟨g, 1, none⟩ = some (.slice A n c) ∧ g < w.heap.size) ∧ (w.cell? ⟨g', 0, none⟩ = some (.int .i64 m') ∧ w.cell? ⟨g', 1, none⟩ = some (.slice A' n' c') ∧ g' < w.heap.size)) :
    (w'.cell? ⟨g, 0, none⟩ = some (.int .i64 m) ∧ w'.cell? ⟨g, 1, none⟩ = some (.slice A n c) ∧ g < w'.heap.size) ∧ (w'.cell? ⟨g', 0, none⟩ = some (.int .i64 m') ∧ w'.cell? ⟨g', 1, none⟩ = some (.slice A' n' c') ∧ g' < w'.heap.size) :=
  ⟨box_call hb h.1, box_call hb h.2⟩
theorem box22_store {w : World} {g g' b : Nat} {m m' : Int} {A A' : Option Addr} {n c n' c' : Nat} {x y : Value} (hne : b ≠ g) (hne' : b ≠ g')
    (h : (w.cell? ⟨g, 0, none⟩ = some (.int .i64 m) ∧ w.cell? ⟨g, 1, none⟩ = some (.slice A n c) ∧ g < w.heap.size) ∧ (w.cell? ⟨g', 0, none⟩ = some (.int .i64 m') ∧ w.cell? ⟨g', 1, none⟩ = some (.slice A' n' c') ∧ g' < w.heap.size)) :
    (((w.setCell ⟨b, 0, none⟩ x).setCell ⟨b, 1, none⟩ y).cell? ⟨g, 0, none⟩ = some (.int .i64 m) ∧ ((w.setCell ⟨b, 0, none⟩ x).setCell ⟨b, 1, none⟩ y).cell? ⟨g, 1, none⟩ = some (.slice A n c) ∧ g < ((w.setCell ⟨b, 0, none⟩ x).setCell ⟨b, 1, none⟩ y).heap.size) ∧
    (((w.setCell ⟨b, 0, none⟩ x).setCell ⟨b, 1, none⟩ y).cell? ⟨g', 0, none⟩ = some (.int .i64 m') ∧ ((w.setCell ⟨b, 0, none⟩ x).setCell ⟨b, 1, none⟩ y).cell? ⟨g', 1, none⟩ = some (.slice A' n' c') ∧ g' < ((w.setCell ⟨b, 0, none⟩ x).setCell ⟨b, 1, none⟩ y).heap.size) :=
  ⟨box_store hne h.1, box_store hne' h.2⟩

theorem Box.mark {w w' : World} {g : Nat} {m : Int} {A : Option Addr} {n c : Nat} {r : Option Nat} (hx : Box w g m A n c) (hg : w.grownBy w' r) (hne : r ≠ some g) : Box w' g m A n c := by
  obtain ⟨h1, h2, h3⟩ := hx
  have hb := hg.block g h3 (fun e => hne e.symm)
  refine ⟨?_, ?_, Nat.lt_of_lt_of_le h3 hg.size⟩
  · rw [← h1]; simp only [World.cell?, hb]
  · rw [← h2]; simp only [World.cell?, hb]

theorem szSeries_ok (m : Int) (A : Option Addr) (n c : Nat) (left : Int) (w : World) (h : (n : Int) ≤ left) (h2 : left ≤ 1048576) :
    Calls Try.prog 8 #[.agg #[.int .i64 m, .slice A n c], .int .i64 left] w fun e w' => e = .returned (.int .i64 (left - n)) ∧ Below w.heap.size w w' := by
  have := szSeries_any m A n c left w (by omega) h2 (by omega)
  rwa [if_pos h] at this
theorem szSeries_no (m : Int) (A : Option Addr) (n c : Nat) (left : Int) (w : World) (h : ¬ (n : Int) ≤ left) (h1 : 0 ≤ left) (h2 : left ≤ 1048576) (hn : n ≤ 9223372036854775807) :
    Calls Try.prog 8 #[.agg #[.int .i64 m, .slice A n c], .int .i64 left] w fun e w' => e = .returned (.int .i64 (-1)) ∧ Below w.heap.size w w' := by
  have := szSeries_any m A n c left w h1 h2 hn
  rwa [if_neg h] at this

theorem below_step {w w1 w2 : World} (h : Below w.heap.size w w1) (hb : Below w1.heap.size w1 w2) : Below w.heap.size w w2 := h.trans (hb.mono h.size)
theorem grown_alloc (w : World) (o : Obj) (r : Option Nat) : w.grownBy (w.alloc o) r := ⟨rfl, rfl, rfl, by simp, fun k hk _ => (below_one w o).block k hk⟩

set_option maxHeartbeats 1000000 in
theorem toSeries_any (m : Int) (A : Option Addr) (c : Nat) (l : List Int) (w : World) (hl : l.length ≤ 1048576) (hr : RA w A l) :
    Calls Try.prog 11 #[.agg #[.int .i64 m, .slice A l.length c]] w fun e w' => ∃ s, e = .returned (.agg #[.int .i64 m, s]) ∧ OwnI w' w.heap.size s l ∧ Below w.heap.size w w' := by
  obtain ⟨W, hW⟩ : ∃ W, (((w.alloc (.cells #[.int .i64 m, .slice A l.length c] 27)).alloc (.cells #[.int .i64 0, .slice none 0 0] 34)).alloc (.cells #[.int .i64 m, .slice none 0 0] 34)) = W := ⟨_, rfl⟩
  have hwb : Below w.heap.size w W := by rw [← hW]; exact below_alloc _ (below_alloc _ (below_one _ _))
  have v1 : Var2 W (w.heap.size + 1) (.int .i64 0) (.slice none 0 0) := by
    rw [← hW]
    have := (Var2.new (w.alloc (.cells #[.int .i64 m, .slice A l.length c] 27)) (.int .i64 0) (.slice none 0 0)).keep (below_one _ (.cells #[.int .i64 m, .slice none 0 0] 34))
    simpa using this
  have v2 : Var2 W (w.heap.size + 1 + 1) (.int .i64 m) (.slice none 0 0) := by
    rw [← hW]
    have := Var2.new ((w.alloc (.cells #[.int .i64 m, .slice A l.length c] 27)).alloc (.cells #[.int .i64 0, .slice none 0 0] 34)) (.int .i64 m) (.slice none 0 0)
    simpa using this
  have HR := Lib.hid (hr.below hwb)
  have HW := Lib.hid hW
  have HB := Lib.hid hwb
  have V1 := Lib.hid v1
  have V2 := Lib.hid v2
  clear hr hW hwb v1 v2
  go_enter Try.func11, Try.ntmps11
  go_wp2_with fail
  rw [HW.out]
  refine (toInt64S_any _ _ l _ hl HR.out).mono ?_
  rintro e w1 ⟨s, rfl, ho1, hb1⟩
  obtain ⟨A1, c1, rfl, _⟩ := ho1.form
  have hu := V2.out.keep hb1
  have q1 := hu.c1
  have q2 := hu.fz 1
  have hu2 := hu.set1 (.slice A1 l.length c1)
  have q3 := hu2.c0
  have q4 := hu2.c1
  have hr1 := (V1.out.keep hb1).far (w.heap.size + 1 + 1) 1 (.slice A1 l.length c1) (by omega)
  have q5 := hr1.c0
  have q6 := hr1.c1
  have q7 := hr1.fz 0
  have q8 := hr1.fz 1
  have hlt := V2.out.lt
  have hw2 : Below w.heap.size w (w1.setCell ⟨w.heap.size + 1 + 1, 1, none⟩ (.slice A1 l.length c1)) := (below_step HB.out hb1).setCell (by show w.heap.size ≤ w.heap.size + 1 + 1; omega) _
  have ho2 := ho1.other (grown_setCell w1 (w.heap.size + 1 + 1) 1 (.slice A1 l.length c1)) (by
    rcases hc : (Value.slice A1 l.length c1).ownBlock with _ | b
    · exact .inl rfl
    · refine .inr (fun e => ?_)
      injection e with e
      have := (ho1.lt b hc).1
      omega)
  obtain ⟨f0, f1, f2, f3⟩ := fin_var (w := w) hr1 ho2 (by omega) (by omega) hw2 (.int .i64 m) (.slice A1 l.length c1)
  have F2 := Lib.hid f2
  have F3 := Lib.hid f3
  clear f2 f3 hw2 ho2 ho1 hb1 hu hu2 hr1
  go_wp2
  refine bodyPost_ret (v := .agg #[.int .i64 m, .slice A1 l.length c1]) (by simp [results, Try.results11, go_sem, f0, f1]) rfl ⟨_, rfl, F2.out, F3.out⟩

set_option maxHeartbeats 1000000 in
theorem eqSeries_any (m : Int) (A B : Option Addr) (c d : Nat) (l : List Int) (w : World) (hl : l.length ≤ 10485760) (ha : RI w A l) (hb : RI w B l) :
    Calls Try.prog 14 #[.agg #[.int .i64 m, .slice A l.length c], .agg #[.int .i64 m, .slice B l.length d]] w fun e w' => e = .returned (.bool true) ∧ Below w.heap.size w w' := by
  have hb2 := (below_alloc (.cells #[.int .i64 m, .slice B l.length d] 34) (below_one w (.cells #[.int .i64 m, .slice A l.length c] 34)))
  have HA := Lib.hid (ha.below hb2)
  have HB := Lib.hid (hb.below hb2)
  have H2 := Lib.hid hb2
  clear ha hb hb2
  go_enter Try.func14, Try.ntmps14
  go_wp2_with (go_at_call 38; refine (eqInt64S_any _ _ _ _ l _ hl HA.out HB.out).mono ?_; rintro e w' ⟨rfl, hb3⟩)
  go_ret
  exact ⟨rfl, below_step H2.out hb3⟩

set_option maxHeartbeats 1000000 in
theorem markSeries_any (m : Int) (v : Value) (base : Nat) (l : List Int) (k : Int) (w : World) (hl : l.length ≤ 10485760) (hk : 0 ≤ k) (hk2 : k ≤ 1000000000000) (hown : OwnI w base v l) :
    Calls Try.prog 17 #[.agg #[.int .i64 m, v], .int .i64 k] w fun e w' => e = .returned (.int .i64 (k + l.length)) ∧ OwnI w' base v (marks k l.length) ∧ w.grownBy w' v.ownBlock := by
  obtain ⟨A, c, rfl, _⟩ := hown.form
  have HO := Lib.hid (hown.keep (below_one w (.cells #[.int .i64 m, .slice A l.length c] 34)))
  clear hown
  go_enter Try.func17, Try.ntmps17
  go_wp2_with (go_at_call 47; refine (markInt64S_any _ base l k _ hl hk hk2 HO.out).mono ?_; rintro e w' ⟨rfl, ho2, hg2⟩)
  go_ret
  exact ⟨rfl, ho2, grown_trans (grown_alloc _ _ _) hg2⟩

theorem trd {p q r : Prop} (h : p ∧ q ∧ r) : r := h.2.2
theorem box2_alloc {W w : World} {g g' : Nat} {m m' : Int} {A A' : Option Addr} {n c n' c' : Nat} {p q : Prop} {o : Obj} (h : Box W g m A n c) (h' : Box W g' m' A' n' c') (hs : p ∧ q ∧ Below W.heap.size W w) :
    ((w.alloc o).cell? ⟨g, 0, none⟩ = some (.int .i64 m) ∧ (w.alloc o).cell? ⟨g, 1, none⟩ = some (.slice A n c)) ∧ ((w.alloc o).cell? ⟨g', 0, none⟩ = some (.int .i64 m') ∧ (w.alloc o).cell? ⟨g', 1, none⟩ = some (.slice A' n' c')) ∧ Below W.heap.size W (w.alloc o) :=
  box2_in h h' (below_alloc _ hs.2.2)
theorem reg_end {wk cur wd : World} {p q : Prop} (hs : p ∧ q ∧ Below wk.heap.size wk cur) (hb : Below cur.heap.size cur wd) : Below wk.heap.size wk wd ∧ wk.heap.size ≤ cur.heap.size :=
  ⟨below_step hs.2.2 hb, hs.2.2.size⟩
theorem var_keep {cur wd : World} {g : Nat} {x y : Value} (h : Var2 cur g x y) (hb : Below cur.heap.size cur wd) : Var2 wd g x y ∧ g < cur.heap.size := ⟨h.keep hb, h.lt⟩
theorem var_at {w : World} {g k : Nat} {x y : Value} (_h : Var2 w g x y) (hk : k ≤ g) : k ≤ g := hk
/-- a result has been stored into a variable that lay there before the call -/
theorem reg_fin {wk cur wd : World} {g : Nat} {A : Option Addr} {n c : Nat} {l : List Int} {x y : Value} (hk : wk.heap.size ≤ g) (hgc : g < cur.heap.size) (hv : Var2 wd g x y) (ho : OwnI wd cur.heap.size (.slice A n c) l) (hb : Below wk.heap.size wk wd) (M : Int) :
    OwnI ((wd.setCell ⟨g, 0, none⟩ (.int .i64 M)).setCell ⟨g, 1, none⟩ (.slice A n c)) wk.heap.size (.slice A n c) l ∧ Box ((wd.setCell ⟨g, 0, none⟩ (.int .i64 M)).setCell ⟨g, 1, none⟩ (.slice A n c)) g M A n c ∧
    Below wk.heap.size wk ((wd.setCell ⟨g, 0, none⟩ (.int .i64 M)).setCell ⟨g, 1, none⟩ (.slice A n c)) := by
  obtain ⟨f0, f1, f2, f3⟩ := fin_var (w := wk) hv ho hgc hk hb (.int .i64 M) (.slice A n c)
  exact ⟨f2, ⟨f0, f1, by have := hv.lt; simpa [World.setCell] using this⟩, f3⟩
/-- a result has been stored into a new variable -/
theorem reg_new {wk cur wd : World} {A : Option Addr} {n c : Nat} {l : List Int} (hk : wk.heap.size ≤ cur.heap.size) (ho : OwnI wd cur.heap.size (.slice A n c) l) (hb : Below wk.heap.size wk wd) (M : Int) (t : TypeId) :
    OwnI (wd.alloc (.cells #[.int .i64 M, .slice A n c] t)) wk.heap.size (.slice A n c) l ∧ Box (wd.alloc (.cells #[.int .i64 M, .slice A n c] t)) wd.heap.size M A n c ∧ Below wk.heap.size wk (wd.alloc (.cells #[.int .i64 M, .slice A n c] t)) :=
  ⟨(ho.keep (below_one _ _)).more hk, Box.newT _ _ _ _ _ _, below_alloc _ hb⟩
end Go.Proofs.Ytlpfifdocgljnaa

/- Lists of lists of integers that a call has made itself: appending a row, comparing, marking. -/
namespace Go.Proofs.Ytlpfifdocgljnaa
open Go.RowKit Go.WideShapes Go.ChangeShapes Go.ChangeAt

theorem infoRow : (Try.prog.info? 25).map (fun i => (i.zero, i.size, i.bytes)) = some (some (.slice none 0 0), 1, 24) := by kernel_rfl

/-- v is a slice of slices of the call's own, all in blocks from lo on and below hi, no two in one block, that holds the rows -/
def OwnR (w : World) (lo hi : Nat) (v : Value) (rows : List (List Int)) : Prop :=
  ∃ vs : List Value, w.ownsRow lo 25 1 v rows.length vs ∧ (∀ g, v.ownBlock = some g → g < hi) ∧
    (∀ (i : Nat) (r : List Int), rows[i]? = some r → ∃ u : Value, vs[i]? = some u ∧ OwnI w lo u r ∧ ∀ g, u.ownBlock = some g → g < hi) ∧
    (∀ (i j : Nat) (u u' : Value), i < j → vs[i]? = some u → vs[j]? = some u' → u.ownBlock = none ∨ u.ownBlock ≠ u'.ownBlock)

theorem OwnR.nil (w : World) (lo hi : Nat) : OwnR w lo hi (.slice none 0 0) [] :=
  ⟨[], World.ownsRow_nil _ _ _ _, fun g hg => by simp [Value.ownBlock] at hg, fun i r h => by simp at h, fun i j u u' _ h => by simp at h⟩
theorem OwnR.none0 (w : World) : OwnR (w.alloc (.cells #[] 25)) w.heap.size (w.heap.size + 1) (.slice (some ⟨w.heap.size, 0, none⟩) 0 0) [] :=
  ⟨[], ⟨rfl, .inr ⟨w.heap.size, 0, #[], rfl, Nat.le_refl _, heap_alloc_new w _, Nat.le_refl _, Nat.zero_le _, rfl, rfl⟩⟩,
    fun g hg => by simp [Value.ownBlock] at hg; omega, fun i r h => by simp at h, fun i j u u' _ h => by simp at h⟩
theorem OwnR.keep {w w' : World} {lo hi : Nat} {v : Value} {rows : List (List Int)} (h : OwnR w lo hi v rows) (hb : Below hi w w') : OwnR w' lo hi v rows := by
  obtain ⟨vs, h1, h2, h3, h4⟩ := h
  refine ⟨vs, ⟨h1.1, ?_⟩, h2, fun i r hr => ?_, h4⟩
  · rcases h1.2 with hn | ⟨g, cap, cur, rfl, hg, hh, rest⟩
    · exact .inl hn
    · exact .inr ⟨g, cap, cur, rfl, hg, (hb.block g (h2 g rfl)).trans hh, rest⟩
  · obtain ⟨u, a, b, c⟩ := h3 i r hr
    exact ⟨u, a, b.below hb c, c⟩
theorem OwnR.more {w : World} {lo hi hi' : Nat} {v : Value} {rows : List (List Int)} (h : OwnR w lo hi v rows) (hh : hi ≤ hi') : OwnR w lo hi' v rows := by
  obtain ⟨vs, h1, h2, h3, h4⟩ := h
  exact ⟨vs, h1, fun g hg => Nat.lt_of_lt_of_le (h2 g hg) hh, fun i r hr => by
    obtain ⟨u, a, b, c⟩ := h3 i r hr
    exact ⟨u, a, b, fun g hg => Nat.lt_of_lt_of_le (c g hg) hh⟩, h4⟩
theorem ne_types {w : World} {lo lo' n : Nat} {v u : Value} {vs : List Value} {l : List Int} (hv : w.ownsRow lo 25 1 v n vs) (hu : OwnI w lo' u l) : u.ownBlock = none ∨ u.ownBlock ≠ v.ownBlock := by
  unfold OwnI at hu
  rcases hu.2 with ⟨rfl, _⟩ | ⟨g, cap, cur, rfl, _, hg, _⟩
  · exact .inl rfl
  · rcases hv.2 with ⟨rfl, _⟩ | ⟨g', cap', cur', rfl, _, hg', _⟩
    · exact .inr (by simp [Value.ownBlock])
    · refine .inr fun e => ?_
      obtain rfl : g = g' := by simpa [Value.ownBlock] using e
      rw [hg] at hg'
      injection hg' with e1
      injection e1 with _ e2
      exact absurd e2 (by decide)

/-- appending one row of two numbers, which has just been built -/
theorem wp_pushR {ops : Array Oper} {rest : List Oper} {o : Oper} {a : Act} {Q : Exit → Act → World → Prop} {w : World} (s x : Operand) (t : TypeId)
    (hgd : o.guard = none) (ho : o.op = .call { callee := .builtin .append, args := #[s, x], argTypes := #[t, t] })
    (ht : Try.prog.underlying t = some (.slice 25)) (lo : Nat) (v : Value) (rows : List (List Int)) (hs : a.eval s = v) (hown : OwnR w lo w.heap.size v rows)
    (p q : Int) (hx : a.eval x = .slice (some ⟨w.heap.size + 1, 0, none⟩) 1 1) (hlen : rows.length ≤ 1000000000000) (hlo : lo ≤ w.heap.size)
    (h : ∀ v' w', OwnR w' lo w'.heap.size v' (rows ++ [[p, q]]) → Below lo w w' → wpList Try.prog ops Q rest (a.put o.dst v') w') :
    wpList Try.prog ops Q (o :: rest) a ((w.alloc (.cells #[.int .i64 p, .int .i64 q] 2)).alloc (.cells #[.slice (some ⟨w.heap.size, 0, none⟩) 2 2] 25)) := by
  obtain ⟨i0, hi, hz0, hz1, hz2⟩ := info_parts infoRow
  obtain ⟨vs, h1, h2, h3, h4⟩ := hown
  have hW1 : (w.alloc (.cells #[.int .i64 p, .int .i64 q] 2)).heap.size = w.heap.size + 1 := by simp
  have hbel : Below w.heap.size w ((w.alloc (.cells #[.int .i64 p, .int .i64 q] 2)).alloc (.cells #[.slice (some ⟨w.heap.size, 0, none⟩) 2 2] 25)) :=
    ((Below.refl _ _).alloc (Nat.le_refl _) _).alloc (by simp) _
  have hnew : OwnI ((w.alloc (.cells #[.int .i64 p, .int .i64 q] 2)).alloc (.cells #[.slice (some ⟨w.heap.size, 0, none⟩) 2 2] 25)) lo (.slice (some ⟨w.heap.size, 0, none⟩) 2 2) [p, q] := by
    refine OwnI.alloc ?_ _
    exact ⟨rfl, .inr ⟨w.heap.size, 2, #[.int .i64 p, .int .i64 q], rfl, hlo, heap_alloc_new w _, Nat.le_refl _, by unfold maxLen; omega, rfl, rfl⟩⟩
  refine wpList_append_own _ hgd s x t ho lo 25 i0 (.slice none 0 0) 1 24 ht hi hz0 hz1 hz2 rfl (by decide) v rows.length vs hs ((h1.alloc _).alloc _)
    ⟨w.heap.size + 1, 0, none⟩ 1 1 [.slice (some ⟨w.heap.size, 0, none⟩) 2 2] hx rfl ?_ ?_ ?_ ?_ ?_ ?_
  · intro j u hj
    match j, hj with
    | 0, hj => simp at hj; subst hj; simp [Addr.add]
  · intro u hu; simp at hu; subst hu; rfl
  · unfold maxLen; omega
  · omega
  · simp; omega
  · intro v' w' g1 g2 _
    have hsz : w.heap.size + 2 ≤ w'.heap.size := by have := g2.size; simp at this; exact this
    have hvl := World.ownsRow.lt h1
    refine h v' w' ⟨vs ++ [.slice (some ⟨w.heap.size, 0, none⟩) 2 2], ?_, ?_, ?_, ?_⟩ ?_
    · rw [List.length_append]; exact g1
    · exact fun g hg => (World.ownsRow.lt g1 g hg).2
    · intro i r hr
      by_cases hi : i < rows.length
      · rw [List.getElem?_append_left hi] at hr
        obtain ⟨u, a1, a2, a3⟩ := h3 i r hr
        have hvs : i < vs.length := (List.getElem?_eq_some_iff.1 a1).1
        have hk := a2.keep hbel
        refine ⟨u, by rw [List.getElem?_append_left hvs]; exact a1, hk.other g2 (ne_types ((h1.alloc _).alloc _) hk), fun g hg => by have := a3 g hg; omega⟩
      · rw [List.getElem?_append_right (by omega)] at hr
        have hi2 : i = rows.length := by
          rcases Nat.eq_or_lt_of_le (Nat.le_of_not_lt hi) with e | e
          · exact e.symm
          · rw [show i - rows.length = (i - rows.length - 1) + 1 by omega] at hr; simp at hr
        subst hi2
        have hvsl : vs.length = rows.length := by have := h1.1; omega
        rw [Nat.sub_self] at hr
        simp at hr
        subst hr
        refine ⟨.slice (some ⟨w.heap.size, 0, none⟩) 2 2, by rw [← hvsl, List.getElem?_append_right (Nat.le_refl _), Nat.sub_self]; rfl, hnew.other g2 (.inr fun e => ?_), fun g hg => ?_⟩
        · have := hvl w.heap.size (by rw [← e]; rfl)
          omega
        · have : g = w.heap.size := by simpa [Value.ownBlock] using hg.symm
          omega
    · intro i j u u' hij hu hu'
      have hvsl : vs.length = rows.length := by have := h1.1; omega
      by_cases hj : j < vs.length
      · rw [List.getElem?_append_left hj] at hu'
        rw [List.getElem?_append_left (by omega)] at hu
        exact h4 i j u u' hij hu hu'
      · have hju : j = vs.length := by
          rw [List.getElem?_append_right (by omega)] at hu'
          rcases Nat.eq_or_lt_of_le (Nat.le_of_not_lt hj) with e | e
          · exact e.symm
          · rw [show j - vs.length = (j - vs.length - 1) + 1 by omega] at hu'; simp at hu'
        subst hju
        rw [List.getElem?_append_right (Nat.le_refl _), Nat.sub_self] at hu'
        simp at hu'
        subst hu'
        rw [List.getElem?_append_left hij] at hu
        obtain ⟨r, hr⟩ : ∃ r, rows[i]? = some r := ⟨_, List.getElem?_eq_getElem (by omega)⟩
        obtain ⟨u2, a1, _, a3⟩ := h3 i r hr
        rw [hu] at a1
        injection a1 with a1
        subst a1
        rcases hc : u.ownBlock with _ | g
        · exact .inl rfl
        · refine .inr fun e => ?_
          have := a3 g hc
          have : g = w.heap.size := by simpa [Value.ownBlock] using e
          omega
    · exact (hbel.mono hlo).grown g2 (by simp; omega) (fun k hk => (hvl k hk).1)

/-- reading a row -/
theorem OwnR.read {w : World} {lo hi : Nat} {v : Value} {rows : List (List Int)} (h : OwnR w lo hi v rows) :
    ∃ A c, v = .slice A rows.length c ∧ (rows ≠ [] → ∃ g, A = some ⟨g, 0, none⟩ ∧ g < w.heap.size ∧ g < hi ∧ lo ≤ g ∧ ∀ i, i < rows.length → ∃ A' c', w.cell? ⟨g, i, none⟩ = some (.slice A' (rows[i]?.getD []).length c') ∧ OwnI w lo (.slice A' (rows[i]?.getD []).length c') (rows[i]?.getD []) ∧ (∀ b, (Value.slice A' (rows[i]?.getD []).length c').ownBlock = some b → b < hi)) := by
  obtain ⟨vs, h1, h2, h3, h4⟩ := h
  rcases h1.2 with ⟨rfl, h0⟩ | ⟨g, cap, cur, rfl, hg, hh, rest⟩
  · obtain rfl : rows = [] := List.eq_nil_of_length_eq_zero h0
    exact ⟨none, 0, rfl, fun h => absurd rfl h⟩
  · refine ⟨_, _, rfl, fun _ => ⟨g, rfl, (Array.getElem?_eq_some_iff.1 hh).1, h2 g rfl, hg, fun i hi => ?_⟩⟩
    have hr : rows[i]? = some (rows[i]?.getD []) := by rw [List.getElem?_eq_getElem hi]; rfl
    obtain ⟨u, a1, a2, a3⟩ := h3 i _ hr
    have hc := World.ownsRow.cells h1 (g := g) rfl i u a1
    rw [add_plain, Nat.zero_add] at hc
    obtain ⟨A', c', rfl, _⟩ := a2.form
    exact ⟨A', c', hc, a2, a3⟩

end Go.Proofs.Ytlpfifdocgljnaa

/- Contracts of the exact laws' helpers on lists of lists of integers. -/
namespace Go.Proofs.Ytlpfifdocgljnaa
open Go.RowKit Go.WideShapes Go.ChangeShapes Go.ChangeAt

set_option maxHeartbeats 1000000 in
theorem eqInt64S_q (A B : Option Addr) (c d : Nat) (l : List Int) (w : World) (hl : l.length ≤ 10485760) (ha : RI w A l) (hb : RI w B l) :
    Calls Try.prog 38 #[.slice A l.length c, .slice B l.length d] w fun e w' => e = .returned (.bool true) ∧ ∃ n, w' = w.drewN n := by
  go_enter Try.func38, Try.ntmps38
  go_wp2
  go_loopw [5] (fun i wr => ∃ j n : Nat, j ≤ l.length ∧ i = .int .i64 j ∧ wr = w.drewN n) (fun i _ => l.length - (intOf i).toNat)
  case atStart => exact ⟨0, 0, Nat.zero_le _, rfl, rfl⟩
  case round =>
    obtain ⟨j, n, hj, rfl, hw⟩ := hrel
    have HW := Lib.hid hw
    have hcell : ∀ p : Addr, wr.cell? p = w.cell? p := by intro p; rw [hw]; rfl
    clear hw
    by_cases hlt : j < l.length
    · obtain ⟨b, off, rfl, hb1, hc1⟩ := ha (by rintro rfl; simp at hlt)
      obtain ⟨b', off', rfl, hb2, hc2⟩ := hb (by rintro rfl; simp at hlt)
      have h1 := (hcell ⟨b, off + j, none⟩).trans (hc1 j hlt)
      have h2 := (hcell ⟨b', off' + j, none⟩).trans (hc2 j hlt)
      obtain ⟨x, hx⟩ : ∃ x, l[j]?.getD 0 = x := ⟨_, rfl⟩
      rw [hx] at h1 h2
      have j1 : (0 : Int) ≤ (j : Int) := by omega
      have j2 : (j : Int) < (l.length : Int) := by omega
      clear hx hc1 hc2 ha hb hcell
      go_wp2
      go_quiet (fail)
      go_wp2
      go_roundw
      case rel => exact ⟨j + 1, n + nq, by omega, by go_num, by rw [HW.out, World.drewN_drewN]⟩
      case measure => simp only [intOf]; omega
    · obtain rfl : j = l.length := by omega
      clear hcell
      go_wp2
      go_ret
      exact ⟨rfl, n, HW.out⟩

/-- blocks from lo on and below hi alone have been written -/
structure Span (lo hi : Nat) (w w' : World) : Prop where
  os : w'.os = w.os
  tape : w'.tape = w.tape
  output : w'.output = w.output
  size : w.heap.size ≤ w'.heap.size
  block : ∀ k, k < w.heap.size → (k < lo ∨ hi ≤ k) → w'.heap[k]? = w.heap[k]?
theorem Span.refl (lo hi : Nat) (w : World) : Span lo hi w w := ⟨rfl, rfl, rfl, Nat.le_refl _, fun _ _ _ => rfl⟩
theorem Span.trans {lo hi : Nat} {a b c : World} (h : Span lo hi a b) (k : Span lo hi b c) : Span lo hi a c :=
  ⟨k.os.trans h.os, k.tape.trans h.tape, k.output.trans h.output, Nat.le_trans h.size k.size, fun i hi hne => (k.block i (Nat.lt_of_lt_of_le hi h.size) hne).trans (h.block i hi hne)⟩
theorem Span.of_grown {lo hi : Nat} {w w' : World} {r : Option Nat} (h : w.grownBy w' r) (hr : ∀ g, r = some g → lo ≤ g ∧ g < hi) : Span lo hi w w' :=
  ⟨h.os, h.tape, h.output, h.size, fun k hk hne => h.block k hk (fun e => by have := hr k e.symm; omega)⟩
theorem Span.below {lo hi : Nat} {w w' : World} (h : Span lo hi w w') (hlo : lo ≤ w.heap.size) : Below lo w w' :=
  ⟨h.os, h.tape, h.output, h.size, fun k hk => h.block k (Nat.lt_of_lt_of_le hk hlo) (.inl hk)⟩
theorem OwnR.far {w w' : World} {lo hi lo' hi' : Nat} {v : Value} {rows : List (List Int)} (h : OwnR w lo hi v rows) (hs : Span lo' hi' w w') (hd : hi ≤ lo' ∨ hi' ≤ lo) : OwnR w' lo hi v rows := by
  obtain ⟨vs, h1, h2, h3, h4⟩ := h
  have hk : ∀ g, lo ≤ g → g < hi → g < w.heap.size → w'.heap[g]? = w.heap[g]? := fun g a b c => hs.block g c (by omega)
  refine ⟨vs, ⟨h1.1, ?_⟩, h2, fun i r hr => ?_, h4⟩
  · rcases h1.2 with hn | ⟨g, cap, cur, rfl, hg, hh, rest⟩
    · exact .inl hn
    · exact .inr ⟨g, cap, cur, rfl, hg, (hk g hg (h2 g rfl) (Array.getElem?_eq_some_iff.1 hh).1).trans hh, rest⟩
  · obtain ⟨u, a, b, c⟩ := h3 i r hr
    refine ⟨u, a, ?_, c⟩
    unfold OwnI at b ⊢
    refine ⟨b.1, ?_⟩
    rcases b.2 with hn | ⟨g, cap, cur, rfl, hg, hh, rest⟩
    · exact .inl hn
    · exact .inr ⟨g, cap, cur, rfl, hg, (hk g hg (c g rfl) (Array.getElem?_eq_some_iff.1 hh).1).trans hh, rest⟩
theorem OwnI.far {w w' : World} {lo lo' hi' : Nat} {v : Value} {l : List Int} (h : OwnI w lo v l) (hs : Span lo' hi' w w') (hd : ∀ g, v.ownBlock = some g → g < lo' ∨ hi' ≤ g) : OwnI w' lo v l := by
  unfold OwnI at h ⊢
  refine ⟨h.1, ?_⟩
  rcases h.2 with hn | ⟨g, cap, cur, rfl, hg, hh, rest⟩
  · exact .inl hn
  · exact .inr ⟨g, cap, cur, rfl, hg, (hs.block g (Array.getElem?_eq_some_iff.1 hh).1 (hd g rfl)).trans hh, rest⟩

/-- one row has been written -/
theorem OwnR.setRow {w w' : World} {lo hi : Nat} {v u : Value} {rows : List (List Int)} (h : OwnR w lo hi v rows) (i : Nat) (r' : List Int)
    (hcell : ∀ vs : List Value, w.ownsRow lo 25 1 v rows.length vs → vs[i]? = some u) (hlt' : i < rows.length)
    (hg : w.grownBy w' u.ownBlock) (hu' : OwnI w' lo u r') : OwnR w' lo hi v (rows.set i r') := by
  obtain ⟨vs, h1, h2, h3, h4⟩ := h
  have hvi := hcell vs h1
  obtain ⟨u0, a1, a2, a3⟩ := h3 i _ (List.getElem?_eq_getElem hlt')
  rw [hvi] at a1
  injection a1 with a1
  subst a1
  have hne := ne_types h1 a2
  refine ⟨vs, ?_, h2, fun j r hr => ?_, h4⟩
  · rw [List.length_set]
    refine World.ownsRow.kept h1 hg ?_
    rcases hc : v.ownBlock with _ | g
    · exact .inl rfl
    · refine .inr ?_
      rcases hne with e | e
      · rw [e]; simp
      · rw [← hc]; exact Ne.symm e
  · by_cases hij : i = j
    · subst hij
      rw [List.getElem?_set_self hlt'] at hr
      injection hr with hr
      subst hr
      exact ⟨u, hvi, hu', a3⟩
    · rw [List.getElem?_set_ne hij] at hr
      obtain ⟨u1, b1, b2, b3⟩ := h3 j r hr
      refine ⟨u1, b1, b2.other hg ?_, b3⟩
      rcases Nat.lt_or_ge i j with hlt | hge
      · rcases h4 i j u u1 hlt hvi b1 with e | e
        · rcases hc : u1.ownBlock with _ | g
          · exact .inl rfl
          · exact .inr (by rw [e]; simp)
        · exact .inr (Ne.symm e)
      · exact h4 j i u1 u (by omega) b1 hvi
theorem OwnR.row {w : World} {lo hi : Nat} {v : Value} {rows : List (List Int)} (h : OwnR w lo hi v rows) (i : Nat) (hi' : i < rows.length) :
    ∃ g c A' c', v = .slice (some ⟨g, 0, none⟩) rows.length c ∧ g < w.heap.size ∧ w.cell? ⟨g, i, none⟩ = some (.slice A' (rows[i]?.getD []).length c') ∧
      (∀ vs : List Value, w.ownsRow lo 25 1 v rows.length vs → vs[i]? = some (.slice A' (rows[i]?.getD []).length c')) ∧ OwnI w lo (.slice A' (rows[i]?.getD []).length c') (rows[i]?.getD []) ∧
      (∀ b, (Value.slice A' (rows[i]?.getD []).length c').ownBlock = some b → b < hi) := by
  obtain ⟨vs, h1, h2, h3, h4⟩ := h
  rcases h1.2 with ⟨rfl, h0⟩ | ⟨g, cap, cur, rfl, hg, hh, h5, h6, h7, h8⟩
  · omega
  · have hr : rows[i]? = some (rows[i]?.getD []) := by rw [List.getElem?_eq_getElem hi']; rfl
    obtain ⟨u, a1, a2, a3⟩ := h3 i _ hr
    have hc := World.ownsRow.cells h1 (g := g) rfl i u a1
    rw [add_plain, Nat.zero_add] at hc
    obtain ⟨A', c', rfl, _⟩ := a2.form
    refine ⟨g, cap, A', c', rfl, (Array.getElem?_eq_some_iff.1 hh).1, hc, fun ws hws => ?_, a2, a3⟩
    rcases hws.2 with ⟨hv, _⟩ | ⟨g', cap', cur', hv, _, hh', _, _, _, h8'⟩
    · cases hv
    · injection hv with e1 e2 e3
      injection e1 with e1
      injection e1 with e1
      subst e1
      rw [hh] at hh'
      injection hh' with hh'
      injection hh' with hh'
      subst hh'
      rw [← h8', h8]; exact a1

set_option maxHeartbeats 1000000 in
theorem eqInt64SS_any (v u : Value) (lo hi lo' hi' : Nat) (rows : List (List Int)) (w : World) (hl : rows.length ≤ 10485760) (hrl : ∀ i : Nat, (rows[i]?.getD []).length ≤ 10485760) (hv : OwnR w lo hi v rows) (hu : OwnR w lo' hi' u rows) :
    Calls Try.prog 37 #[v, u] w fun e w' => e = .returned (.bool true) ∧ Below w.heap.size w w' := by
  obtain ⟨A, c, rfl, -⟩ := hv.read
  obtain ⟨B, d, rfl, -⟩ := hu.read
  have HV := Lib.hid hv
  have HU := Lib.hid hu
  have HR := Lib.hid hrl
  clear hv hu hrl
  go_enter Try.func37, Try.ntmps37
  go_wp2
  go_loopw [5] (fun i wr => ∃ j : Nat, j ≤ rows.length ∧ i = .int .i64 j ∧ Below w.heap.size w wr) (fun i _ => rows.length - (intOf i).toNat)
  case atStart => exact ⟨0, Nat.zero_le _, rfl, Below.refl _ _⟩
  case round =>
    obtain ⟨j, hj, rfl, hbel⟩ := hrel
    have HB := Lib.hid hbel
    clear hbel
    by_cases hlt : j < rows.length
    · obtain ⟨g, c1, A1, d1, e1, g1, k1, -, o1, -⟩ := HV.out.row j hlt
      obtain ⟨g', c2, A2, d2, e2, g2, k2, -, o2, -⟩ := HU.out.row j hlt
      injection e1 with e1 e1b e1c
      clear e1b e1c
      injection e2 with e2 e2b e2c
      clear e2b e2c
      subst e1 e2
      have h1 := (HB.out.cell (p := ⟨g, j, none⟩) g1).trans k1
      have h2 := (HB.out.cell (p := ⟨g', j, none⟩) g2).trans k2
      have hrj := HR.out j
      obtain ⟨r, hr⟩ : ∃ r, rows[j]?.getD [] = r := ⟨_, rfl⟩
      rw [hr] at h1 h2 o1 o2 hrj
      have R1 := Lib.hid (o1.ri.below HB.out)
      have R2 := Lib.hid (o2.ri.below HB.out)
      have j1 : (0 : Int) ≤ (j : Int) := by omega
      have j2 : (j : Int) < (rows.length : Int) := by omega
      clear hr k1 k2 o1 o2
      go_wp2
      go_quiet ((go_at_call 38; exact Calls.quiet_of (eqInt64S_q _ _ _ _ r _ hrj R1.out R2.out)))
      go_wp2
      go_roundw
      case rel => exact ⟨j + 1, by omega, by go_num, below_drewN HB.out _⟩
      case measure => simp only [intOf]; omega
    · obtain rfl : j = rows.length := by omega
      go_wp2
      go_ret
      exact ⟨rfl, HB.out⟩

/-- rows of marks of given lengths, from k on -/
def mkR (k : Int) : List (List Int) → List (List Int)
  | [] => []
  | r :: t => marks k r.length :: mkR (k + r.length) t
/-- how many numbers there are in the rows -/
def tot : List (List Int) → Nat
  | [] => 0
  | r :: t => r.length + tot t
theorem tot_append : ∀ a b : List (List Int), tot (a ++ b) = tot a + tot b
  | [], b => by simp [tot]
  | r :: t, b => by rw [List.cons_append, tot, tot, tot_append t b]; omega
theorem mkR_append : ∀ (a b : List (List Int)) (k : Int), mkR k (a ++ b) = mkR k a ++ mkR (k + tot a) b
  | [], b, k => by simp [mkR, tot]
  | r :: t, b, k => by
    rw [List.cons_append, mkR, mkR, mkR_append t b, List.cons_append, tot]
    congr 3; omega
theorem mkR_length : ∀ (a : List (List Int)) (k : Int), (mkR k a).length = a.length
  | [], _ => rfl
  | r :: t, k => by rw [mkR, List.length_cons, mkR_length t, List.length_cons]
theorem take_succ_tot (rows : List (List Int)) (j : Nat) (h : j < rows.length) : tot (rows.take (j + 1)) = tot (rows.take j) + (rows[j]?.getD []).length := by
  rw [List.take_succ_eq_append_getElem h, tot_append, List.getElem?_eq_getElem h]
  simp [tot]
theorem tot_take_le (rows : List (List Int)) (j : Nat) : tot (rows.take j) ≤ tot rows := by
  conv => rhs; rw [← List.take_append_drop j rows]
  rw [tot_append]; omega
theorem mk_step (rows : List (List Int)) (k : Int) (j : Nat) (h : j < rows.length) :
    (mkR k (rows.take j) ++ rows.drop j).set j (marks (k + tot (rows.take j)) (rows[j]?.getD []).length) = mkR k (rows.take (j + 1)) ++ rows.drop (j + 1) := by
  have hl : (mkR k (rows.take j)).length = j := by rw [mkR_length, List.length_take]; omega
  have e : rows[j]?.getD [] = rows[j] := by rw [List.getElem?_eq_getElem h]; rfl
  rw [List.set_append_right _ _ (by omega), hl, Nat.sub_self, List.drop_eq_getElem_cons h, List.set_cons_zero, List.take_succ_eq_append_getElem h, mkR_append, List.append_assoc, e]
  rfl
theorem mk_get (rows : List (List Int)) (k : Int) (j : Nat) (h : j < rows.length) : (mkR k (rows.take j) ++ rows.drop j)[j]?.getD [] = rows[j]?.getD [] := by
  have hl : (mkR k (rows.take j)).length = j := by rw [mkR_length, List.length_take]; omega
  rw [List.getElem?_append_right (by omega), hl, Nat.sub_self, List.getElem?_drop, Nat.add_zero]
theorem mkR_get (rows : List (List Int)) (k : Int) (j : Nat) (h : j < rows.length) : (mkR k rows)[j]?.getD [] = marks (k + tot (rows.take j)) (rows[j]?.getD []).length := by
  have e : rows = rows.take j ++ rows[j] :: rows.drop (j + 1) := by rw [List.getElem_cons_drop, List.take_append_drop]
  have e2 : rows[j]?.getD [] = rows[j] := by rw [List.getElem?_eq_getElem h]; rfl
  have hl : (mkR k (rows.take j)).length = j := by rw [mkR_length, List.length_take]; omega
  rw [e2]
  conv => lhs; rw [e]
  rw [mkR_append, List.getElem?_append_right (by omega), hl, Nat.sub_self, mkR]
  rfl

set_option maxHeartbeats 1000000 in
theorem markInt64SS_any (v : Value) (lo hi : Nat) (rows : List (List Int)) (k : Int) (w : World) (hl : rows.length ≤ 10485760) (ht : tot rows ≤ 10485760) (hk : 0 ≤ k) (hk2 : k ≤ 500000000000) (hown : OwnR w lo hi v rows) :
    Calls Try.prog 48 #[v, .int .i64 k] w fun e w' => e = .returned (.int .i64 (k + tot rows)) ∧ OwnR w' lo hi v (mkR k rows) ∧ Span lo hi w w' := by
  obtain ⟨A, c, rfl, -⟩ := hown.read
  have HO := Lib.hid hown
  clear hown
  go_enter Try.func48, Try.ntmps48
  go_wp2
  go_loopw [5, 1] (fun i m wr => ∃ j : Nat, j ≤ rows.length ∧ i = .int .i64 j ∧ m = .int .i64 (k + tot (rows.take j)) ∧ OwnR wr lo hi (.slice A rows.length c) (mkR k (rows.take j) ++ rows.drop j) ∧ Span lo hi w wr) (fun i _ _ => rows.length - (intOf i).toNat)
  case atStart => exact ⟨0, Nat.zero_le _, rfl, by simp [tot], by simpa [mkR] using HO.out, Span.refl _ _ _⟩
  case round =>
    obtain ⟨j, hj, rfl, rfl, ho, hs⟩ := hrel
    have HJ := Lib.hid ho
    have HS := Lib.hid hs
    clear ho hs
    by_cases hlt : j < rows.length
    · obtain ⟨g, c1, A1, d1, e1, g1, k1, kk, o1, o2⟩ := HJ.out.row j (by rw [List.length_append, mkR_length, List.length_take, List.length_drop]; omega)
      injection e1 with e1 e1b e1c
      clear e1b e1c
      subst e1
      rw [mk_get _ _ _ hlt] at k1 kk o1 o2
      have hT := take_succ_tot rows j hlt
      have hT2 := tot_take_le rows (j + 1)
      have HMS := Lib.hid (mk_step rows k j hlt)
      obtain ⟨r, hr⟩ : ∃ r, rows[j]?.getD [] = r := ⟨_, rfl⟩
      obtain ⟨T, hTT⟩ : ∃ T, tot (rows.take j) = T := ⟨_, rfl⟩
      obtain ⟨T2, hTT2⟩ : ∃ T, tot (rows.take (j + 1)) = T := ⟨_, rfl⟩
      rw [hr] at k1 kk o1 o2 hT
      rw [hTT] at hT ⊢
      rw [hTT2] at hT hT2
      have HR := Lib.hid hr
      have HTT := Lib.hid hTT
      have HTT2 := Lib.hid hTT2
      have HT := Lib.hid hT
      have K := Lib.hid kk
      have O1 := Lib.hid o1
      have O2 := Lib.hid o2
      have b1 : r.length ≤ 10485760 := by omega
      have b2 : T ≤ 10485760 := by omega
      clear hr hTT hTT2 hT kk o1 o2
      go_wp2_with (go_at_call 47; refine (markInt64S_any _ _ r _ _ b1 (by omega) (by omega) O1.out).mono ?_; rintro e w2 ⟨rfl, ho2, hg2⟩)
      have HR2 := HJ.out.setRow j (marks (k + T) r.length) K.out (by rw [List.length_append, mkR_length, List.length_take, List.length_drop]; omega) hg2 ho2
      have hs2 : Span lo hi wr w2 := Span.of_grown hg2 (fun b hb => ⟨(O1.out.lt b hb).1, O2.out b hb⟩)
      have HMS' := HMS.out
      rw [HR.out, HTT.out] at HMS'
      rw [HMS'] at HR2
      have H1 := Lib.hid HR2
      have H2 := Lib.hid hs2
      clear HR2 hs2 ho2 hg2 HMS'
      go_wp2
      go_roundw
      case rel => exact ⟨j + 1, by omega, by go_num, by have := HT.out; rw [HTT2.out, this]; congr 1; push_cast; omega, H1.out, HS.out.trans H2.out⟩
      case measure => simp only [intOf]; omega
    · obtain rfl : j = rows.length := by omega
      have hfin := HJ.out
      rw [List.drop_length, List.append_nil, List.take_length] at hfin
      have HF := Lib.hid hfin
      clear hfin
      rw [List.take_length]
      go_wp2
      go_ret
      exact ⟨rfl, HF.out, HS.out⟩

set_option maxHeartbeats 1000000 in
theorem heldInt64SS_any (v : Value) (lo hi : Nat) (rows : List (List Int)) (k : Int) (w : World) (hl : rows.length ≤ 10485760) (ht : tot rows ≤ 10485760) (hk : 0 ≤ k) (hk2 : k ≤ 500000000000) (hown : OwnR w lo hi v (mkR k rows)) :
    Calls Try.prog 49 #[v, .int .i64 k] w fun e w' => e = .returned (.int .i64 (k + tot rows)) ∧ w = w' := by
  obtain ⟨A, c, rfl, -⟩ := hown.read
  rw [mkR_length]
  have HO := Lib.hid hown
  clear hown
  go_enter Try.func49, Try.ntmps49
  go_wp2
  go_loop [5, 1] (fun i m => ∃ j : Nat, j ≤ rows.length ∧ i = .int .i64 j ∧ m = .int .i64 (k + tot (rows.take j))) (fun i _ => rows.length - (intOf i).toNat)
  case atStart => exact ⟨0, Nat.zero_le _, rfl, by simp [tot]⟩
  case round =>
    obtain ⟨j, hj, rfl, rfl⟩ := hrel
    by_cases hlt : j < rows.length
    · obtain ⟨g, c1, A1, d1, e1, g1, k1, -, o1, -⟩ := HO.out.row j (by rw [mkR_length]; exact hlt)
      injection e1 with e1 e1b e1c
      clear e1b e1c
      subst e1
      rw [mkR_get _ _ _ hlt, marks_length] at k1 o1
      have hT := take_succ_tot rows j hlt
      have hT2 := tot_take_le rows (j + 1)
      obtain ⟨n, hr⟩ : ∃ n, (rows[j]?.getD []).length = n := ⟨_, rfl⟩
      obtain ⟨T, hTT⟩ : ∃ T, tot (rows.take j) = T := ⟨_, rfl⟩
      obtain ⟨T2, hTT2⟩ : ∃ T, tot (rows.take (j + 1)) = T := ⟨_, rfl⟩
      rw [hr] at k1 o1 hT
      rw [hTT] at hT o1 ⊢
      rw [hTT2] at hT hT2
      have HTT2 := Lib.hid hTT2
      have HT := Lib.hid hT
      have O1 := Lib.hid o1.ri
      have b1 : n ≤ 10485760 := by omega
      have b2 : T ≤ 10485760 := by omega
      clear hr hTT hTT2 hT o1
      go_wp2_with (go_at_call 82; refine (heldInt64S_any _ _ n _ _ b1 (by omega) (by omega) O1.out).mono ?_; rintro e w2 ⟨rfl, rfl⟩)
      go_round
      case rel => exact ⟨j + 1, by omega, by go_num, by have := HT.out; rw [HTT2.out, this]; congr 1; push_cast; omega⟩
      case measure => simp only [intOf]; omega
    · obtain rfl : j = rows.length := by omega
      rw [List.take_length]
      go_wp2
      go_ret
      exact ⟨rfl, rfl⟩

end Go.Proofs.Ytlpfifdocgljnaa

