/- Contracts of the functions that take numbers as variadics, of the program and of the model. -/
import Derived.Test.YtjgpdgoclianlaaCode
namespace Go.Proofs.Ytjgpdgoclianlaa
open Go.RowKit Go.WideShapes Go.ChangeShapes Go.ChangeAt

theorem isM_iff (m : Int) : isM m = true ↔ 2 ≤ m ∧ m ≤ 10000 := inB_iff _ _ _

/-- the slice at A holds the integers of l -/
def RI (w : World) (A : Option Addr) (l : List Int) : Prop :=
  l ≠ [] → ∃ b off, A = some ⟨b, off, none⟩ ∧ b < w.heap.size ∧ ∀ k, k < l.length → w.cell? ⟨b, off + k, none⟩ = some (.int .i64 (l[k]?.getD 0))
theorem RI.below {w w' : World} {A : Option Addr} {l : List Int} (h : RI w A l) (hb : Below w.heap.size w w') : RI w' A l := by
  intro hl
  obtain ⟨b, off, e, hlt, hc⟩ := h hl
  exact ⟨b, off, e, Nat.lt_of_lt_of_le hlt hb.size, fun k hk => (hb.cell (p := ⟨b, off + k, none⟩) hlt).trans (hc k hk)⟩

theorem allIn_split (lo hi : Int) (l : List Int) (k : Nat) (hk : k < l.length) : allIn lo hi l = (allIn lo hi (l.take k) && (inB (l[k]?.getD 0) lo hi && allIn lo hi (l.drop (k + 1)))) := by
  have e : l = l.take k ++ l[k] :: l.drop (k + 1) := by rw [List.getElem_cons_drop, List.take_append_drop]
  have e2 : l[k]?.getD 0 = l[k] := by rw [List.getElem?_eq_getElem hk]; rfl
  have e3 : allIn lo hi l = allIn lo hi (l.take k ++ l[k] :: l.drop (k + 1)) := congrArg _ e
  rw [e2, e3]
  unfold allIn
  rw [List.all_append, List.all_cons]
theorem allIn_take_succ (lo hi : Int) (l : List Int) (k : Nat) (hk : k < l.length) : allIn lo hi (l.take (k + 1)) = (allIn lo hi (l.take k) && inB (l[k]?.getD 0) lo hi) := by
  have e2 : l[k]?.getD 0 = l[k] := by rw [List.getElem?_eq_getElem hk]; rfl
  rw [List.take_succ_eq_append_getElem hk, e2]
  unfold allIn
  rw [List.all_append, List.all_cons, List.all_nil, Bool.and_true]

set_option maxHeartbeats 400000 in
theorem codeOfNumbers_any (m : Int) (A : Option Addr) (c : Nat) (l : List Int) (w : World) (hl : l.length ≤ 9223372036854775807) (hr : RI w A l) :
    Calls Try.prog 58 #[.int .i64 m, .slice A l.length c] w fun e w' => e = .returned (.int .i64 (codeN m l)) ∧ w = w' := by
  by_cases hm : isM m = true
  · obtain ⟨hm2, hm3⟩ := (isM_iff m).1 hm
    have hfin : codeN m l = if allIn 0 (m - 1) l then 0 else 2 := by rw [codeN, if_pos hm]
    have HF := Lib.hid hfin
    clear hfin
    go_enter Try.func58, Try.ntmps58
    go_wp2_with (go_at_call 80; refine (IsModulus_any _ _).mono ?_; rintro e w' ⟨rfl, rfl⟩)
    go_loop [12] (fun i => ∃ k : Nat, k ≤ l.length ∧ i = .int .i64 k ∧ allIn 0 (m - 1) (l.take k) = true) (fun i => l.length - (intOf i).toNat)
    case atStart => exact ⟨0, Nat.zero_le _, rfl, rfl⟩
    case round =>
      obtain ⟨k, hk, rfl, hall⟩ := hrel
      have HA := Lib.hid hall
      clear hall
      by_cases hlt : k < l.length
      · obtain ⟨b, off, rfl, hb, hc⟩ := hr (by rintro rfl; simp at hlt)
        have hck := hc k hlt
        clear hc hr
        obtain ⟨x, hx⟩ : ∃ x, l[k]?.getD 0 = x := ⟨_, rfl⟩
        rw [hx] at hck
        have HX := Lib.hid hx
        clear hx
        by_cases hin : inB x 0 (m - 1) = true
        · go_wp2_with (go_at_call 56; refine (isWithin_any _ _ _ _).mono ?_; rintro e w' ⟨rfl, rfl⟩)
          go_round
          case rel => exact ⟨k + 1, by omega, by go_num, by rw [allIn_take_succ _ _ _ _ hlt, HA.out, HX.out, hin]; rfl⟩
          case measure => simp [intOf]; omega
        · have hin' : inB x 0 (m - 1) = false := by simpa using hin
          clear hin
          go_wp2_with (go_at_call 56; refine (isWithin_any _ _ _ _).mono ?_; rintro e w' ⟨rfl, rfl⟩)
          go_ret
          exact ⟨ret_int (by rw [HF.out, allIn_split _ _ _ _ hlt, HX.out, hin']; simp), rfl⟩
      · go_wp2
        go_ret
        exact ⟨ret_int (by rw [HF.out]; have := HA.out; rw [List.take_of_length_le (by omega)] at this; rw [this]; rfl), rfl⟩
  · have hm' : isM m = false := by simpa using hm
    have hfin : codeN m l = 1 := by rw [codeN, if_neg hm]
    have HF := Lib.hid hfin
    clear hfin hm
    go_enter Try.func58, Try.ntmps58
    go_wp2_with (go_at_call 80; refine (IsModulus_any _ _).mono ?_; rintro e w' ⟨rfl, rfl⟩)
    go_ret
    exact ⟨ret_int HF.out.symm, rfl⟩


set_option maxHeartbeats 400000 in
theorem l01Numbers_any (m : Int) (A : Option Addr) (c : Nat) (l : List Int) (w : World) (hm2 : 2 ≤ m) (hm3 : m ≤ 10000) (hl : l.length ≤ 9223372036854775807) (hr : RI w A l) :
    Calls Try.prog 104 #[.int .i64 m, .slice A l.length c] w fun e w' => e = .returned (.bool (allIn 0 (m - 1) l)) ∧ w = w' := by
  go_enter Try.func104, Try.ntmps104
  go_wp2
  go_loop [5] (fun i => ∃ k : Nat, k ≤ l.length ∧ i = .int .i64 k ∧ allIn 0 (m - 1) (l.take k) = true) (fun i => l.length - (intOf i).toNat)
  case atStart => exact ⟨0, Nat.zero_le _, rfl, rfl⟩
  case round =>
    obtain ⟨k, hk, rfl, hall⟩ := hrel
    have HA := Lib.hid hall
    clear hall
    by_cases hlt : k < l.length
    · obtain ⟨b, off, rfl, hb, hc⟩ := hr (by rintro rfl; simp at hlt)
      have hck := hc k hlt
      clear hc hr
      obtain ⟨x, hx⟩ : ∃ x, l[k]?.getD 0 = x := ⟨_, rfl⟩
      rw [hx] at hck
      have HX := Lib.hid hx
      clear hx
      by_cases hin : inB x 0 (m - 1) = true
      · go_wp2_with (go_at_call 68; refine (l01In_any _ _ _ _).mono ?_; rintro e w' ⟨rfl, rfl⟩)
        go_round
        case rel => exact ⟨k + 1, by omega, by go_num, by rw [allIn_take_succ _ _ _ _ hlt, HA.out, HX.out, hin]; rfl⟩
        case measure => simp [intOf]; omega
      · have hin' : inB x 0 (m - 1) = false := by simpa using hin
        clear hin
        go_wp2_with (go_at_call 68; refine (l01In_any _ _ _ _).mono ?_; rintro e w' ⟨rfl, rfl⟩)
        go_ret
        exact ⟨ret_bool (by rw [allIn_split _ _ _ _ hlt, HX.out, hin']; simp), rfl⟩
    · go_wp2
      go_ret
      exact ⟨ret_bool (by have := HA.out; rw [List.take_of_length_le (by omega)] at this; rw [this]), rfl⟩


theorem rem_neg (m n : Int) (hm : 0 < m) (hn : n < 0) : ∃ r, 0 ≤ r ∧ r < m ∧ n.tmod m = -r ∧ n % m = (if r = 0 then 0 else m - r) ∧ (-r) % m = n % m := by
  refine ⟨(-n) % m, Int.emod_nonneg _ (by omega), Int.emod_lt_of_pos _ hm, ?_, ?_, ?_⟩
  · rw [← Int.neg_neg n, Int.neg_tmod, Int.tmod_eq_emod_of_nonneg (by omega), Int.neg_neg]
  · have h := Int.emod_add_mul_ediv (-n) m
    have h1 := Int.emod_nonneg (-n) (show m ≠ 0 by omega)
    have h2 := Int.emod_lt_of_pos (-n) hm
    generalize (-n) % m = r at *
    generalize (-n) / m = q at *
    obtain rfl : n = -r + m * (-q) := by rw [Int.mul_neg]; omega
    rw [Int.add_mul_emod_self_left]
    by_cases hr : r = 0
    · subst hr; simp
    · rw [if_neg hr, ← Int.add_emod_right, Int.emod_eq_of_lt (by omega) (by omega)]; omega
  · have h := Int.emod_add_mul_ediv (-n) m
    generalize (-n) % m = r at *
    generalize (-n) / m = q at *
    obtain rfl : n = -r + m * (-q) := by rw [Int.mul_neg]; omega
    rw [Int.add_mul_emod_self_left]

theorem remainder_any (m n : Int) (w : World) (h1 : 1 ≤ m) (h2 : m ≤ 10000) (h3 : -1000000000000 ≤ n) (h4 : n ≤ 1000000000000) :
    Calls Try.prog 127 #[.int .i64 m, .int .i64 n] w fun e w' => e = .returned (.int .i64 (n % m)) ∧ w = w' := by
  by_cases hn : 0 ≤ n
  · have h5 := Int.emod_nonneg n (show m ≠ 0 by omega)
    have h6 := Int.emod_lt_of_pos n (show 0 < m by omega)
    go_enter Try.func127, Try.ntmps127
    go_wp2
    go_ret
    exact ⟨rfl, rfl⟩
  · obtain ⟨r, a1, a2, a3, a4, a5⟩ := rem_neg m n (by omega) (by omega)
    have H4 := Lib.hid a4
    clear a4 a5
    by_cases hr : r = 0
    · subst hr
      go_enter Try.func127, Try.ntmps127
      go_wp2
      go_ret
      exact ⟨ret_int (by rw [H4.out]; simp), rfl⟩
    · have hr' : 0 < r := by omega
      clear hr
      go_enter Try.func127, Try.ntmps127
      go_wp2
      go_ret
      exact ⟨ret_int (by rw [H4.out, if_neg (by omega)]; omega), rfl⟩


end Go.Proofs.Ytjgpdgoclianlaa
