/- Contracts of the functions that take numbers as variadics, of the program and of the model. -/
import Derived.Test.YtkhdbphdeabgnabCode
namespace Go.Proofs.Ytkhdbphdeabgnab
open Go.RowKit Go.WideShapes Go.ChangeShapes Go.ChangeAt

theorem isM_iff (m : Int) : isM m = true ↔ 2 ≤ m ∧ m ≤ 10000 := inB_iff _ _ _

/-- the slice at A holds the integers of l -/
def RI (w : World) (A : Option Addr) (l : List Int) : Prop :=
  l ≠ [] → ∃ b off, A = some ⟨b, off, none⟩ ∧ b < w.heap.size ∧ ∀ k, k < l.length → w.cell? ⟨b, off + k, none⟩ = some (.int .i64 (l[k]?.getD 0))
theorem RI.below {w w' : World} {A : Option Addr} {l : List Int} (h : RI w A l) (hb : Below w.heap.size w w') : RI w' A l := by
  intro hl
  obtain ⟨b, off, e, hlt, hc⟩ := h hl
  exact ⟨b, off, e, Nat.lt_of_lt_of_le hlt hb.size, fun k hk => (hb.cell (p := ⟨b, off + k, none⟩) hlt).trans (hc k hk)⟩

theorem allIn_split (lo hi : Int) (l : List Int) (k : Nat) (hk : k < l.length) : allIn lo hi l = (allIn lo hi (l.take k) && (inB (l[k]?.getD 0) lo hi && allIn lo hi (l.drop (k + 1)))) := by
  have e : l = l.take k ++ l[k] :: l.drop (k + 1) := by rw [List.getElem_cons_drop, List.take_append_drop]
  have e2 : l[k]?.getD 0 = l[k] := by rw [List.getElem?_eq_getElem hk]; rfl
  have e3 : allIn lo hi l = allIn lo hi (l.take k ++ l[k] :: l.drop (k + 1)) := congrArg _ e
  rw [e2, e3]
  unfold allIn
  rw [List.all_append, List.all_cons]
theorem allIn_take_succ (lo hi : Int) (l : List Int) (k : Nat) (hk : k < l.length) : allIn lo hi (l.take (k + 1)) = (allIn lo hi (l.take k) && inB (l[k]?.getD 0) lo hi) := by
  have e2 : l[k]?.getD 0 = l[k] := by rw [List.getElem?_eq_getElem hk]; rfl
  rw [List.take_succ_eq_append_getElem hk, e2]
  unfold allIn
  rw [List.all_append, List.all_cons, List.all_nil, Bool.and_true]

set_option maxHeartbeats 400000 in
theorem codeOfNumbers_any (m : Int) (A : Option Addr) (c : Nat) (l : List Int) (w : World) (hl : l.length ≤ 9223372036854775807) (hr : RI w A l) :
    Calls Try.prog 32 #[.int .i64 m, .slice A l.length c] w fun e w' => e = .returned (.int .i64 (codeN m l)) ∧ w = w' := by
  by_cases hm : isM m = true
  · obtain ⟨hm2, hm3⟩ := (isM_iff m).1 hm
    have hfin : codeN m l = if allIn 0 (m - 1) l then 0 else 2 := by rw [codeN, if_pos hm]
    have HF := Lib.hid hfin
    clear hfin
    go_enter Try.func32, Try.ntmps32
    go_wp2_with (go_at_call 51; refine (IsModulus_any _ _).mono ?_; rintro e w' ⟨rfl, rfl⟩)
    go_loop [12] (fun i => ∃ k : Nat, k ≤ l.length ∧ i = .int .i64 k ∧ allIn 0 (m - 1) (l.take k) = true) (fun i => l.length - (intOf i).toNat)
    case atStart => exact ⟨0, Nat.zero_le _, rfl, rfl⟩
    case round =>
      obtain ⟨k, hk, rfl, hall⟩ := hrel
      have HA := Lib.hid hall
      clear hall
      by_cases hlt : k < l.length
      · obtain ⟨b, off, rfl, hb, hc⟩ := hr (by rintro rfl; simp at hlt)
        have hck := hc k hlt
        clear hc hr
        obtain ⟨x, hx⟩ : ∃ x, l[k]?.getD 0 = x := ⟨_, rfl⟩
        rw [hx] at hck
        have HX := Lib.hid hx
        clear hx
        by_cases hin : inB x 0 (m - 1) = true
        · go_wp2_with (go_at_call 40; refine (isWithin_any _ _ _ _).mono ?_; rintro e w' ⟨rfl, rfl⟩)
          go_round
          case rel => exact ⟨k + 1, by omega, by go_num, by rw [allIn_take_succ _ _ _ _ hlt, HA.out, HX.out, hin]; rfl⟩
          case measure => simp [intOf]; omega
        · have hin' : inB x 0 (m - 1) = false := by simpa using hin
          clear hin
          go_wp2_with (go_at_call 40; refine (isWithin_any _ _ _ _).mono ?_; rintro e w' ⟨rfl, rfl⟩)
          go_ret
          exact ⟨ret_int (by rw [HF.out, allIn_split _ _ _ _ hlt, HX.out, hin']; simp), rfl⟩
      · go_wp2
        go_ret
        exact ⟨ret_int (by rw [HF.out]; have := HA.out; rw [List.take_of_length_le (by omega)] at this; rw [this]; rfl), rfl⟩
  · have hm' : isM m = false := by simpa using hm
    have hfin : codeN m l = 1 := by rw [codeN, if_neg hm]
    have HF := Lib.hid hfin
    clear hfin hm
    go_enter Try.func32, Try.ntmps32
    go_wp2_with (go_at_call 51; refine (IsModulus_any _ _).mono ?_; rintro e w' ⟨rfl, rfl⟩)
    go_ret
    exact ⟨ret_int HF.out.symm, rfl⟩

/-- the code of integers -/
def codeI (l : List Int) : Int := if allIn (-1000000000000) 1000000000000 l then 0 else 2
set_option maxHeartbeats 400000 in
theorem codeOfIntegers_any (A : Option Addr) (c : Nat) (l : List Int) (w : World) (hl : l.length ≤ 9223372036854775807) (hr : RI w A l) :
    Calls Try.prog 36 #[.slice A l.length c] w fun e w' => e = .returned (.int .i64 (codeI l)) ∧ w = w' := by
  go_enter Try.func36, Try.ntmps36
  go_wp2
  go_loop [7] (fun i => ∃ k : Nat, k ≤ l.length ∧ i = .int .i64 k ∧ allIn (-1000000000000) 1000000000000 (l.take k) = true) (fun i => l.length - (intOf i).toNat)
  case atStart => exact ⟨0, Nat.zero_le _, rfl, rfl⟩
  case round =>
    obtain ⟨k, hk, rfl, hall⟩ := hrel
    have HA := Lib.hid hall
    clear hall
    by_cases hlt : k < l.length
    · obtain ⟨b, off, rfl, hb, hc⟩ := hr (by rintro rfl; simp at hlt)
      have hck := hc k hlt
      clear hc hr
      obtain ⟨x, hx⟩ : ∃ x, l[k]?.getD 0 = x := ⟨_, rfl⟩
      rw [hx] at hck
      have HX := Lib.hid hx
      clear hx
      by_cases hin : inB x (-1000000000000) 1000000000000 = true
      · go_wp2_with (go_at_call 40; refine (isWithin_any _ _ _ _).mono ?_; rintro e w' ⟨rfl, rfl⟩)
        go_round
        case rel => exact ⟨k + 1, by omega, by go_num, by rw [allIn_take_succ _ _ _ _ hlt, HA.out, HX.out, hin]; rfl⟩
        case measure => simp [intOf]; omega
      · have hin' : inB x (-1000000000000) 1000000000000 = false := by simpa using hin
        clear hin
        go_wp2_with (go_at_call 40; refine (isWithin_any _ _ _ _).mono ?_; rintro e w' ⟨rfl, rfl⟩)
        go_ret
        exact ⟨ret_int (by rw [codeI, allIn_split _ _ _ _ hlt, HX.out, hin']; simp), rfl⟩
    · go_wp2
      go_ret
      exact ⟨ret_int (by rw [codeI]; have := HA.out; rw [List.take_of_length_le (by omega)] at this; rw [this]; rfl), rfl⟩

set_option maxHeartbeats 400000 in
theorem l01Numbers_any (m : Int) (A : Option Addr) (c : Nat) (l : List Int) (w : World) (hm2 : 2 ≤ m) (hm3 : m ≤ 10000) (hl : l.length ≤ 9223372036854775807) (hr : RI w A l) :
    Calls Try.prog 50 #[.int .i64 m, .slice A l.length c] w fun e w' => e = .returned (.bool (allIn 0 (m - 1) l)) ∧ w = w' := by
  go_enter Try.func50, Try.ntmps50
  go_wp2
  go_loop [5] (fun i => ∃ k : Nat, k ≤ l.length ∧ i = .int .i64 k ∧ allIn 0 (m - 1) (l.take k) = true) (fun i => l.length - (intOf i).toNat)
  case atStart => exact ⟨0, Nat.zero_le _, rfl, rfl⟩
  case round =>
    obtain ⟨k, hk, rfl, hall⟩ := hrel
    have HA := Lib.hid hall
    clear hall
    by_cases hlt : k < l.length
    · obtain ⟨b, off, rfl, hb, hc⟩ := hr (by rintro rfl; simp at hlt)
      have hck := hc k hlt
      clear hc hr
      obtain ⟨x, hx⟩ : ∃ x, l[k]?.getD 0 = x := ⟨_, rfl⟩
      rw [hx] at hck
      have HX := Lib.hid hx
      clear hx
      by_cases hin : inB x 0 (m - 1) = true
      · go_wp2_with (go_at_call 38; refine (l01In_any _ _ _ _).mono ?_; rintro e w' ⟨rfl, rfl⟩)
        go_round
        case rel => exact ⟨k + 1, by omega, by go_num, by rw [allIn_take_succ _ _ _ _ hlt, HA.out, HX.out, hin]; rfl⟩
        case measure => simp [intOf]; omega
      · have hin' : inB x 0 (m - 1) = false := by simpa using hin
        clear hin
        go_wp2_with (go_at_call 38; refine (l01In_any _ _ _ _).mono ?_; rintro e w' ⟨rfl, rfl⟩)
        go_ret
        exact ⟨ret_bool (by rw [allIn_split _ _ _ _ hlt, HX.out, hin']; simp), rfl⟩
    · go_wp2
      go_ret
      exact ⟨ret_bool (by have := HA.out; rw [List.take_of_length_le (by omega)] at this; rw [this]), rfl⟩

theorem l01Code_any (m : Int) (A : Option Addr) (c : Nat) (l : List Int) (w : World) (hl : l.length ≤ 9223372036854775807) (hr : RI w A l) :
    Calls Try.prog 31 #[.int .i64 m, .slice A l.length c] w fun e w' => e = .returned (.int .i64 (codeN m l)) ∧ w = w' := by
  by_cases hm : isM m = true
  · obtain ⟨hm2, hm3⟩ := (isM_iff m).1 hm
    by_cases ha : allIn 0 (m - 1) l = true
    · have HF := Lib.hid (show codeN m l = 0 by rw [codeN, if_pos hm, if_pos ha])
      go_enter Try.func31, Try.ntmps31
      go_wp2_with (first | (go_at_call 49; refine (l01Modulus_any _ _).mono ?_; rintro e w' ⟨rfl, rfl⟩) | (go_at_call 50; refine (l01Numbers_any _ _ _ _ _ hm2 hm3 hl hr).mono ?_; rintro e w' ⟨rfl, rfl⟩))
      go_ret
      exact ⟨ret_int HF.out.symm, rfl⟩
    · have HF := Lib.hid (show codeN m l = 2 by rw [codeN, if_pos hm, if_neg ha])
      have ha' : allIn 0 (m - 1) l = false := by simpa using ha
      clear ha
      go_enter Try.func31, Try.ntmps31
      go_wp2_with (first | (go_at_call 49; refine (l01Modulus_any _ _).mono ?_; rintro e w' ⟨rfl, rfl⟩) | (go_at_call 50; refine (l01Numbers_any _ _ _ _ _ hm2 hm3 hl hr).mono ?_; rintro e w' ⟨rfl, rfl⟩))
      go_ret
      exact ⟨ret_int HF.out.symm, rfl⟩
  · have hm' : isM m = false := by simpa using hm
    have HF := Lib.hid (show codeN m l = 1 by rw [codeN, if_neg hm])
    clear hm
    go_enter Try.func31, Try.ntmps31
    go_wp2_with (go_at_call 49; refine (l01Modulus_any _ _).mono ?_; rintro e w' ⟨rfl, rfl⟩)
    go_ret
    exact ⟨ret_int HF.out.symm, rfl⟩


end Go.Proofs.Ytkhdbphdeabgnab
