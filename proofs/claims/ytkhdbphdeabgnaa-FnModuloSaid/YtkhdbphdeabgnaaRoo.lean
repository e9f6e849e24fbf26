/- Contracts of RootsModulo, of the program and of the model. -/
import Derived.Test.YtkhdbphdeabgnaaMem
import Derived.Test.YtkhdbphdeabgnaaMod
namespace Go.Proofs.Ytkhdbphdeabgnaa
open Go.RowKit Go.WideShapes Go.ChangeShapes Go.ChangeAt

/-- the value of a polynomial modulo m -/
def valR (m x : Int) : List Int → Int
  | [] => 0
  | a :: t => (valR m x t * x + a) % m
theorem valR_bd (m x : Int) (hm : 0 < m) : ∀ l, 0 ≤ valR m x l ∧ valR m x l < m
  | [] => by simp [valR]; exact hm
  | a :: t => ⟨Int.emod_nonneg _ (by omega), Int.emod_lt_of_pos _ hm⟩
theorem valR_drop (m x : Int) (l : List Int) (t : Nat) (h : t < l.length) : valR m x (l.drop t) = (valR m x (l.drop (t + 1)) * x + l[t]?.getD 0) % m := by
  rw [List.drop_eq_getElem_cons h, valR, List.getElem?_eq_getElem h]; rfl
theorem allIn_get {lo hi : Int} {l : List Int} (h : allIn lo hi l = true) (t : Nat) (ht : t < l.length) : lo ≤ l[t]?.getD 0 ∧ l[t]?.getD 0 ≤ hi := by
  have := List.all_eq_true.1 h _ (List.getElem_mem ht)
  rw [List.getElem?_eq_getElem ht]
  exact (inB_iff _ _ _).1 this

set_option maxHeartbeats 1000000 in
theorem valueAt_any (m x : Int) (A : Option Addr) (c : Nat) (l : List Int) (w : World) (h1 : 2 ≤ m) (h2 : m ≤ 10000) (h3 : 0 ≤ x) (h4 : x < m) (hl : l.length ≤ 20) (hall : allIn 0 (m - 1) l = true) (hr : RI w A l) :
    Calls Try.prog 78 #[.int .i64 m, .slice A l.length c, .int .i64 x] w fun e w' => e = .returned (.int .i64 (valR m x l)) ∧ w = w' := by
  have HALL := Lib.hid hall
  clear hall
  go_enter Try.func78, Try.ntmps78
  go_wp2
  go_loop [7, 8] (fun v i => ∃ (j : Nat) (I : Int), j ≤ l.length ∧ I = (j : Int) - 1 ∧ v = .int .i64 (valR m x (l.drop j)) ∧ i = .int .i64 I) (fun _ i => (intOf i + 1).toNat)
  case atStart => exact ⟨l.length, _, Nat.le_refl _, rfl, by rw [List.drop_length]; rfl, rfl⟩
  case round =>
    obtain ⟨j, I, hj, hI, rfl, rfl⟩ := hrel
    rcases j with _ | t
    · obtain rfl : I = -1 := by omega
      clear hI
      go_wp2
      go_ret
      exact ⟨rfl, rfl⟩
    · obtain rfl : I = (t : Int) := by omega
      obtain ⟨b, off, rfl, hb, hc⟩ := hr (by rintro rfl; simp at hj)
      have hck := hc t (by omega)
      obtain ⟨q1, q2⟩ := allIn_get HALL.out t (by omega)
      obtain ⟨v1, v2⟩ := valR_bd m x (by omega) (l.drop (t + 1))
      have HV := Lib.hid (valR_drop m x l t (by omega))
      obtain ⟨y, hy⟩ : ∃ y, l[t]?.getD 0 = y := ⟨_, rfl⟩
      obtain ⟨V, hV⟩ : ∃ V, valR m x (l.drop (t + 1)) = V := ⟨_, rfl⟩
      rw [hy] at hck q1 q2
      rw [hV] at v1 v2 ⊢
      obtain ⟨p1, p2⟩ := mul_small v1 v2 h3 h4 h2
      have HY := Lib.hid hy
      have HW := Lib.hid hV
      clear hy hV hc hr hI
      go_wp2
      go_round
      case rel => exact ⟨t, _, by omega, rfl, by rw [HV.out, HY.out, HW.out], rfl⟩
      case measure => simp only [intOf]; omega

/-- the roots below k -/
def rooK (m : Int) (l : List Int) (k : Nat) : List Int := ((List.range k).map fun i : Nat => (i : Int)).filter fun x => valR m x l == 0
theorem rooK_succ (m : Int) (l : List Int) (k : Nat) : rooK m l (k + 1) = rooK m l k ++ (if valR m (k : Nat) l = 0 then [((k : Nat) : Int)] else []) := by
  unfold rooK
  rw [List.range_succ, List.map_append, List.filter_append]
  congr 1
  by_cases h : valR m (k : Nat) l = 0 <;> simp [h]
theorem rooK_len (m : Int) (l : List Int) (k : Nat) : (rooK m l k).length ≤ k := by
  unfold rooK
  have := List.length_filter_le (fun x => valR m x l == 0) ((List.range k).map fun i : Nat => (i : Int))
  simpa using this
/-- the roots, and the code -/
def rooM (m : Int) (l : List Int) : List Int × Int := if codeN m l = 0 then (if l.length ≤ 20 then (rooK m l m.toNat, 0) else ([], 2)) else ([], codeN m l)
theorem rooM_len (m : Int) (l : List Int) : (rooM m l).1.length ≤ 10000 := by
  unfold rooM
  by_cases h0 : codeN m l = 0
  · rw [if_pos h0]
    have hm : isM m = true := by
      unfold codeN at h0
      by_cases hm : isM m = true
      · exact hm
      · rw [if_neg hm] at h0; exact absurd h0 (by decide)
    have := (isM_iff m).1 hm
    by_cases hl : l.length ≤ 20
    · rw [if_pos hl]; have := rooK_len m l m.toNat; dsimp only; omega
    · rw [if_neg hl]; simp
  · rw [if_neg h0]; simp
theorem codeN_all {m : Int} {l : List Int} (h : codeN m l = 0) : 2 ≤ m ∧ m ≤ 10000 ∧ allIn 0 (m - 1) l = true := by
  unfold codeN at h
  by_cases hm : isM m = true
  · rw [if_pos hm] at h
    have := (isM_iff m).1 hm
    by_cases ha : allIn 0 (m - 1) l = true
    · exact ⟨this.1, this.2, ha⟩
    · rw [if_neg ha] at h; exact absurd h (by decide)
  · rw [if_neg hm] at h; exact absurd h (by decide)
theorem ret_vi {v u : Value} {b d : Int} (h : v = u) (k : b = d) : Ending.returned (.tuple #[v, .int .i64 b]) = .returned (.tuple #[u, .int .i64 d]) := by rw [h, k]

set_option maxHeartbeats 1000000 in
theorem RootsModulo_any (m : Int) (A : Option Addr) (c : Nat) (l : List Int) (w : World) (hlen : l.length ≤ 1048576) (hr : RI w A l) :
    Calls Try.prog 33 #[.int .i64 m, .slice A l.length c] w fun e w' => ∃ v, e = .returned (.tuple #[v, .int .i64 (rooM m l).2]) ∧ OwnI w' w.heap.size v (rooM m l).1 ∧ Below w.heap.size w w' := by
  by_cases h0 : codeN m l = 0
  · obtain ⟨h1, h2, h3⟩ := codeN_all h0
    by_cases hl : l.length ≤ 20
    · have HF := Lib.hid (show rooM m l = (rooK m l m.toNat, 0) by rw [rooM, if_pos h0, if_pos hl])
      have H3 := Lib.hid h3
      have HR := Lib.hid hr
      obtain ⟨M, rfl⟩ := Int.eq_ofNat_of_zero_le (show 0 ≤ m by omega)
      clear h3
      go_enter Try.func33, Try.ntmps33
      go_wp2_with (go_at_call 59; refine (codeOfNumbers_any _ _ _ l _ (by omega) HR.out).mono ?_; rintro e w' ⟨rfl, rfl⟩)
      go_loopw [7, 8] (fun r x wr => ∃ K : Nat, K ≤ M ∧ x = .int .i64 K ∧ OwnI wr w.heap.size r (rooK M l K) ∧ Below w.heap.size w wr) (fun _ x _ => M - (intOf x).toNat)
      case atStart => exact ⟨0, Nat.zero_le _, rfl, OwnI.nil _ _, Below.refl _ _⟩
      case round =>
        obtain ⟨K, hK, rfl, hown, hbel⟩ := hrel
        have HB := Lib.hid hbel
        have HO := Lib.hid hown
        have hsz := hbel.size
        have hlk := rooK_len M l K
        clear hbel hown
        by_cases hlt : K < M
        · by_cases hz : valR M (K : Nat) l = 0
          · have HZ := Lib.hid hz
            have hz' : (valR M (K : Nat) l == 0) = true := by simpa using hz
            clear hz
            go_wp2_with (first | (go_at_call 78; refine (valueAt_any _ _ _ _ l _ (by omega) (by omega) (by omega) (by omega) hl H3.out (HR.out.below HB.out)).mono ?_; rintro e w' ⟨rfl, rfl⟩) | (at_builtin; refine wp_push _ _ _ (by rfl) (by rfl) Try.underlying34 w.heap.size _ _ (by rfl) HO.out (K : Nat) (by rfl) (by omega) hsz ?_; intro v' w1 ho1 hpb))
            have HP := Lib.hid hpb
            have HQ := Lib.hid ho1
            clear hpb ho1
            go_wp2
            go_roundw
            case rel => exact ⟨K + 1, by omega, by go_num, by rw [rooK_succ, if_pos HZ.out]; exact HQ.out, HB.out.trans HP.out⟩
            case measure => simp only [intOf]; omega
          · have HZ := Lib.hid hz
            have hz' : (valR M (K : Nat) l == 0) = false := by simpa using hz
            clear hz
            go_wp2_with (go_at_call 78; refine (valueAt_any _ _ _ _ l _ (by omega) (by omega) (by omega) (by omega) hl H3.out (HR.out.below HB.out)).mono ?_; rintro e w' ⟨rfl, rfl⟩)
            go_roundw
            case rel => exact ⟨K + 1, by omega, by go_num, by rw [rooK_succ, if_neg HZ.out, List.append_nil]; exact HO.out, HB.out⟩
            case measure => simp only [intOf]; omega
        · obtain rfl : K = M := by omega
          go_wp2
          go_ret2
          exact ⟨_, ret_vi rfl (by rw [HF.out]), by rw [HF.out]; simpa using HO.out, HB.out⟩
    · have HF := Lib.hid (show rooM m l = ([], 2) by rw [rooM, if_pos h0, if_neg hl])
      have HR := Lib.hid hr
      clear hr
      go_enter Try.func33, Try.ntmps33
      go_wp2_with (go_at_call 59; refine (codeOfNumbers_any _ _ _ l _ (by omega) HR.out).mono ?_; rintro e w' ⟨rfl, rfl⟩)
      go_ret2
      exact ⟨_, ret_vi rfl (by rw [HF.out]), by rw [HF.out]; exact OwnI.nil _ _, Below.refl _ _⟩
  · have HF := Lib.hid (show rooM m l = ([], codeN m l) by rw [rooM, if_neg h0])
    have HR := Lib.hid hr
    obtain ⟨n1, n2⟩ := ne_facts h0
    clear h0 hr
    go_enter Try.func33, Try.ntmps33
    go_wp2_with (go_at_call 59; refine (codeOfNumbers_any _ _ _ l _ (by omega) HR.out).mono ?_; rintro e w' ⟨rfl, rfl⟩)
    go_ret2
    exact ⟨_, ret_vi rfl (by rw [HF.out]), by rw [HF.out]; exact OwnI.nil _ _, Below.refl _ _⟩

theorem OwnI.none0 (w : World) : OwnI (w.alloc (.cells #[] 2)) w.heap.size (.slice (some ⟨w.heap.size, 0, none⟩) 0 0) [] :=
  ⟨rfl, .inr ⟨w.heap.size, 0, #[], rfl, Nat.le_refl _, heap_alloc_new w _, Nat.le_refl _, Nat.zero_le _, rfl, rfl⟩⟩
set_option maxHeartbeats 2000000 in
theorem sRootsModulo_any (m : Int) (A : Option Addr) (c : Nat) (l : List Int) (w : World) (hlen : l.length ≤ 1048576) (hr : RI w A l) :
    Calls Try.prog 34 #[.int .i64 m, .slice A l.length c] w fun e w' => ∃ v, e = .returned (.tuple #[v, .int .i64 (rooM m l).2]) ∧ OwnI w' w.heap.size v (rooM m l).1 ∧ Below w.heap.size w w' := by
  by_cases h0 : codeN m l = 0
  · obtain ⟨h1, h2, h3⟩ := codeN_all h0
    by_cases hl : l.length ≤ 20
    · have HF := Lib.hid (show rooM m l = (rooK m l m.toNat, 0) by rw [rooM, if_pos h0, if_pos hl])
      have H3 := Lib.hid h3
      have HR := Lib.hid hr
      obtain ⟨M, rfl⟩ := Int.eq_ofNat_of_zero_le (show 0 ≤ m by omega)
      clear h3 hr
      go_enter Try.func34, Try.ntmps34
      go_wp2_with (go_at_call 63; refine (l01Code_any _ _ _ l _ (by omega) HR.out).mono ?_; rintro e w' ⟨rfl, rfl⟩)
      go_loopw [7, 8] (fun r x wr => ∃ K : Nat, K ≤ M ∧ x = .int .i64 K ∧ OwnI wr w.heap.size r (rooK M l K) ∧ Below w.heap.size w wr) (fun _ x _ => M - (intOf x).toNat)
      case atStart => exact ⟨0, Nat.zero_le _, rfl, OwnI.none0 _, (Below.refl _ _).alloc (Nat.le_refl _) _⟩
      case round =>
        obtain ⟨K, hK, rfl, hown, hbel⟩ := hrel
        have HB := Lib.hid hbel
        have HO := Lib.hid hown
        have hsz := hbel.size
        have hlk := rooK_len M l K
        have hrr := HR.out.below hbel
        clear hbel hown
        by_cases hlt : K < M
        · obtain ⟨wo, rfl⟩ : ∃ wo : World, wo = wr := ⟨_, rfl⟩
          go_wp2
          go_loop [9, 10] (fun v i => ∃ (j : Nat) (I : Int), j ≤ l.length ∧ I = (j : Int) - 1 ∧ v = .int .i64 (valR M (K : Nat) (l.drop j)) ∧ i = .int .i64 I) (fun _ i => (intOf i + 1).toNat)
          case atStart => exact ⟨l.length, _, Nat.le_refl _, rfl, by rw [List.drop_length]; rfl, rfl⟩
          case round =>
            obtain ⟨j, I, hj, hI, rfl, rfl⟩ := hrel
            rcases j with _ | t
            · obtain rfl : I = -1 := by omega
              clear hI hrr
              rw [List.drop_zero]
              by_cases hz : valR M (K : Nat) l = 0
              · have HZ := Lib.hid hz
                have hz' : (valR M (K : Nat) l == 0) = true := by simpa using hz
                clear hz
                go_wp2_with (at_builtin; refine wp_push _ _ _ (by rfl) (by rfl) Try.underlying34 w.heap.size _ _ (by rfl) HO.out (K : Nat) (by rfl) (by omega) hsz ?_; intro v' w1 ho1 hpb)
                have HP := Lib.hid hpb
                have HQ := Lib.hid ho1
                clear hpb ho1
                go_wp2
                go_roundw
                case rel => exact ⟨K + 1, by omega, by go_num, by rw [rooK_succ, if_pos HZ.out]; exact HQ.out, HB.out.trans HP.out⟩
                case measure => simp only [intOf]; omega
              · have HZ := Lib.hid hz
                have hz' : (valR M (K : Nat) l == 0) = false := by simpa using hz
                clear hz
                go_wp2
                go_roundw
                case rel => exact ⟨K + 1, by omega, by go_num, by rw [rooK_succ, if_neg HZ.out, List.append_nil]; exact HO.out, HB.out⟩
                case measure => simp only [intOf]; omega
            · obtain rfl : I = (t : Int) := by omega
              obtain ⟨b, off, rfl, hb, hc⟩ := hrr (by rintro rfl; simp at hj)
              have hck := hc t (by omega)
              obtain ⟨q1, q2⟩ := allIn_get H3.out t (by omega)
              obtain ⟨v1, v2⟩ := valR_bd (M : Int) (K : Nat) (by omega) (l.drop (t + 1))
              have HV := Lib.hid (valR_drop (M : Int) (K : Nat) l t (by omega))
              obtain ⟨y, hy⟩ : ∃ y, l[t]?.getD 0 = y := ⟨_, rfl⟩
              obtain ⟨V, hV⟩ : ∃ V, valR (M : Int) (K : Nat) (l.drop (t + 1)) = V := ⟨_, rfl⟩
              rw [hy] at hck q1 q2
              rw [hV] at v1 v2 ⊢
              obtain ⟨p1, p2⟩ := mul_small (b := ((K : Nat) : Int)) v1 v2 (by omega) (by omega) h2
              have HY := Lib.hid hy
              have HW := Lib.hid hV
              clear hy hV hc hrr hI
              go_wp2
              go_round
              case rel => exact ⟨t, _, by omega, rfl, by rw [HV.out, HY.out, HW.out], rfl⟩
              case measure => simp only [intOf]; omega
        · obtain rfl : K = M := by omega
          go_wp2
          go_ret2
          exact ⟨_, ret_vi rfl (by rw [HF.out]), by rw [HF.out]; simpa using HO.out, HB.out⟩
    · have HF := Lib.hid (show rooM m l = ([], 2) by rw [rooM, if_pos h0, if_neg hl])
      have HR := Lib.hid hr
      clear hr
      go_enter Try.func34, Try.ntmps34
      go_wp2_with (go_at_call 63; refine (l01Code_any _ _ _ l _ (by omega) HR.out).mono ?_; rintro e w' ⟨rfl, rfl⟩)
      go_ret2
      exact ⟨_, ret_vi rfl (by rw [HF.out]), by rw [HF.out]; exact OwnI.nil _ _, Below.refl _ _⟩
  · have HF := Lib.hid (show rooM m l = ([], codeN m l) by rw [rooM, if_neg h0])
    have HR := Lib.hid hr
    obtain ⟨n1, n2⟩ := ne_facts h0
    clear h0 hr
    go_enter Try.func34, Try.ntmps34
    go_wp2_with (go_at_call 63; refine (l01Code_any _ _ _ l _ (by omega) HR.out).mono ?_; rintro e w' ⟨rfl, rfl⟩)
    go_ret2
    exact ⟨_, ret_vi rfl (by rw [HF.out]), by rw [HF.out]; exact OwnI.nil _ _, Below.refl _ _⟩

end Go.Proofs.Ytkhdbphdeabgnaa
