/- Contract of valueAt: the value of a polynomial. -/
import Derived.Test.YtcnkpfikafaocaaMem
import Derived.Test.YtcnkpfikafaocaaMod
namespace Go.Proofs.Ytcnkpfikafaocaa
open Go.RowKit Go.WideShapes Go.ChangeShapes Go.ChangeAt

/-- the value of a polynomial modulo m -/
def valR (m x : Int) : List Int → Int
  | [] => 0
  | a :: t => (valR m x t * x + a) % m
theorem valR_bd (m x : Int) (hm : 0 < m) : ∀ l, 0 ≤ valR m x l ∧ valR m x l < m
  | [] => by simp [valR]; exact hm
  | a :: t => ⟨Int.emod_nonneg _ (by omega), Int.emod_lt_of_pos _ hm⟩
theorem valR_drop (m x : Int) (l : List Int) (t : Nat) (h : t < l.length) : valR m x (l.drop t) = (valR m x (l.drop (t + 1)) * x + l[t]?.getD 0) % m := by
  rw [List.drop_eq_getElem_cons h, valR, List.getElem?_eq_getElem h]; rfl
theorem allIn_get {lo hi : Int} {l : List Int} (h : allIn lo hi l = true) (t : Nat) (ht : t < l.length) : lo ≤ l[t]?.getD 0 ∧ l[t]?.getD 0 ≤ hi := by
  have := List.all_eq_true.1 h _ (List.getElem_mem ht)
  rw [List.getElem?_eq_getElem ht]
  exact (inB_iff _ _ _).1 this

set_option maxHeartbeats 1000000 in
theorem valueAt_any (m x : Int) (A : Option Addr) (c : Nat) (l : List Int) (w : World) (h1 : 2 ≤ m) (h2 : m ≤ 10000) (h3 : 0 ≤ x) (h4 : x < m) (hl : l.length ≤ 20) (hall : allIn 0 (m - 1) l = true) (hr : RI w A l) :
    Calls Try.prog 103 #[.int .i64 m, .slice A l.length c, .int .i64 x] w fun e w' => e = .returned (.int .i64 (valR m x l)) ∧ w = w' := by
  have HALL := Lib.hid hall
  clear hall
  go_enter Try.func103, Try.ntmps103
  go_wp2
  go_loop [7, 8] (fun v i => ∃ (j : Nat) (I : Int), j ≤ l.length ∧ I = (j : Int) - 1 ∧ v = .int .i64 (valR m x (l.drop j)) ∧ i = .int .i64 I) (fun _ i => (intOf i + 1).toNat)
  case atStart => exact ⟨l.length, _, Nat.le_refl _, rfl, by rw [List.drop_length]; rfl, rfl⟩
  case round =>
    obtain ⟨j, I, hj, hI, rfl, rfl⟩ := hrel
    rcases j with _ | t
    · obtain rfl : I = -1 := by omega
      clear hI
      go_wp2
      go_ret
      exact ⟨rfl, rfl⟩
    · obtain rfl : I = (t : Int) := by omega
      obtain ⟨b, off, rfl, hb, hc⟩ := hr (by rintro rfl; simp at hj)
      have hck := hc t (by omega)
      obtain ⟨q1, q2⟩ := allIn_get HALL.out t (by omega)
      obtain ⟨v1, v2⟩ := valR_bd m x (by omega) (l.drop (t + 1))
      have HV := Lib.hid (valR_drop m x l t (by omega))
      obtain ⟨y, hy⟩ : ∃ y, l[t]?.getD 0 = y := ⟨_, rfl⟩
      obtain ⟨V, hV⟩ : ∃ V, valR m x (l.drop (t + 1)) = V := ⟨_, rfl⟩
      rw [hy] at hck q1 q2
      rw [hV] at v1 v2 ⊢
      obtain ⟨p1, p2⟩ := mul_small v1 v2 h3 h4 h2
      have HY := Lib.hid hy
      have HW := Lib.hid hV
      clear hy hV hc hr hI
      go_wp2
      go_round
      case rel => exact ⟨t, _, by omega, rfl, by rw [HV.out, HY.out, HW.out], rfl⟩
      case measure => simp only [intOf]; omega
end Go.Proofs.Ytcnkpfikafaocaa
