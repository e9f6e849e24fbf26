/- Contracts of a series put upon a plane: Horner's tables, the model's loop. -/
import Derived.Test.YtjgpdgoclianlaaPmu
import Derived.Test.YtjgpdgoclianlaaPfi
namespace Go.Proofs.Ytjgpdgoclianlaa
open Go.RowKit Go.WideShapes Go.ChangeShapes Go.ChangeAt

namespace Pl
/-- Horner's table when the last k coefficients have been taken in -/
def hor (m : Int) (d : Nat) (l : List Int) (F : Nat → Nat → Int) : Nat → List (List Int)
  | 0 => tab m d fun _ _ => 0
  | k + 1 => tab m d fun p q => mul2 (pc (hor m d l F k)) F p q + (if p = 0 ∧ q = 0 then Ser.co l (d - k) else 0)
theorem hor_length (m : Int) (d : Nat) (l : List Int) (F : Nat → Nat → Int) (k : Nat) : (hor m d l F k).length = d + 1 := by
  cases k <;> (unfold hor; exact tab_length _ _ _)
theorem hor_ok {m : Int} {d : Nat} (m1 : 2 ≤ m) (m2 : m ≤ 10000) (d1 : 1 ≤ d) (d2 : d ≤ 10) (l : List Int) (F : Nat → Nat → Int) (k : Nat) : Ok m d (hor m d l F k) := by
  cases k <;> (unfold hor; exact Ok.of_tab m1 m2 d1 d2 _)
theorem mul2_left0 (a b : Nat → Nat → Int) (ha : ∀ i j, a i j = 0) (p q : Nat) : mul2 a b p q = 0 := by
  unfold mul2
  have h1 : ∀ n, Ser.psum (fun _ => (0 : Int)) n = 0 := fun n => by induction n with
    | zero => rfl
    | succ n ih => rw [Ser.psum, ih]; rfl
  rw [Ser.psum_ext (g := fun _ => 0) _ (fun k _ => ?_), h1]
  rw [Ser.psum_ext (g := fun _ => 0) _ (fun l _ => by rw [ha, Int.zero_mul]), h1]
theorem pc_zero (m : Int) (d : Nat) (i j : Nat) : pc (tab m d fun _ _ => 0) i j = 0 := by
  by_cases h : i + j ≤ d
  · rw [pc_tab h, Int.zero_emod]
  · rw [pc_over (by omega)]
/-- the model's step -/
theorem hor_step {m : Int} {d : Nat} (l : List Int) (F : Nat → Nat → Int) (k : Nat) :
    (tab m d (mul2 (pc (hor m d l F k)) F)).set 0 ((rw' (tab m d (mul2 (pc (hor m d l F k)) F)) 0).set 0 ((pc (tab m d (mul2 (pc (hor m d l F k)) F)) 0 0 + Ser.co l (d - k)) % m)) = hor m d l F (k + 1) := by
  rw [pc_tab (Nat.zero_le _)]
  refine tab_put (Nat.zero_le _) ?_ (fun p q _ hne => ?_)
  · rw [if_pos ⟨rfl, rfl⟩, Int.emod_add_emod]
  · rw [if_neg hne, Int.add_zero]
/-- the program's step, for a plane with the constant 0 -/
theorem hor_stepP {m : Int} {d : Nat} {l : List Int} {F : Nat → Nat → Int} (k : Nat) (hF : F 0 0 = 0) (h1 : 0 ≤ Ser.co l (d - k)) (h2 : Ser.co l (d - k) < m) :
    (tab m d (mul2 (pc (hor m d l F k)) F)).set 0 ((rw' (tab m d (mul2 (pc (hor m d l F k)) F)) 0).set 0 (Ser.co l (d - k))) = hor m d l F (k + 1) := by
  refine tab_put (Nat.zero_le _) ?_ (fun p q _ hne => ?_)
  · rw [if_pos ⟨rfl, rfl⟩]
    have : mul2 (pc (hor m d l F k)) F 0 0 = 0 := by
      unfold mul2
      simp [Ser.psum, hF]
    rw [this, Int.zero_add, Int.emod_eq_of_lt h1 h2]
  · rw [if_neg hne, Int.add_zero]
/-- where the program begins -/
theorem hor_one {m : Int} {d : Nat} {l : List Int} (F : Nat → Nat → Int) (h1 : 0 ≤ Ser.co l d) (h2 : Ser.co l d < m) : tab m d (gosF (Ser.cut m d (Ser.mon 0 (Ser.co l d))) 0) = hor m d l F 1 := by
  show _ = tab m d _
  refine tab_congr (Eq.of m d (fun p q hpq => ?_))
  rw [mul2_left0 (pc (hor m d l F 0)) F (pc_zero m d), Int.zero_add]
  unfold gosF
  rw [if_pos rfl, Nat.sub_zero]
  by_cases hq : q = 0
  · rw [if_pos hq, Ser.co_cut (by omega)]
    unfold Ser.mon
    by_cases hp : p = 0
    · rw [if_pos hp, if_pos ⟨hp, hq⟩, Int.emod_eq_of_lt h1 h2]
    · rw [if_neg hp, if_neg (fun h => hp h.1), Int.zero_emod]
  · rw [if_neg hq, if_neg (fun h => hq h.2)]
end Pl

set_option maxHeartbeats 8000000 in
set_option maxRecDepth 100000 in
theorem l03After_any (m : Int) (d : Nat) (A : Option Addr) (c : Nat) (l : List Int) (A' : Option Addr) (c' : Nat) (t : List (List Int)) (w : World) (hs : SerOk m d l) (hs' : Pl.Ok m d t) (hr : RI w A l) (hr' : RP w A' t) :
    Calls Try.prog 96 #[.int .i64 m, .slice A l.length c, .slice A' t.length c'] w fun e w' => ∃ v, e = .returned v ∧ OwnR w' w.heap.size w'.heap.size v (Pl.hor m d l (Pl.pc t) (d + 1)) ∧ Below w.heap.size w w' := by
  have HR := Lib.hid hr
  have HR' := Lib.hid hr'
  have HS := Lib.hid hs
  have HS' := Lib.hid hs'
  have hd2 := hs.d2
  have m1 := hs.m1
  have m2 := hs.m2
  have hm0 : ¬ m = 0 := by omega
  have HZ := Lib.hid (l03Zero_any m d w (by omega))
  have HT := Lib.hid (fun (k : Nat) (A1 : Option Addr) (c1 : Nat) (W0 : World) (h : RP W0 A1 (Pl.hor m d l (Pl.pc t) k)) (h' : RP W0 A' t) => by
    have := l03Times_any m d A1 c1 (Pl.hor m d l (Pl.pc t) k) A' c' t W0 (Pl.hor_ok m1 m2 hs.d1 hd2 l _ k) hs' h h'
    rw [Pl.hor_length] at this
    exact this)
  obtain ⟨L, hL⟩ : ∃ L, l.length = L := ⟨_, rfl⟩
  obtain ⟨L', hL'⟩ : ∃ L, t.length = L := ⟨_, rfl⟩
  have hLd : (L : Int) - 1 = (d : Int) := by have := hs.len; omega
  have hLd' : (L' : Int) - 1 = (d : Int) := by have := hs'.len; omega
  have hLb : L ≤ 11 := by have := hs.len; omega
  rw [hL'] at HT
  rw [hL, hL']
  have HL := Lib.hid (hL.symm.trans hs.len)
  clear hr hr' hs hs' hL hL'
  go_enter Try.func96, Try.ntmps96
  go_wp2_with fail
  refine HZ.out.mono ?_
  rintro e w1 ⟨v, rfl, ho, hb⟩
  obtain ⟨A0, c0, rfl, -⟩ := ho.len
  rw [Pl.tab_length] at ho ⊢
  have HO1 := Lib.hid (show OwnR w1 w.heap.size w1.heap.size (.slice A0 (d + 1) c0) (Pl.hor m d l (Pl.pc t) 0) from ho)
  have HB1 := Lib.hid hb
  clear ho hb
  go_wp2
  go_loopw [7, 8] (fun s7 s8 wr => ∃ (k t0 : Nat) (I : Int) (A1 : Option Addr) (c1 : Nat), k + t0 = d + 1 ∧ I = (t0 : Int) - 1 ∧ s8 = .int .i64 I ∧ s7 = .slice A1 (d + 1) c1 ∧ OwnR wr w.heap.size wr.heap.size (.slice A1 (d + 1) c1) (Pl.hor m d l (Pl.pc t) k) ∧ Below w.heap.size w wr) (fun _ s8 _ => (intOf s8 + 1).toNat)
  case atStart => exact ⟨0, d + 1, _, A0, c0, by omega, rfl, by first | rfl | go_num, rfl, HO1.out, HB1.out⟩
  case round =>
    clear HO1 HB1
    obtain ⟨k, t0, I, A1, c1, hkt, hI, rfl, rfl, hown, hbel⟩ := hrel
    have HB := Lib.hid hbel
    have HO := Lib.hid hown
    clear hown hbel
    rcases t0 with _ | i
    · obtain rfl : k = d + 1 := by omega
      obtain rfl : I = -1 := by omega
      clear hI hkt
      go_wp2
      go_ret
      exact ⟨_, rfl, HO.out, HB.out⟩
    · obtain rfl : I = (i : Int) := by omega
      have hid : i ≤ d := by omega
      have hik : d - k = i := by omega
      have HTK := Lib.hid (HT.out k A1 c1 wr (by obtain ⟨_, _, e, h⟩ := HO.out.len; injection e with e1 e2 e3; subst e1; exact h) (HR'.out.below HB.out))
      have hst := Pl.hor_step (m := m) (d := d) l (Pl.pc t) k
      rw [hik] at hst
      obtain ⟨F, hF⟩ : ∃ F, Pl.mul2 (Pl.pc (Pl.hor m d l (Pl.pc t) k)) (Pl.pc t) = F := ⟨_, rfl⟩
      rw [hF] at HTK hst
      have HST := Lib.hid hst
      have HKT := Lib.hid hkt
      clear hI hst hF hik hkt
      go_wp2_with fail
      refine HTK.out.mono ?_
      rintro e w3 ⟨v3, rfl, ho3, hb3⟩
      obtain ⟨g, cv, rfl⟩ := ho3.openv (by rw [Pl.tab_length]; omega)
      rw [Pl.tab_length] at ho3 ⊢
      obtain ⟨b4, c4, h1, h2, h3, h4, hcel⟩ := ho3.numB 0 0 (d + 1) (by rw [Pl.tab_length]; omega) (by rw [Pl.tab_row m d _ 0 (by omega), Ser.cut_length]; omega) (by omega)
      obtain ⟨a4, -, -, -⟩ := hcel w3 (Below.refl _ _)
      obtain ⟨k4, k5, k6, k7⟩ := hcel w3.drew (below_drew0 w3)
      obtain ⟨b', off', rfl, hbb', hci⟩ := HR.out.at i (by have := HS.out.len; omega)
      have hc := ((below_step HB.out hb3).cell (p := ⟨b', off' + i, none⟩) hbb').trans hci
      have hst := HST.out
      obtain ⟨Z, hZ⟩ : ∃ Z, Ser.co l i = Z := ⟨_, rfl⟩
      have hzb := HS.out.red i
      have hyb := (HS'.out.tab F).pc 0 0
      obtain ⟨Y, hY⟩ : ∃ Y, Pl.pc (Pl.tab m d F) 0 0 = Y := ⟨_, rfl⟩
      rw [hZ] at hc hst hzb
      rw [hY] at hst hyb k5
      have h8 := k7 ((Y + Z) % m)
      rw [hst] at h8
      have hwr := HB.out.size
      have HO2 := Lib.hid ((h8.low hwr).more (show w3.heap.size ≤ (w3.drew.setCell ⟨b4, 0, none⟩ (.int .i64 ((Y + Z) % m))).heap.size by show w3.heap.size ≤ (w3.heap.modify _ _).size; simp))
      have HB2 := Lib.hid ((below_step HB.out hb3).drew.setCell (p := ⟨b4, 0, none⟩) (Nat.le_trans hwr h2) (.int .i64 ((Y + Z) % m)))
      have p2 : IntKind.i64.wrap (Y + Z) = Y + Z := by rw [IntKind.wrap_i64]; omega
      have p3 : 0 ≤ Y + Z := by omega
      have p4 : (0 : Int) < (d : Int) + 1 := by omega
      have p5 : (0 : Int) ≤ (i : Int) := by omega
      have p6 : (i : Int) < (L : Int) := by omega
      clear hcel k4 k7 h8 hst hzb hyb hZ hY hbb' hci ho3 hb3 h1 h2 h3 h4 hwr
      go_wp2
      go_still_tail 12, (by kernel_rfl)
      change wpList _ _ _ _ _ w3.drew
      go_wp2
      go_roundw
      case rel => exact ⟨k + 1, i, _, _, cv, by have := HKT.out; omega, rfl, by first | rfl | go_num, rfl, HO2.out, HB2.out⟩
      case measure => simp only [intOf]; omega
end Go.Proofs.Ytjgpdgoclianlaa
