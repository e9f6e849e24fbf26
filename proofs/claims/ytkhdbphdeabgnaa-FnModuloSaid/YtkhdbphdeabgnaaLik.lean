/- Contracts of the laws' comparisons of lists, and of lists of lists. -/
import Derived.Test.YtkhdbphdeabgnaaLol2
namespace Go.Proofs.Ytkhdbphdeabgnaa
open Go.RowKit Go.WideShapes Go.ChangeShapes Go.ChangeAt

set_option maxHeartbeats 1000000 in
theorem likeInts_q (A B : Option Addr) (c d : Nat) (l : List Int) (w : World) (hl : l.length ≤ 10485760) (ha : RI w A l) (hb : RI w B l) :
    Calls Try.prog 38 #[.slice A l.length c, .slice B l.length d] w fun e w' => e = .returned (.bool true) ∧ ∃ n, w' = w.drewN n := by
  go_enter Try.func38, Try.ntmps38
  go_wp2
  go_loopw [5] (fun i wr => ∃ j n : Nat, j ≤ l.length ∧ i = .int .i64 j ∧ wr = w.drewN n) (fun i _ => l.length - (intOf i).toNat)
  case atStart => exact ⟨0, 0, Nat.zero_le _, rfl, rfl⟩
  case round =>
    obtain ⟨j, n, hj, rfl, hw⟩ := hrel
    have HW := Lib.hid hw
    have hcell : ∀ p : Addr, wr.cell? p = w.cell? p := by intro p; rw [hw]; rfl
    clear hw
    by_cases hlt : j < l.length
    · obtain ⟨b, off, rfl, hb1, hc1⟩ := ha (by rintro rfl; simp at hlt)
      obtain ⟨b', off', rfl, hb2, hc2⟩ := hb (by rintro rfl; simp at hlt)
      have h1 := (hcell ⟨b, off + j, none⟩).trans (hc1 j hlt)
      have h2 := (hcell ⟨b', off' + j, none⟩).trans (hc2 j hlt)
      obtain ⟨x, hx⟩ : ∃ x, l[j]?.getD 0 = x := ⟨_, rfl⟩
      rw [hx] at h1 h2
      have j1 : (0 : Int) ≤ (j : Int) := by omega
      have j2 : (j : Int) < (l.length : Int) := by omega
      clear hx hc1 hc2 ha hb hcell
      go_wp2
      go_quiet (fail)
      go_wp2
      go_roundw
      case rel => exact ⟨j + 1, n + nq, by omega, by go_num, by rw [HW.out, World.drewN_drewN]⟩
      case measure => simp only [intOf]; omega
    · obtain rfl : j = l.length := by omega
      clear hcell
      go_wp2
      go_ret
      exact ⟨rfl, n, HW.out⟩


set_option maxHeartbeats 1000000 in
theorem rows5_any (v u : Value) (lo hi lo' hi' : Nat) (rows : List (List Int)) (w : World) (hl : rows.length ≤ 10485760) (hrl : ∀ i : Nat, (rows[i]?.getD []).length ≤ 10485760) (hv : OwnR w lo hi v rows) (hu : OwnR w lo' hi' u rows) :
    Calls Try.prog 42 #[v, u] w fun e w' => e = .returned (.bool true) ∧ Below w.heap.size w w' := by
  obtain ⟨A, c, rfl, -⟩ := hv.read
  obtain ⟨B, d, rfl, -⟩ := hu.read
  have HV := Lib.hid hv
  have HU := Lib.hid hu
  have HR := Lib.hid hrl
  clear hv hu hrl
  go_enter Try.func42, Try.ntmps42
  go_wp2
  go_loopw [5] (fun i wr => ∃ j : Nat, j ≤ rows.length ∧ i = .int .i64 j ∧ Below w.heap.size w wr) (fun i _ => rows.length - (intOf i).toNat)
  case atStart => exact ⟨0, Nat.zero_le _, rfl, Below.refl _ _⟩
  case round =>
    obtain ⟨j, hj, rfl, hbel⟩ := hrel
    have HB := Lib.hid hbel
    clear hbel
    by_cases hlt : j < rows.length
    · obtain ⟨g, c1, A1, d1, e1, g1, k1, -, o1, -⟩ := HV.out.row j hlt
      obtain ⟨g', c2, A2, d2, e2, g2, k2, -, o2, -⟩ := HU.out.row j hlt
      injection e1 with e1 e1b e1c
      clear e1b e1c
      injection e2 with e2 e2b e2c
      clear e2b e2c
      subst e1 e2
      have h1 := (HB.out.cell (p := ⟨g, j, none⟩) g1).trans k1
      have h2 := (HB.out.cell (p := ⟨g', j, none⟩) g2).trans k2
      have hrj := HR.out j
      obtain ⟨r, hr⟩ : ∃ r, rows[j]?.getD [] = r := ⟨_, rfl⟩
      rw [hr] at h1 h2 o1 o2 hrj
      have R1 := Lib.hid (o1.ri.below HB.out)
      have R2 := Lib.hid (o2.ri.below HB.out)
      have j1 : (0 : Int) ≤ (j : Int) := by omega
      have j2 : (j : Int) < (rows.length : Int) := by omega
      clear hr k1 k2 o1 o2
      go_wp2
      go_quiet ((go_at_call 38; exact Calls.quiet_of (likeInts_q _ _ _ _ r _ hrj R1.out R2.out)))
      go_wp2
      go_roundw
      case rel => exact ⟨j + 1, by omega, by go_num, below_drewN HB.out _⟩
      case measure => simp only [intOf]; omega
    · obtain rfl : j = rows.length := by omega
      go_wp2
      go_ret
      exact ⟨rfl, HB.out⟩


end Go.Proofs.Ytkhdbphdeabgnaa
