/- Contracts of the model's IsSeries and IsCurve. -/
import Derived.Test.YtcnkpfikafaocaaSok
namespace Go.Proofs.Ytcnkpfikafaocaa
open Go.RowKit Go.WideShapes Go.ChangeShapes Go.ChangeAt

set_option maxHeartbeats 1000000 in
theorem sIsSeries_any (m : Int) (A : Option Addr) (c : Nat) (l : List Int) (w : World) (hl : l.length ≤ 9223372036854775807) (hr : RI w A l) :
    Calls Try.prog 23 #[.agg #[.int .i64 m, .slice A l.length c]] w fun e w' => e = .returned (.bool (isS m l)) ∧ Below w.heap.size w w' := by
  have H := Lib.hid (l02Is_any m A c l _ hl (hr.below (below_one w (.cells #[.int .i64 m, .slice A l.length c] 26))))
  clear hr
  go_enter Try.func23, Try.ntmps23
  go_wp2_with fail
  refine H.out.mono ?_
  rintro e w1 ⟨rfl, hb⟩
  go_wp2
  go_ret
  exact ⟨rfl, below_step (below_one _ _) hb⟩
set_option maxHeartbeats 1000000 in
theorem l02Curve_any (m : Int) (A : Option Addr) (c : Nat) (l : List Int) (w : World) (hl : l.length ≤ 9223372036854775807) (hr : RI w A l) :
    Calls Try.prog 71 #[.agg #[.int .i64 m, .slice A l.length c]] w fun e w' => e = .returned (.bool (isC m l)) ∧ Below w.heap.size w w' := by
  have hb0 := below_one w (.cells #[.int .i64 m, .slice A l.length c] 26)
  have hi := l02Is_any m A c l _ hl (hr.below hb0)
  by_cases h1 : isS m l = true
  · obtain ⟨k1, k2, _⟩ := isS_iff h1
    rw [h1] at hi
    have H := Lib.hid hi
    have HF := Lib.hid (show isC m l = (l[0]?.getD 0 == 0) by unfold isC; rw [h1]; rfl)
    obtain ⟨b, off, rfl, hb, hc⟩ := hr (by rintro rfl; simp at k1)
    have hc0 : w.cell? ⟨b, off, none⟩ = some (.int .i64 (l[0]?.getD 0)) := hc 0 (by omega)
    obtain ⟨x, hx⟩ : ∃ x, l[0]?.getD 0 = x := ⟨_, rfl⟩
    rw [hx] at hc0
    have HX := Lib.hid hx
    have HBx := Lib.hid (Box.new w m (some ⟨b, off, none⟩) l.length c)
    have H0 := Lib.hid hb0
    clear hx hc hi hb0
    have z1 : (0 : Int) < (l.length : Int) := by omega
    go_enter Try.func71, Try.ntmps71
    go_wp2_with fail
    refine H.out.mono ?_
    rintro e w1 ⟨rfl, hb1⟩
    obtain ⟨x1, x2⟩ := box_in HBx.out hb1
    have hb2 := below_step H0.out hb1
    have x3 := (hb2.cell (p := ⟨b, off, none⟩) hb).trans hc0
    go_wp2
    go_ret
    exact ⟨ret_bool (by rw [HF.out, HX.out]), hb2⟩
  · have h1' : isS m l = false := by simpa using h1
    rw [h1'] at hi
    have H := Lib.hid hi
    have HF := Lib.hid (show isC m l = false by unfold isC; rw [h1']; rfl)
    have H0 := Lib.hid hb0
    clear h1 hi hb0 hr
    go_enter Try.func71, Try.ntmps71
    go_wp2_with fail
    refine H.out.mono ?_
    rintro e w1 ⟨rfl, hb1⟩
    go_wp2
    go_ret
    exact ⟨ret_bool HF.out.symm, below_step H0.out hb1⟩
set_option maxHeartbeats 1000000 in
theorem sIsCurve_any (m : Int) (A : Option Addr) (c : Nat) (l : List Int) (w : World) (hl : l.length ≤ 9223372036854775807) (hr : RI w A l) :
    Calls Try.prog 25 #[.agg #[.int .i64 m, .slice A l.length c]] w fun e w' => e = .returned (.bool (isC m l)) ∧ Below w.heap.size w w' := by
  have H := Lib.hid (l02Curve_any m A c l _ hl (hr.below (below_one w (.cells #[.int .i64 m, .slice A l.length c] 26))))
  clear hr
  go_enter Try.func25, Try.ntmps25
  go_wp2_with fail
  refine H.out.mono ?_
  rintro e w1 ⟨rfl, hb⟩
  go_wp2
  go_ret
  exact ⟨rfl, below_step (below_one _ _) hb⟩
end Go.Proofs.Ytcnkpfikafaocaa
