/- Texts of contracts, joined. -/
import Derived.Test.YtfhdgcndiljjcabGreatMgaf
/- Contract of reversed, of the program. -/
namespace Go.Proofs.YtfhdgcndiljjcabGreat
open Go.RowKit Go.WideShapes Go.ChangeShapes Go.ChangeAt
theorem pw_step (m : Int) (d n : Nat) (l : List Int) : Ser.mulL m d (Ser.cut m d (Ser.pw (Ser.co l) n)) l = Ser.cut m d (Ser.pw (Ser.co l) (n + 1)) := by
  unfold Ser.mulL
  refine Ser.cut_congr ?_
  show Ser.Eq m d (Ser.mul (Ser.co (Ser.cut m d (Ser.pw (Ser.co l) n))) (Ser.co l)) (Ser.mul (Ser.pw (Ser.co l) n) (Ser.co l))
  exact Ser.Eq.mul (Ser.co_cut_eq _ _ _) (Ser.Eq.refl _ _ _)
theorem lag_g (m u : Int) (f : Nat → Int) (d n : Nat) : (Ser.lagG m u f d (n + 1)).1 = (Ser.lagG m u f d n).1.set (n + 1) (Ser.co (Ser.lagG m u f d n).2 (n + 1) * (Ser.ipow u (n + 1) % m) % m) := rfl
theorem lag_r (m u : Int) (f : Nat → Int) (d n : Nat) : addL m d (Ser.lagG m u f d n).2 (scaL m d (Ser.cut m d (Ser.pw f (n + 1))) (-(Ser.co (Ser.lagG m u f d n).2 (n + 1) * (Ser.ipow u (n + 1) % m) % m))) = (Ser.lagG m u f d (n + 1)).2 := by
  obtain ⟨g, hg⟩ : ∃ g, Ser.co (Ser.lagG m u f d n).2 (n + 1) * (Ser.ipow u (n + 1) % m) % m = g := ⟨_, rfl⟩
  have e : Ser.cut m d (fun k => Ser.co (Ser.cut m d (Ser.pw f (n + 1))) k * -g) = Ser.cut m d (fun k => Ser.pw f (n + 1) k * -g) :=
    Ser.cut_congr (fun k hk => Ser.mul_cong (Ser.co_cut_eq m d _ k hk) rfl)
  have e2 : (Ser.lagG m u f d (n + 1)).2 = Ser.cut m d fun i => Ser.co (Ser.lagG m u f d n).2 i + Ser.co (Ser.cut m d fun i => Ser.pw f (n + 1) i * -(Ser.co (Ser.lagG m u f d n).2 (n + 1) * (Ser.ipow u (n + 1) % m) % m)) i := rfl
  rw [e2, hg]
  unfold addL scaL
  rw [e]
theorem SerOk.lag2 {m u : Int} {d : Nat} {l : List Int} (h : SerOk m d l) (f : Nat → Int) (n : Nat) : SerOk m d (Ser.lagG m u f d n).2 :=
  ⟨h.m1, h.m2, h.d1, h.d2, Ser.lagG_len2 _ _ _ _ _, Ser.lagG_red2 (by have := h.m1; omega) _ _ _ _⟩
theorem scaL_len (m : Int) (d : Nat) (l : List Int) (k : Int) : (scaL m d l k).length = d + 1 := by unfold scaL; rw [Ser.cut_length]
theorem addL_len (m : Int) (d : Nat) (l l' : List Int) : (addL m d l l').length = d + 1 := by unfold addL; rw [Ser.cut_length]
theorem SerOk.sca {m : Int} {d : Nat} {l : List Int} (h : SerOk m d l) (l' : List Int) (k : Int) : SerOk m d (scaL m d l' k) := by unfold scaL; exact h.cut _
theorem ri_len {w : World} {base : Nat} {A : Option Addr} {n c : Nat} {l : List Int} (h : OwnI w base (.slice A n c) l) : RI w A l := by
  obtain ⟨A0, c0, he, hri⟩ := h.form
  injection he with e1
  rw [e1]; exact hri
end Go.Proofs.YtfhdgcndiljjcabGreat

