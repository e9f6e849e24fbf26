/- Contracts of the model's draws: of their values nothing is said but that they are in range. -/
import Derived.Test.YtkhdbphdeabgnaaMem
import Derived.Laws.BitsAllLaws
import Derived.Laws.BitsLemmas
namespace Go.Proofs.Ytkhdbphdeabgnaa
open Go.RowKit Go.WideShapes Go.ChangeShapes Go.ChangeAt

/-- the slice of bytes at A, below block B -/
def RB (w : World) (B : Nat) (A : Option Addr) (n : Nat) : Prop :=
  0 < n → ∃ ad : Addr, A = some ad ∧ ad.block < B ∧ ∀ k, k < n → ∃ y : Int, 0 ≤ y ∧ y ≤ 255 ∧ w.cell? (ad.add k) = some (.int .u8 y)
theorem RB.below {w w' : World} {B : Nat} {A : Option Addr} {n : Nat} (h : RB w B A n) (hb : Below B w w') : RB w' B A n := by
  intro hn
  obtain ⟨ad, e, hlt, hc⟩ := h hn
  refine ⟨ad, e, hlt, fun k hk => ?_⟩
  obtain ⟨y, a, b, c⟩ := hc k hk
  exact ⟨y, a, b, (hb.cell (p := ad.add k) (by rw [add_block]; exact hlt)).trans c⟩

/-- a source in block g -/
def Src (w : World) (B g : Nat) (A : Option Addr) (n c : Nat) : Prop :=
  ∃ (i : Nat) (h : Int), w.heap[g]? = some (.cells #[.slice A n c, .int .i64 i, .int .u64 h] 64 (0, 0)) ∧ i ≤ n ∧ 0 ≤ h ∧ h ≤ 18446744073709551615 ∧ B ≤ g ∧ n ≤ 4096 ∧ RB w B A n
theorem Src.keep {w w' : World} {B g : Nat} {A : Option Addr} {n c : Nat} (h : Src w B g A n c) (hb : Below w.heap.size w w') : Src w' B g A n c := by
  obtain ⟨i, h1, h2, h3, h4, h5, h6, h7, h8⟩ := h
  have hlt := (Array.getElem?_eq_some_iff.1 h2).1
  exact ⟨i, h1, (hb.block g hlt).trans h2, h3, h4, h5, h6, h7, h8.below (hb.mono (by omega))⟩

theorem and_bd (x : Int) : 0 ≤ wrap64 (bits .and .u64 x 16777215) ∧ wrap64 (bits .and .u64 x 16777215) ≤ 16777215 := by
  have h : bits .and .u64 x 16777215 = (((BitVec.ofInt 64 x &&& BitVec.ofInt 64 16777215).toNat : Nat) : Int) % 18446744073709551616 := by
    unfold bits
    simp only [IntKind.wrap_u64]
    rfl
  have h2 : (BitVec.ofInt 64 x &&& BitVec.ofInt 64 16777215).toNat ≤ 16777215 := by
    rw [BitVec.toNat_and]
    exact Nat.and_le_right
  unfold wrap64
  omega
theorem u64_bd (x : Int) : 0 ≤ IntKind.u64.wrap x ∧ IntKind.u64.wrap x ≤ 18446744073709551615 := by
  rw [IntKind.wrap_u64]; omega

theorem src_set2 {w : World} {g : Nat} {s i h : Value} {t : TypeId} (h2 : w.heap[g]? = some (.cells #[s, i, h] t (0, 0))) (u : Value) : (w.setCell ⟨g, 2, none⟩ u).heap[g]? = some (.cells #[s, i, u] t (0, 0)) := by
  simp [World.setCell, Array.getElem?_modify, h2]
theorem src_set1 {w : World} {g : Nat} {s i h : Value} {t : TypeId} (h2 : w.heap[g]? = some (.cells #[s, i, h] t (0, 0))) (u : Value) : (w.setCell ⟨g, 1, none⟩ u).heap[g]? = some (.cells #[s, u, h] t (0, 0)) := by
  simp [World.setCell, Array.getElem?_modify, h2]
theorem grown_drewN {w w' : World} {r : Option Nat} (h : w.grownBy w' r) (n : Nat) : w.grownBy (w'.drewN n) r := ⟨h.os, h.tape, h.output, h.size, h.block⟩

set_option maxHeartbeats 1000000 in
set_option maxRecDepth 100000 in
theorem l01Next_any (B g : Nat) (A : Option Addr) (n c : Nat) (m : Int) (w : World) (hs : Src w B g A n c) (hm : 1 ≤ m) (hm2 : m ≤ 4000000000000) :
    Calls Try.prog 76 #[.pointer (some ⟨g, 0, none⟩), .int .i64 m] w fun e w' => ∃ r : Int, e = .returned (.int .i64 r) ∧ 0 ≤ r ∧ r < m ∧ Src w' B g A n c ∧ w.grownBy w' (some g) := by
  obtain ⟨i, h, h2, h3, h4, h5, h6, h7, h8⟩ := hs
  have c0 : w.cell? ⟨g, 0, none⟩ = some (.slice A n c) := by simp [World.cell?, h2]
  have c1 : w.cell? ⟨g, 1, none⟩ = some (.int .i64 i) := by simp [World.cell?, h2]
  have c2 : w.cell? ⟨g, 2, none⟩ = some (.int .u64 h) := by simp [World.cell?, h2]
  have f : ∀ k, w.frozen? ⟨g, k, none⟩ = false := fun k => by simp [World.frozen?, h2]
  have f1 := f 1
  have f2 := f 2
  have H2 := Lib.hid h2
  have hsz : g < w.heap.size := (Array.getElem?_eq_some_iff.1 h2).1
  clear h2 h4 h5 f
  have hi1 : (0 : Int) ≤ (i : Int) := by omega
  by_cases hlt : (i : Int) < (n : Int)
  · obtain ⟨ad, rfl, hb, hc⟩ := h8 (by omega)
    obtain ⟨y, y1, y2, hy⟩ := hc i (by omega)
    have hy2 : ∀ v : Value, (w.setCell ⟨g, 2, none⟩ v).cell? (ad.add i) = some (.int .u8 y) := fun v => by
      rw [World.cell?_setCell_other w _ _ v (by intro e; have := congrArg Addr.block e; rw [add_block] at this; simp at this; omega)]; exact hy
    have H8 := Lib.hid (show RB w B (some ad) n from h8)
    clear hy hc h8
    go_enter Try.func76, Try.ntmps76
    go_wp2
    obtain ⟨H1, hH, hH12⟩ : ∃ H1, IntKind.u64.wrap (IntKind.u64.wrap (h * 6364136223846793005) + 1442695040888963407) = H1 ∧ (0 ≤ H1 ∧ H1 ≤ 18446744073709551615) := ⟨_, rfl, u64_bd _⟩
    rw [hH]
    obtain ⟨V, hV, v1, v2⟩ : ∃ V, wrap64 (bits .and .u64 (H1 / 8589934592) 16777215) = V ∧ 0 ≤ V ∧ V ≤ 16777215 := ⟨_, rfl, and_bd _⟩
    rw [hV]
    have HH := Lib.hid hH12
    clear hH hV hH12
    go_quiet (fail)
    go_wp2
    go_quiet (fail)
    go_wp2
    have r1 := Int.emod_nonneg (V + y) (show m ≠ 0 by omega)
    have r2 := Int.emod_lt_of_pos (V + y) (show 0 < m by omega)
    go_ret
    have hfin := src_set1 (src_set2 H2.out (.int .u64 H1)) (.int .i64 ((i : Int) + 1))
    have hgr := fun k => grown_trans (grown_drewN (grown_setCell w g 2 (.int .u64 H1)) k) (grown_setCell _ g 1 (.int .i64 ((i : Int) + 1)))
    exact ⟨_, rfl, r1, r2, ⟨i + 1, H1, hfin, by omega, HH.out.1, HH.out.2, h6, h7, H8.out.below ((Below.refl B w).grown (hgr _) (by omega) (fun k hk => by injection hk with hk; omega))⟩, hgr _⟩
  · have hsz' : i = n := by omega
    go_enter Try.func76, Try.ntmps76
    go_wp2
    obtain ⟨H1, hH, hH12⟩ : ∃ H1, IntKind.u64.wrap (IntKind.u64.wrap (h * 6364136223846793005) + 1442695040888963407) = H1 ∧ (0 ≤ H1 ∧ H1 ≤ 18446744073709551615) := ⟨_, rfl, u64_bd _⟩
    rw [hH]
    obtain ⟨V, hV, v1, v2⟩ : ∃ V, wrap64 (bits .and .u64 (H1 / 8589934592) 16777215) = V ∧ 0 ≤ V ∧ V ≤ 16777215 := ⟨_, rfl, and_bd _⟩
    rw [hV]
    have HH := Lib.hid hH12
    clear hH hV hH12
    go_quiet (fail)
    go_wp2
    have r1 := Int.emod_nonneg V (show m ≠ 0 by omega)
    have r2 := Int.emod_lt_of_pos V (show 0 < m by omega)
    go_ret
    have hfin := src_set2 H2.out (.int .u64 H1)
    have hgr := fun k => grown_drewN (grown_setCell w g 2 (.int .u64 H1)) k
    exact ⟨_, rfl, r1, r2, ⟨i, H1, hfin, h3, HH.out.1, HH.out.2, h6, h7, RB.below h8 ((Below.refl B w).grown (hgr _) (by omega) (fun k hk => by injection hk with hk; omega))⟩, hgr _⟩

end Go.Proofs.Ytkhdbphdeabgnaa
