/- Contracts of the model's draws, second part: making a source, picking a number. -/
import Derived.Test.YtkhdbphdeabgnaaSrc
import Derived.StillTailTactics
namespace Go.Proofs.Ytkhdbphdeabgnaa
open Go.RowKit Go.WideShapes Go.ChangeShapes Go.ChangeAt

theorem cellsL (w : World) (l : List Int) (t : TypeId) (k : Nat) (hk : k < l.length) : (w.alloc (.cells (l.map (Value.int .i64)).toArray t)).cell? ⟨w.heap.size, k, none⟩ = some (.int .i64 (l[k]?.getD 0)) := by
  rw [World.cell?_alloc_at _ _ _ _ rfl]
  simp [List.getElem?_eq_getElem hk]

set_option maxHeartbeats 1000000 in
theorem l01Pick_new (B g : Nat) (A : Option Addr) (n c : Nat) (l : List Int) (d : Nat) (w : World) (hl : 0 < l.length) (hl2 : l.length ≤ 1000) (hs : Src w B g A n c) (hB : B ≤ w.heap.size) :
    Calls Try.prog 75 #[.pointer (some ⟨g, 0, none⟩), .slice (some ⟨w.heap.size, 0, none⟩) l.length d] (w.alloc (.cells (l.map (Value.int .i64)).toArray 2)) fun e w' => ∃ x : Int, e = .returned (.int .i64 x) ∧ x ∈ l ∧ Src w' B g A n c ∧ Below B w w' := by
  have hs1 := hs.keep ((Below.refl w.heap.size w).alloc (Nat.le_refl _) (.cells (l.map (Value.int .i64)).toArray 2))
  have hg : g < w.heap.size := by obtain ⟨_, _, h2, _⟩ := hs; exact (Array.getElem?_eq_some_iff.1 h2).1
  have hBg : B ≤ g := by obtain ⟨_, _, _, _, _, _, h6, _⟩ := hs; exact h6
  have hbel : Below B w (w.alloc (.cells (l.map (Value.int .i64)).toArray 2)) := (Below.refl B w).alloc hB _
  have HC := Lib.hid (cellsL w l 2)
  obtain ⟨W, hW⟩ : ∃ W, w.alloc (.cells (l.map (Value.int .i64)).toArray 2) = W := ⟨_, rfl⟩
  have hWs : W.heap.size = w.heap.size + 1 := by rw [← hW]; simp
  rw [hW] at hs1 hbel HC ⊢
  have HS := Lib.hid hs1
  have HB := Lib.hid hbel
  have HWS := Lib.hid hWs
  clear hW hWs hs hs1 hbel
  go_enter Try.func75, Try.ntmps75
  go_wp2_with (go_at_call 76; refine (l01Next_any B g A n c _ _ HS.out (by omega) (by omega)).mono ?_; rintro e w1 ⟨r, rfl, r0, r1, hs2, hg2⟩; obtain ⟨R, rfl⟩ := Int.eq_ofNat_of_zero_le r0; have hcell := (hg2.cell (HC.out R (by omega)) (by simp; omega)))
  go_ret
  have hR : R < l.length := by omega
  exact ⟨_, rfl, by rw [List.getElem?_eq_getElem hR]; exact List.getElem_mem hR, hs2, HB.out.grown hg2 (by have := HWS.out; omega) (fun k hk => by injection hk with hk; omega)⟩

set_option maxHeartbeats 2000000 in
set_option maxRecDepth 100000 in
theorem l01From_any (A : Option Addr) (n c : Nat) (w : World) (hn : n ≤ 4096) (hb : RB w w.heap.size A n) :
    Calls Try.prog 72 #[.slice A n c] w fun e w' => e = .returned (.pointer (some ⟨w.heap.size, 0, none⟩)) ∧ Src w' w.heap.size w.heap.size A n c ∧ Below w.heap.size w w' := by
  go_enter Try.func72, Try.ntmps72
  go_wp2
  go_loopw [4] (fun i wr => ∃ (j : Nat) (h : Int), j ≤ n ∧ i = .int .i64 j ∧ wr.heap[w.heap.size]? = some (.cells #[.slice A n c, .int .i64 0, .int .u64 h] 64 (0, 0)) ∧ Hid (0 ≤ h ∧ h ≤ 18446744073709551615) ∧ Below w.heap.size w wr) (fun i _ => n - (intOf i).toNat)
  case atStart => exact ⟨0, 5113 + n, Nat.zero_le _, rfl, heap_alloc_new w _, Lib.hid (by omega), (Below.refl _ _).alloc (Nat.le_refl _) _⟩
  case round =>
    obtain ⟨j, h, hj, rfl, hblk, hh, hbel⟩ := hrel
    have HK := Lib.hid hblk
    have HB := Lib.hid hbel
    by_cases hlt : j < n
    · obtain ⟨ad, rfl, hb1, hc⟩ := hb (by omega)
      obtain ⟨y, y1, y2, hy⟩ := hc j hlt
      have hy' := (hbel.cell (p := ad.add j) (by rw [add_block]; exact hb1)).trans hy
      have c2 : wr.cell? ⟨w.heap.size, 2, none⟩ = some (.int .u64 h) := by simp [World.cell?, hblk]
      have f2 : wr.frozen? ⟨w.heap.size, 2, none⟩ = false := by simp [World.frozen?, hblk]
      have j1 : (0 : Int) ≤ (j : Int) := by omega
      have j2 : (j : Int) < (n : Int) := by omega
      have j3 : (j : Int) < 4096 := by omega
      clear hblk hbel hc hy hb
      go_wp2
      go_still_tail 15, (by kernel_rfl)
      change wpList _ _ _ _ _ wr.drew
      have HY := Lib.hid hy'
      clear hy'
      go_wp2
      go_roundw
      case rel => exact ⟨j + 1, _, by omega, by go_num, src_set2 HK.out _, Lib.hid (u64_bd _), HB.out.drew.setCell (Nat.le_refl _) _⟩
      case measure => simp only [intOf]; omega
    · obtain rfl : j = n := by omega
      clear hblk hbel
      go_wp2
      go_ret
      exact ⟨rfl, ⟨0, h, HK.out, by omega, hh.out.1, hh.out.2, Nat.le_refl _, hn, RB.below hb HB.out⟩, HB.out⟩

end Go.Proofs.Ytkhdbphdeabgnaa
