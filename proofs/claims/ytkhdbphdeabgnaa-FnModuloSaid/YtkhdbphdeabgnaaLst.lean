/- Contracts of the model's draws, fifth part: lists. -/
import Derived.Test.YtkhdbphdeabgnaaDrm
import Derived.Test.YtkhdbphdeabgnaaRoo
import Derived.Deep.RegionLaw
namespace Go.Proofs.Ytkhdbphdeabgnaa
open Go.RowKit Go.WideShapes Go.ChangeShapes Go.ChangeAt

/-- behind the append: the source and the caller's memory -/
theorem src_push {w0 w w' : World} {B g : Nat} {A : Option Addr} {n c : Nat} {o : Obj} (hs : Src w B g A n c) (hb : Below B w0 w) (hp : Below (g + 1) (w.alloc o) w') (hz : g < w.heap.size) : Src w' B g A n c ∧ Below B w0 w' := by
  have hge := hs.ge
  obtain ⟨i, h1, h2, h3, h4, h5, h6, h7, h8⟩ := hs.keep ((Below.refl w.heap.size w).alloc (Nat.le_refl _) o)
  have h9 := h8.below (hp.mono (by omega))
  exact ⟨⟨i, h1, (hp.block g (by omega)).trans h2, h3, h4, h5, h6, h7, h9⟩, (hb.trans ((Below.refl B w).alloc (by omega) o)).trans (hp.mono (by omega))⟩
set_option maxHeartbeats 4000000 in
set_option maxRecDepth 100000 in
theorem l01List_c (w0 : World) (B g : Nat) (A : Option Addr) (n c : Nat) (m k : Int) (w : World) (hs : Src w B g A n c) (hb : Below B w0 w) (hm2 : m ≤ 4000000000000) (hk : k ≤ 1000) :
    Calls Try.prog 74 #[.pointer (some ⟨g, 0, none⟩), .int .i64 m, .int .i64 k] w fun e w' => ∃ v, e = .returned v ∧ ∃ l, OwnI w' (g + 1) v l ∧ l.length ≤ 1000 ∧ Src w' B g A n c ∧ Below B w0 w' := by
  have HS := Lib.hid hs
  have HB := Lib.hid hb
  clear hs hb
  go_enter Try.func74, Try.ntmps74
  go_wp2
  go_loopw [7, 2] (fun o q wr => ∃ (N : Int) (l : List Int), q = .int .i64 N ∧ N ≤ 1000 ∧ l.length + N.toNat ≤ 1000 ∧ OwnI wr (g + 1) o l ∧ Src wr B g A n c ∧ Below B w0 wr) (fun _ q _ => (intOf q).toNat)
  case atStart => exact ⟨k, [], rfl, by omega, by simp; omega, (OwnI.none0 w).more (by have := HS.out.lt; omega), HS.out.keep ((Below.refl w.heap.size w).alloc (Nat.le_refl _) _), HB.out.trans ((Below.refl B w).alloc (by have := HS.out.lt; have := HS.out.ge; omega) _)⟩
  case round =>
    obtain ⟨N, l, rfl, hN, hl, hown, hsrc, hbel⟩ := hrel
    have HO := Lib.hid hown
    have HR := Lib.hid hsrc
    have HL := Lib.hid hbel
    clear hown hsrc hbel HS HB
    by_cases hlt : 0 < N
    · have HRd := Lib.hid (HR.out.keep (Below.refl wr.heap.size wr).drew)
      have HOd := Lib.hid HO.out.drew
      have HLd := Lib.hid HL.out.drew
      obtain ⟨M, hM⟩ : ∃ M, (if m < 1 then 1 else m) = M := ⟨_, rfl⟩
      have hM1 : 1 ≤ M := by rw [← hM]; split <;> omega
      have hM0 : ¬ M = 0 := by omega
      have HM := Lib.hid hM
      have HM2 := Lib.hid hm2
      clear hM hm2
      go_wp2
      go_region_held3 (fun _ => ¬ M = 0) (assumption) (first
        | (refine step_push _ _ _ (by rfl) (by rfl) Try.underlying34 (g + 1) _ _ (by rfl) (OwnI.alloc ho3 _) w3.heap.size x (by rfl) (by simp) (by omega) (by simp; omega) ?_; intro v' w4 ho4 hpb4)
        | (go_at_call 76; refine (l01Next_o w0 B g A n c _ l m _ HRd.out HOd.out HLd.out HM2.out).mono ?_; rintro e1 w1 ⟨r1, rfl, hs1, ho1, hb1, hz1⟩)
        | (go_at_call 76; refine (l01Next_o w0 B g A n c _ l m _ hs1 ho1 hb1 HM2.out).mono ?_; rintro e2 w2 ⟨r2, rfl, hs2, ho2, hb2, hz2⟩)
        | (go_at_call 75; refine (l01Pick_o w0 B g A n c _ l [0, _, r1, r2] _ _ (by simp) (by simp) hs2 ho2 hb2).mono ?_; rintro e3 w3 ⟨x, rfl, hx, hs3, ho3, hb3, hz3⟩)
        | (go_simp; rw [HM.out]))
      all_goals
        have hz := Lib.hid (src_push hs3 hb3 hpb4 hz3)
        have hq := Lib.hid ho4
        clear hs1 ho1 hb1 hs2 ho2 hb2 hs3 ho3 hb3 hx hpb4 ho4 hz1 hz2 hz3
        go_wp2
        go_roundw
        case rel => exact ⟨N - 1, l ++ [x], by go_num, by omega, by rw [List.length_append, List.length_singleton]; omega, hq.out, hz.out.1, hz.out.2⟩
        case measure => simp only [intOf]; omega
    · go_wp2
      go_ret
      exact ⟨_, rfl, l, HO.out, by omega, HR.out, HL.out⟩

set_option maxHeartbeats 4000000 in
theorem DrawRootsModulo_any (A : Option Addr) (n c : Nat) (w : World) (hn : n ≤ 4096) (hb : RB w w.heap.size A n) :
    Calls Try.prog 32 #[.slice A n c] w fun e w' => ∃ (m : Int) (v : Value), e = .returned (.tuple #[.int .i64 m, v]) ∧ ∃ l, OwnI w' w.heap.size v l ∧ l.length ≤ 1000 ∧ Below w.heap.size w w' := by
  go_enter Try.func32, Try.ntmps32
  go_wp2_with fail
  refine (l01From_any A n c w hn hb).mono ?_
  rintro e w1 ⟨rfl, hs1, hb1⟩
  go_wp2_with fail
  refine (l01Spoil_c w _ _ A n c _ hs1 hb1).mono ?_
  rintro e w2 ⟨m, rfl, m0, m1, hs2, hb2⟩
  go_wp2_with fail
  refine (l01Next_c w _ _ A n c _ _ hs2 hb2 (by omega) (by omega)).mono ?_
  rintro e w3 ⟨r, rfl, r0, r1, hs3, hb3⟩
  go_wp2_with fail
  refine (l01Next_c w _ _ A n c _ _ hs3 hb3 (by omega) (by omega)).mono ?_
  rintro e w4 ⟨q, rfl, q0, q1, hs4, hb4⟩
  go_wp2_with fail
  refine (l01Pick_c w _ _ A n c [r, q, 20, 21] _ w4 (by simp) (by simp) hs4 hb4).mono ?_
  rintro e w5 ⟨x, rfl, hx, hs5, hb5⟩
  have hx1 : x ≤ 1000 := by
    simp only [List.mem_cons, List.not_mem_nil, or_false] at hx
    omega
  clear hx hs1 hs2 hs3 hs4 hb1 hb2 hb3 hb4
  go_wp2_with fail
  refine (l01List_c w _ _ A n c m x w5 hs5 hb5 (by omega) hx1).mono ?_
  rintro e w6 ⟨v, rfl, l, ho6, hl, hs6, hb6⟩
  by_cases hnil : l = []
  · subst hnil
    obtain ⟨A6, c6, rfl, _⟩ := ho6.form
    have HO := Lib.hid (ho6.more (Nat.le_succ _))
    clear ho6
    go_wp2
    go_ret2
    exact ⟨_, _, rfl, [], HO.out, hl, hb6⟩
  · obtain ⟨g, c6, rfl⟩ := ho6.openv hnil
    have HN := Lib.hid hnil
    have hlen : 0 < l.length := List.length_pos_iff.2 hnil
    have HO := Lib.hid ho6
    clear ho6 hnil
    go_wp2_with fail
    refine (l01Next_o w _ _ A n c _ l _ _ hs6 HO.out hb6 (by omega)).mono ?_
    rintro e w7 ⟨t, rfl, hs7, ho7, hb7, hz7⟩
    have HO7 := Lib.hid ho7
    clear ho7
    by_cases ht : t = 0
    · subst ht
      go_wp2_with fail
      refine (l01Number_o w _ _ A n c _ l _ _ hs7 HO7.out hb7 (by omega)).mono ?_
      rintro e w8 ⟨y, rfl, hs8, ho8, hb8, hz8⟩
      obtain ⟨o1, o2, o3, o4⟩ := ho8.cells
      have hd := o3 0 hlen
      have hf := o4 0
      obtain ⟨z, hz⟩ : ∃ z, l[0]?.getD 0 = z := ⟨_, rfl⟩
      rw [hz] at hd
      have HS := Lib.hid ((ho8.set 0 y).more (Nat.le_succ _))
      have HB := Lib.hid (hb8.setCell (p := ⟨g, 0, none⟩) (by show w.heap.size ≤ g; omega) (.int .i64 y))
      clear hz o3 o4 ho8 hb8 hs8
      go_wp2
      go_ret2
      exact ⟨_, _, rfl, _, HS.out, by rw [List.length_set]; exact hl, HB.out⟩
    · obtain ⟨n1, n2⟩ := ne_facts ht
      have HS := Lib.hid (HO7.out.more (Nat.le_succ _))
      have HB := Lib.hid hb7
      clear hb7 hs7
      go_wp2
      go_ret2
      exact ⟨_, _, rfl, _, HS.out, hl, HB.out⟩

end Go.Proofs.Ytkhdbphdeabgnaa
