/- Texts of contracts, joined. -/
import Derived.Test.YtpmbojbdppbkgaaMgan
import Derived.Test.YtpmbojbdppbkgaaMgal
import Derived.Test.YtpmbojbdppbkgaaMgam
import Derived.Test.YtpmbojbdppbkgaaMgag
import Derived.Test.YtpmbojbdppbkgaaMgae
import Derived.Lib.QuietBelow
import Derived.BigQuiet
import Derived.OrdersHeld
import Derived.Deep.RegionHeld3
import Derived.Deep.DrawnRows
/- Contracts of LawInCoordinate, of the program and of the model. -/
namespace Go.Proofs.Ytpmbojbdppbkgaa
open Go.RowKit Go.WideShapes Go.ChangeShapes Go.ChangeAt

namespace Pl
theorem bot00 {m : Int} {d : Nat} {F : Nat → Nat → Int} (hF : Norm d F) {a b : List Int} (ha : Ser.co a 0 = 0) (hb : Ser.co b 0 = 0) : pc (botT m d F a b) 0 0 = 0 := by
  unfold botT
  rw [pc_tab (Nat.zero_le _)]
  have h := diag_put F (Ser.co a) (Ser.co b) (d + 1) 0
  rw [put_zero hF ha hb] at h
  have e : Ser.psum (fun p => subB F (Ser.co a) (Ser.co b) (d + 1) p (0 - p)) (0 + 1) = subB F (Ser.co a) (Ser.co b) (d + 1) 0 0 := by simp [Ser.psum]
  rw [e] at h
  rw [h, Int.zero_emod]
end Pl
/-- the reversion of a curve whose first coefficient is a unit -/
def revL (m : Int) (l : List Int) : List Int := Ser.revC m (egI m (Ser.co l 1)).2 (Ser.co l) (l.length - 2)
theorem revL_ok {m : Int} {d : Nat} {l : List Int} (hs : SerOk m d l) : SerOk m d (revL m l) := by
  obtain ⟨r1, r2⟩ := hs.red 1
  obtain ⟨-, -, u1, u2⟩ := eg_fact m _ r1 r2
  have := hs.m1
  have := hs.len
  have := hs.d1
  exact ⟨hs.m1, hs.m2, hs.d1, hs.d2, by unfold revL; rw [Ser.revC_length]; omega, Ser.revC_red (by omega) u1 u2 _ _⟩
theorem revL_zero (m : Int) (l : List Int) : Ser.co (revL m l) 0 = 0 := Ser.revC_curve _ _ _ _
theorem rvs_rev {m : Int} {d : Nat} {l : List Int} (hs : SerOk m d l) (hz : Ser.co l 0 = 0) : rvsM m l = if gcdI (Ser.co l 1) m = 1 then (m, revL m l, 0) else (0, [], 5) := by
  unfold rvsM
  rw [if_pos hs.isS]
  by_cases h : gcdI (Ser.co l 1) m = 1
  · rw [if_pos ⟨hz, h⟩, if_pos h]; rfl
  · rw [if_neg (fun e => h e.2), if_neg h]
/-- the table of a law in a coordinate -/
def licT (m : Int) (d : Nat) (t : List (List Int)) (l r : List Int) : List (List Int) := Pl.hor m d l (Pl.pc (Pl.botT m d (Pl.pc t) r r)) (d + 1)
theorem licT_ok {m : Int} {d : Nat} {t : List (List Int)} (hs : Pl.Ok m d t) (l r : List Int) : Pl.Ok m d (licT m d t l r) := Pl.hor_ok hs.m1 hs.m2 hs.d1 hs.d2 _ _ _
/-- the model of LawInCoordinate -/
def licM (m : Int) (t : List (List Int)) (m1 : Int) (l : List Int) : Int × List (List Int) × Int :=
  if codeS1 m t m1 l = 0 then (if gcdI (Ser.co l 1) m = 1 then (m, licT m (t.length - 1) t l (revL m l), 0) else (0, [], 5)) else (0, [], codeS1 m t m1 l)
theorem licM_len (m : Int) (t : List (List Int)) (m1 : Int) (l : List Int) : szT (licM m t m1 l).2.1 ≤ 1048576 := by
  unfold licM
  by_cases h : codeS1 m t m1 l = 0
  · rw [if_pos h]
    obtain ⟨-, -, d, e, -, ok, -⟩ := codeS1_ok h
    by_cases h2 : gcdI (Ser.co l 1) m = 1
    · rw [if_pos h2, e]; exact szT_ok (licT_ok ok _ _)
    · rw [if_neg h2]; decide
  · rw [if_neg h]; exact (by decide : szT [] ≤ 1048576)
/-- a plane's box, a series' box, the result's variable, the list of the one series -/
theorem pro_psQ (R : TypeId) (w : World) (m : Int) (A : Option Addr) (n c : Nat) (m1 : Int) (A1 : Option Addr) (n1 c1 : Nat) :
    ∃ W, (((w.alloc (.cells #[.int .i64 m, .slice A n c] 31)).alloc (.cells #[.int .i64 m1, .slice A1 n1 c1] 28)).alloc (.cells #[.int .i64 0, .slice none 0 0] R)).alloc (.cells #[.int .i64 m1, .slice A1 n1 c1] 28) = W ∧
    Box W w.heap.size m A n c ∧ Box W (w.heap.size + 1) m1 A1 n1 c1 ∧ VarC R W (w.heap.size + 1 + 1) #[.int .i64 0, .slice none 0 0] ∧ Box W (w.heap.size + 1 + 1 + 1) m1 A1 n1 c1 ∧ Below w.heap.size w W := by
  obtain ⟨W0, h0, h1, h2, h4⟩ := startB2 31 28 w m A n c m1 A1 n1 c1
  have hs : W0.heap.size = w.heap.size + 1 + 1 := by rw [← h0]; simp
  rw [h0]
  refine ⟨_, rfl, (h1.keep (below_one _ _)).keep (below_one _ _), (h2.keep (below_one _ _)).keep (below_one _ _), ?_, ?_, below_alloc _ (below_alloc _ h4)⟩
  · have := (VarC.new R W0 #[.int .i64 0, .slice none 0 0]).keep (below_one _ (.cells #[.int .i64 m1, .slice A1 n1 c1] 28))
    rwa [hs] at this
  · have hv := Box.newT 28 (W0.alloc (.cells #[.int .i64 0, .slice none 0 0] R)) m1 A1 n1 c1
    have e : (W0.alloc (.cells #[.int .i64 0, .slice none 0 0] R)).heap.size = w.heap.size + 1 + 1 + 1 := by simp [hs]
    rwa [e] at hv
/-- a law's box, two series' boxes, a law's variable -/
theorem pro_lawSSL (w : World) (m : Int) (d : Nat) (A : Option Addr) (n c : Nat) (m1 : Int) (A1 : Option Addr) (n1 c1 : Nat) (m2 : Int) (A2 : Option Addr) (n2 c2 : Nat) :
    ∃ W, (((w.alloc (.cells #[.int .i64 m, .int .i64 d, .slice A n c] 68)).alloc (.cells #[.int .i64 m1, .slice A1 n1 c1] 28)).alloc (.cells #[.int .i64 m2, .slice A2 n2 c2] 28)).alloc (.cells #[.int .i64 0, .int .i64 0, .slice none 0 0] 68) = W ∧
    GBox W w.heap.size m d A n c ∧ Box W (w.heap.size + 1) m1 A1 n1 c1 ∧ Box W (w.heap.size + 1 + 1) m2 A2 n2 c2 ∧ VarC 68 W (w.heap.size + 1 + 1 + 1) #[.int .i64 0, .int .i64 0, .slice none 0 0] ∧ Below w.heap.size w W := by
  refine ⟨_, rfl, (((GBox.new _ _ _ _ _ _ _).keep (below_one _ _)).keep (below_one _ _)).keep (below_one _ _), ?_, ?_, ?_, below_alloc _ (below_alloc _ (below_alloc _ (below_one _ _)))⟩
  · have := ((Box.newT 28 (w.alloc (.cells #[.int .i64 m, .int .i64 d, .slice A n c] 68)) m1 A1 n1 c1).keep (below_one _ (.cells #[.int .i64 m2, .slice A2 n2 c2] 28))).keep (below_one _ (.cells #[.int .i64 0, .int .i64 0, .slice none 0 0] 68))
    simpa using this
  · have := (Box.newT 28 ((w.alloc (.cells #[.int .i64 m, .int .i64 d, .slice A n c] 68)).alloc (.cells #[.int .i64 m1, .slice A1 n1 c1] 28)) m2 A2 n2 c2).keep (below_one _ (.cells #[.int .i64 0, .int .i64 0, .slice none 0 0] 68))
    simpa using this
  · have := VarC.new 68 (((w.alloc (.cells #[.int .i64 m, .int .i64 d, .slice A n c] 68)).alloc (.cells #[.int .i64 m1, .slice A1 n1 c1] 28)).alloc (.cells #[.int .i64 m2, .slice A2 n2 c2] 28)) #[.int .i64 0, .int .i64 0, .slice none 0 0]
    simpa using this
set_option maxHeartbeats 8000000 in
set_option maxRecDepth 100000 in
theorem inCoordinate_any (m : Int) (d : Nat) (A : Option Addr) (c : Nat) (t : List (List Int)) (A1 : Option Addr) (c1 : Nat) (l1 : List Int) (A2 : Option Addr) (c2 : Nat) (l2 : List Int) (w : World) (hs : Pl.Ok m d t) (hN : Pl.Norm d (Pl.pc t)) (s1 : SerOk m d l1) (s2 : SerOk m d l2) (z2 : Ser.co l2 0 = 0) (hr : RP w A t) (hr1 : RI w A1 l1) (hr2 : RI w A2 l2) :
    Calls Try.prog 123 #[.agg #[.int .i64 m, .int .i64 d, .slice A t.length c], .agg #[.int .i64 m, .slice A1 l1.length c1], .agg #[.int .i64 m, .slice A2 l2.length c2]] w fun e w' => ∃ v, e = .returned (.agg #[.int .i64 m, .int .i64 d, v]) ∧ OwnR w' w.heap.size w'.heap.size v (licT m d t l1 l2) ∧ Below w.heap.size w w' := by
  obtain ⟨W, hW, b1, b2, b3, v4, hwb⟩ := pro_lawSSL w m d A t.length c m A1 l1.length c1 m A2 l2.length c2
  have B1 := Lib.hid b1
  have B2 := Lib.hid b2
  have B3 := Lib.hid b3
  have V4 := Lib.hid v4
  have HB := Lib.hid hwb
  have HW := Lib.hid hW
  have HP := Lib.hid (fun W0 (h : Below W.heap.size W W0) => withCurves_any m d A c t A2 c2 l2 A2 c2 l2 W0 hs s2 s2 z2 z2 ((hr.below hwb).below h) ((hr2.below hwb).below h) ((hr2.below hwb).below h))
  have HQ := Lib.hid (fun (W0 : World) (h : Below W.heap.size W W0) (A0 : Option Addr) (c0 : Nat) (h0 : RP W0 A0 (Pl.botT m d (Pl.pc t) l2 l2)) => appliedTo_any m d A1 c1 l1 A0 c0 (Pl.botT m d (Pl.pc t) l2 l2) W0 s1 (hs.tab _) (Pl.bot00 hN z2 z2) ((hr1.below hwb).below h) h0)
  obtain ⟨T, hT⟩ : ∃ T, Pl.botT m d (Pl.pc t) l2 l2 = T := ⟨_, rfl⟩
  obtain ⟨R, hR⟩ : ∃ R, licT m d t l1 l2 = R := ⟨_, rfl⟩
  rw [show Pl.hor m d l1 (Pl.pc (Pl.botT m d (Pl.pc t) l2 l2)) (d + 1) = R from hR, hT] at HQ
  rw [hT] at HP
  rw [hR]
  have hTl : T.length = d + 1 := by rw [← hT]; exact Pl.tab_length _ _ _
  have HTL := Lib.hid hTl
  obtain ⟨L, hL⟩ : ∃ L, t.length = L := ⟨_, rfl⟩
  obtain ⟨n1, hn1⟩ : ∃ L, l1.length = L := ⟨_, rfl⟩
  obtain ⟨n2, hn2⟩ : ∃ L, l2.length = L := ⟨_, rfl⟩
  rw [hL] at HP HW b1 ⊢
  rw [hn1] at HQ HW b2 ⊢
  rw [hn2] at HP HW b3 ⊢
  have hsz : w.heap.size + 1 + 1 + 1 < W.heap.size := v4.lt
  obtain ⟨x1, x2, x3, -⟩ := b1
  obtain ⟨y1, y2, -⟩ := b2
  obtain ⟨y3, y4, -⟩ := b3
  have HF := Lib.hid (fun w' (h : Below (w.heap.size + 1 + 1 + 1) W w') => (⟨⟨(h.cell (p := ⟨w.heap.size, 0, none⟩) (by simp; omega)).trans x1, (h.cell (p := ⟨w.heap.size, 1, none⟩) (by simp; omega)).trans x2, (h.cell (p := ⟨w.heap.size, 2, none⟩) (by simp; omega)).trans x3⟩,
      ⟨(h.cell (p := ⟨w.heap.size + 1, 0, none⟩) (by simp)).trans y1, (h.cell (p := ⟨w.heap.size + 1, 1, none⟩) (by simp)).trans y2⟩, (h.cell (p := ⟨w.heap.size + 1 + 1, 0, none⟩) (by simp)).trans y3, (h.cell (p := ⟨w.heap.size + 1 + 1, 1, none⟩) (by simp)).trans y4⟩ :
    (w'.cell? ⟨w.heap.size, 0, none⟩ = some (.int .i64 m) ∧ w'.cell? ⟨w.heap.size, 1, none⟩ = some (.int .i64 d) ∧ w'.cell? ⟨w.heap.size, 2, none⟩ = some (.slice A L c)) ∧ (w'.cell? ⟨w.heap.size + 1, 0, none⟩ = some (.int .i64 m) ∧ w'.cell? ⟨w.heap.size + 1, 1, none⟩ = some (.slice A1 n1 c1)) ∧ w'.cell? ⟨w.heap.size + 1 + 1, 0, none⟩ = some (.int .i64 m) ∧ w'.cell? ⟨w.heap.size + 1 + 1, 1, none⟩ = some (.slice A2 n2 c2)))
  have X0 := Lib.hid (keepW HF.out (below_less (by omega) (below_drew0 W)))
  clear v4 hwb hW hr hr1 hr2 hs s1 s2 z2 hN hT hR hL hn1 hn2 x1 x2 x3 y1 y2 y3 y4 hTl
  go_enter Try.func123, Try.ntmps123
  go_wp2
  rw [HW.out]
  go_region_held3 (fun w' => ((w'.cell? ⟨w.heap.size, 0, none⟩ = some (.int .i64 m) ∧ w'.cell? ⟨w.heap.size, 1, none⟩ = some (.int .i64 d) ∧ w'.cell? ⟨w.heap.size, 2, none⟩ = some (.slice A L c)) ∧ (w'.cell? ⟨w.heap.size + 1, 0, none⟩ = some (.int .i64 m) ∧ w'.cell? ⟨w.heap.size + 1, 1, none⟩ = some (.slice A1 n1 c1)) ∧ w'.cell? ⟨w.heap.size + 1 + 1, 0, none⟩ = some (.int .i64 m) ∧ w'.cell? ⟨w.heap.size + 1 + 1, 1, none⟩ = some (.slice A2 n2 c2)) ∧ Below (w.heap.size + 1 + 1 + 1) W w') (first | exact X0.out | exact keep3 HF.out (by omega) _ _ _ (by assumption) | exact keepS HF.out (by omega) (by assumption) hb3 | exact keepS HF.out (by omega) (by assumption) hb2) (first
    | (go_at_call 132; with_reducible refine Calls.mono (HP.out _ (below_drew0 _)) ?_; rintro e2 w2 ⟨s2, rfl, ho2, hb2⟩; obtain ⟨A3, c3, rfl, -⟩ := ho2.len)
    | (go_at_call 99; with_reducible refine Calls.mono (HQ.out _ (below_step (below_drew0 _) hb2) _ _ ho2.rp) ?_; rintro e3 w3 ⟨s3, rfl, ho, hb3⟩; obtain ⟨A4, c4, rfl, -⟩ := ho.len; have hv := V4.out.keep (below_step (below_step (below_drew0 W) hb2) hb3); obtain ⟨q0, q1, q2, q3, q4, q5⟩ := hv.tells3))
  all_goals
    have hw3 := below_step (below_step (below_drew0 W) hb2) hb3
    have hz2 := (below_step (below_drew0 W) hb2).size
    obtain ⟨f0, f1, f2, f3, f4⟩ := fin_grid (w := w) hv ho (.inl (by omega)) (by omega) (Nat.le_refl _) (below_step HB.out hw3) (.int .i64 m) (.int .i64 d) (.slice A4 R.length c4)
    have F3 := Lib.hid (f3.low (lo' := w.heap.size) (by omega))
    have F4 := Lib.hid f4
    unfold set3 at f0 f1 f2
    clear f3 f4 ho ho2 hb2 hb3 hv hw3
    go_wp2
    exact bodyPost_ret (v := .agg #[.int .i64 m, .int .i64 d, .slice A4 R.length c4]) (by simp [results, Try.results123, go_sem, f0, f1, f2]) rfl ⟨_, rfl, F3.out, F4.out⟩
theorem field_law (a b c : Value) (W : World) : (Instr.field 68 (.agg #[a, b, c]) 0).run Try.prog W = .ok (.agg #[a, b, c]) W := by kernel_rfl
set_option maxHeartbeats 16000000 in
set_option maxRecDepth 100000 in
theorem LawInCoordinate_any (m : Int) (A : Option Addr) (c : Nat) (t : List (List Int)) (m1 : Int) (A1 : Option Addr) (c1 : Nat) (l : List Int) (w : World) (hz : szT t ≤ 1048576) (hl : l.length ≤ 1048576) (hr : RP w A t) (hr1 : RI w A1 l) :
    Calls Try.prog 57 #[.agg #[.int .i64 m, .slice A t.length c], .agg #[.int .i64 m1, .slice A1 l.length c1]] w fun e w' => ∃ s, e = .returned (.tuple #[.agg #[.int .i64 (licM m t m1 l).1, s], .int .i64 (licM m t m1 l).2.2]) ∧ OwnR w' w.heap.size w'.heap.size s (licM m t m1 l).2.1 ∧ Below w.heap.size w w' := by
  obtain ⟨W, hW, b1, b2, v3, b4, hwb⟩ := pro_psQ 31 w m A t.length c m1 A1 l.length c1
  have hc : Calls Try.prog 75 #[.agg #[.int .i64 m, .slice A t.length c], .slice (some ⟨w.heap.size + 1 + 1 + 1, 0, none⟩) 1 1] W fun e w' => e = .returned (.int .i64 (codeS1 m t m1 l)) ∧ Below W.heap.size W w' :=
    codeLw_any (w.heap.size + 1 + 1 + 1) m A c t [(m1, A1, c1, l)] W hz (hr.below hwb) (SL.one b4 (hr1.below hwb) hl) (by simp)
  have B1 := Lib.hid b1
  have B2 := Lib.hid b2
  have V3 := Lib.hid v3
  have HB := Lib.hid hwb
  have HW := Lib.hid hW
  have hsz : w.heap.size + 1 + 1 < W.heap.size := v3.lt
  by_cases h0 : codeS1 m t m1 l = 0
  · obtain ⟨hL0, rfl, d, e1, f1, ok, hf, s1, z1⟩ := codeS1_ok h0
    rw [h0] at hc
    have HC0 := Lib.hid hc
    have hd2 := ok.d2
    have HRV := Lib.hid (fun W0 (h : Below W.heap.size W W0) => by
      have := ReverseSeries_any m1 A1 c1 l W0 hl ((hr1.below hwb).below h)
      rw [rvs_rev s1 z1] at this
      exact this)
    by_cases hg : gcdI (Ser.co l 1) m1 = 1
    · have HA : Hid (licM m1 t m1 l = (m1, licT m1 d t l (revL m1 l), 0)) := Lib.hid (by unfold licM; rw [if_pos h0, if_pos hg, e1]; rfl)
      rw [HA.out]
      rw [if_pos hg] at HRV
      have HG := Lib.hid (fun W0 => lawOf_nat m1 A t.length c d W0 e1 (by omega))
      have HI := Lib.hid (fun W0 (h : Below W.heap.size W W0) A2 c2 (h2 : RI W0 A2 (revL m1 l)) => inCoordinate_any m1 d A c t A1 c1 l A2 c2 (revL m1 l) W0 ok (Pl.norm_law hf ok) s1 (revL_ok s1) (revL_zero _ _) ((hr.below hwb).below h) ((hr1.below hwb).below h) h2)
      obtain ⟨V, hV⟩ : ∃ V, revL m1 l = V := ⟨_, rfl⟩
      rw [hV] at HRV HI ⊢
      obtain ⟨R, hR⟩ : ∃ R, licT m1 d t l V = R := ⟨_, rfl⟩
      rw [hR] at HI ⊢
      obtain ⟨L, hL⟩ : ∃ L, t.length = L := ⟨_, rfl⟩
      obtain ⟨n1, hn1⟩ : ∃ L, l.length = L := ⟨_, rfl⟩
      rw [hL] at HC0 HG HI HW b1 ⊢
      rw [hn1] at HRV HI HW b2 ⊢
      obtain ⟨x1, x2, -⟩ := b1
      obtain ⟨y1, y2, -⟩ := b2
      have HF := Lib.hid (fun w' (h : Below (w.heap.size + 1 + 1) W w') => (⟨⟨(h.cell (p := ⟨w.heap.size, 0, none⟩) (by simp; omega)).trans x1, (h.cell (p := ⟨w.heap.size, 1, none⟩) (by simp; omega)).trans x2⟩, (h.cell (p := ⟨w.heap.size + 1, 0, none⟩) (by simp)).trans y1, (h.cell (p := ⟨w.heap.size + 1, 1, none⟩) (by simp)).trans y2⟩ :
        (w'.cell? ⟨w.heap.size, 0, none⟩ = some (.int .i64 m1) ∧ w'.cell? ⟨w.heap.size, 1, none⟩ = some (.slice A L c)) ∧ w'.cell? ⟨w.heap.size + 1, 0, none⟩ = some (.int .i64 m1) ∧ w'.cell? ⟨w.heap.size + 1, 1, none⟩ = some (.slice A1 n1 c1)))
      clear v3 b4 hwb hW hr hr1 hc h0 ok hf s1 z1 e1 f1 hz hl hR hL hn1 HA hg hV hL0 x1 x2 y1 y2 B1 B2
      have hfd := field_law
      go_enter Try.func57, Try.ntmps57
      go_wp2_with fail
      rw [HW.out]
      refine HC0.out.mono ?_
      rintro e w1 ⟨rfl, hb1⟩
      obtain ⟨⟨x1, x2⟩, y1, y2⟩ := HF.out _ (below_less (by omega) hb1)
      go_wp2_with fail
      refine (HRV.out _ hb1).mono ?_
      rintro e w2 ⟨s2, rfl, ho2, hb2⟩
      obtain ⟨A2, c2, rfl, -⟩ := ho2.form
      clear x1 x2 y1 y2
      obtain ⟨w3, hw3⟩ : ∃ w3, w2.alloc (.cells #[.int .i64 m1, .slice A2 V.length c2] 28) = w3 := ⟨_, rfl⟩
      have hvn : Var2 w3 w2.heap.size (.int .i64 m1) (.slice A2 V.length c2) := by rw [← hw3]; exact Var2.new _ _ _
      have ho3 : RI w3 A2 V := by rw [← hw3]; exact (ho2.keep (below_one _ _)).ri
      have hb3 : Below W.heap.size W w3 := by rw [← hw3]; exact below_alloc _ (below_step hb1 hb2)
      have HO3 := Lib.hid ho3
      have HB3 := Lib.hid hb3
      have HVN := Lib.hid hvn
      have HSZ3 := Lib.hid hvn.lt
      have HW3 := Lib.hid hw3
      have g0 := hvn.c0
      have g1 := hvn.c1
      rw [← hw3] at g0 g1
      have hge : W.heap.size ≤ w2.heap.size := (below_step hb1 hb2).size
      obtain ⟨⟨p1, p2⟩, p3, p4⟩ := HF.out _ (below_less (by omega) HB3.out)
      have X0 := Lib.hid (kb3_call (below_drew0 w3) ⟨⟨p1, p2, by have := HSZ3.out; omega⟩, ⟨p3, p4, by have := HSZ3.out; omega⟩, ⟨hvn.c0, hvn.c1, HSZ3.out⟩⟩)
      clear ho2 ho3 hb1 hb2 hb3 hvn hw3 p1 p2 p3 p4
      go_wp2
      rw [HW3.out]
      clear g0 g1
      go_region_held3 (fun w' => (w'.cell? ⟨w.heap.size, 0, none⟩ = some (.int .i64 m1) ∧ w'.cell? ⟨w.heap.size, 1, none⟩ = some (.slice A L c) ∧ w.heap.size < w'.heap.size) ∧ (w'.cell? ⟨w.heap.size + 1, 0, none⟩ = some (.int .i64 m1) ∧ w'.cell? ⟨w.heap.size + 1, 1, none⟩ = some (.slice A1 n1 c1) ∧ w.heap.size + 1 < w'.heap.size) ∧ (w'.cell? ⟨w2.heap.size, 0, none⟩ = some (.int .i64 m1) ∧ w'.cell? ⟨w2.heap.size, 1, none⟩ = some (.slice A2 V.length c2) ∧ w2.heap.size < w'.heap.size)) (first | exact X0.out | exact kb3_call hb6 (by assumption) | exact kb3_call hb5 (by assumption) | exact kb3_call hb4 (by assumption) | exact kb3_store (by omega) (by omega) (by omega) (by assumption)) (first
        | (go_at_call 64; with_reducible refine Calls.mono (HG.out _) ?_; rintro e w4 ⟨rfl, hb4⟩)
        | (go_at_call 123; with_reducible refine Calls.mono (HI.out _ (below_step HB3.out (below_step (below_drew0 _) hb4)) _ _ (HO3.out.below (below_step (below_drew0 _) hb4))) ?_; rintro e w5 ⟨s5, rfl, ho5, hb5⟩; obtain ⟨A5, c5, rfl, -⟩ := ho5.len)
        | (go_at_call 108; refine (plane_any _ _ _ _ _ _).mono ?_; rintro e w6 ⟨rfl, hb6⟩; have hv := V3.out.keep (below_step HB3.out (below_step (below_step (below_step (below_drew0 _) hb4) hb5) hb6)); obtain ⟨q0, q1, q2, q3⟩ := hv.tells2))
      all_goals
        have hw6 := below_step HB3.out (below_step (below_step (below_step (below_drew0 _) hb4) hb5) hb6)
        have hz1 := (below_step HB3.out (below_step (below_drew0 _) hb4)).size
        obtain ⟨f0, f1, f2, f3⟩ := fin_plane (w := w) hv (ho5.keep hb6) (.inl (by omega)) (by omega) hb6.size (below_step HB.out hw6) (.int .i64 m1) (.slice A5 R.length c5)
        have F2 := Lib.hid (f2.low (lo' := w.heap.size) (by omega))
        have F3 := Lib.hid f3
        clear f2 f3 ho5 hb4 hb5 hb6 hv hw6
        go_wp2
        exact bodyPost_ret (v := .tuple #[.agg #[.int .i64 m1, .slice A5 R.length c5], .int .i64 0]) (by simp [results, Try.results57, go_sem, f0, f1]) rfl ⟨_, rfl, F2.out, F3.out⟩
    · have HA : Hid (licM m1 t m1 l = (0, [], 5)) := Lib.hid (by unfold licM; rw [if_pos h0, if_neg hg])
      rw [HA.out]
      rw [if_neg hg] at HRV
      obtain ⟨L, hL⟩ : ∃ L, t.length = L := ⟨_, rfl⟩
      obtain ⟨n1, hn1⟩ : ∃ L, l.length = L := ⟨_, rfl⟩
      rw [hL] at HC0 HW B1 ⊢
      rw [hn1] at HRV HW B2 ⊢
      clear b1 b2 v3 b4 hwb hW hr hr1 hc h0 ok hf s1 z1 e1 f1 hz hl hL hn1 HA hg hL0
      go_enter Try.func57, Try.ntmps57
      go_wp2_with fail
      rw [HW.out]
      refine HC0.out.mono ?_
      rintro e w1 ⟨rfl, hb1⟩
      obtain ⟨y1, y2, -⟩ := B2.out.keep hb1
      go_wp2_with fail
      refine (HRV.out _ hb1).mono ?_
      rintro e w2 ⟨s2, rfl, ho2, hb2⟩
      obtain ⟨A2, c2, rfl, -⟩ := ho2.form
      have hb3 := below_alloc (.cells #[.int .i64 0, .slice A2 0 c2] 28) (below_step hb1 hb2)
      clear ho2 hb1 hb2 y1 y2
      have hv := V3.out.keep (hb3)
      obtain ⟨q0, q1, q2, q3⟩ := hv.tells2
      obtain ⟨f0, f1, f2, f3⟩ := fin_plane (w := w) hv (OwnR.nil _ w.heap.size 0) (.inr (Nat.zero_le _)) (by omega) (Nat.zero_le _) (below_step HB.out (hb3)) (.int .i64 0) (.slice none 0 0)
      have F2 := Lib.hid f2
      have F3 := Lib.hid f3
      clear f2 f3 hv
      go_wp2
      exact bodyPost_ret (v := .tuple #[.agg #[.int .i64 0, .slice none 0 0], .int .i64 (5)]) (by simp [results, Try.results57, go_sem, f0, f1]) rfl ⟨_, rfl, F2.out, F3.out⟩
  · have HA : Hid (licM m t m1 l = (0, [], codeS1 m t m1 l)) := Lib.hid (by unfold licM; rw [if_neg h0])
    rw [HA.out]
    obtain ⟨n1, n2⟩ := ne_facts h0
    obtain ⟨C, hC⟩ : ∃ C, codeS1 m t m1 l = C := ⟨_, rfl⟩
    rw [hC] at n1 n2 h0 hc ⊢
    have HC0 := Lib.hid hc
    clear b1 b2 v3 b4 hwb hW hr hr1 hz hl hc hC HA
    go_enter Try.func57, Try.ntmps57
    go_wp2_with fail
    rw [HW.out]
    refine HC0.out.mono ?_
    rintro e w1 ⟨rfl, hb1⟩
    have hv := V3.out.keep (hb1)
    obtain ⟨q0, q1, q2, q3⟩ := hv.tells2
    obtain ⟨f0, f1, f2, f3⟩ := fin_plane (w := w) hv (OwnR.nil _ w.heap.size 0) (.inr (Nat.zero_le _)) (by omega) (Nat.zero_le _) (below_step HB.out (hb1)) (.int .i64 0) (.slice none 0 0)
    have F2 := Lib.hid f2
    have F3 := Lib.hid f3
    clear f2 f3 hv
    go_wp2
    exact bodyPost_ret (v := .tuple #[.agg #[.int .i64 0, .slice none 0 0], .int .i64 (C)]) (by simp [results, Try.results57, go_sem, f0, f1]) rfl ⟨_, rfl, F2.out, F3.out⟩
end Go.Proofs.Ytpmbojbdppbkgaa

/- Contracts of LawInCoordinate, of the model. -/
namespace Go.Proofs.Ytpmbojbdppbkgaa
open Go.RowKit Go.WideShapes Go.ChangeShapes Go.ChangeAt

/-- a callee that leaves the world as it is, met in a quiet region -/
theorem regrown_same {P : Program} {f : FuncId} {args : Array Value} {w : World} {d : Nat} {os : Array Obj} {v : Value}
    (h : Calls P f args (Go.Sort.grow (redrawn w d) os) fun e w' => e = .returned v ∧ Go.Sort.grow (redrawn w d) os = w') : Calls P f args (Go.Sort.grow (redrawn w d) os) fun e w'' => e = .returned v ∧ ∃ p : Regrown, w'' = Go.Sort.grow (redrawn w p.d) p.os :=
  h.mono fun _ _ ⟨he, hw⟩ => ⟨he, ⟨⟨d, os⟩, hw.symm⟩⟩
set_option maxHeartbeats 2000000 in
theorem l03Both2_any (m : Int) (d : Nat) (A : Option Addr) (c : Nat) (t : List (List Int)) (A1 : Option Addr) (c1 : Nat) (l1 : List Int) (w : World) (hs : Pl.Ok m d t) (s1 : SerOk m d l1) (z1 : Ser.co l1 0 = 0) (hr : RP w A t) (hr1 : RI w A1 l1) :
    Calls Try.prog 159 #[.int .i64 m, .slice A t.length c, .slice A1 l1.length c1] w fun e w' => ∃ v, e = .returned v ∧ OwnR w' w.heap.size w'.heap.size v (Pl.botT m d (Pl.pc t) l1 l1) ∧ Below w.heap.size w w' := by
  have HP := Lib.hid (l03Both_any m d A c t A1 c1 l1 A1 c1 l1 w hs s1 s1 z1 z1 hr hr1 hr1)
  obtain ⟨T, hT⟩ : ∃ T, Pl.botT m d (Pl.pc t) l1 l1 = T := ⟨_, rfl⟩
  rw [hT] at HP ⊢
  obtain ⟨L, hL⟩ : ∃ L, t.length = L := ⟨_, rfl⟩
  obtain ⟨n1, hn1⟩ : ∃ L, l1.length = L := ⟨_, rfl⟩
  rw [hL, hn1] at HP ⊢
  clear hs s1 z1 hr hr1 hT hL hn1
  go_enter Try.func159, Try.ntmps159
  go_wp2_with fail
  refine HP.out.mono ?_
  rintro e w1 ⟨v, rfl, ho, hb⟩
  obtain ⟨A3, c3, rfl, -⟩ := ho.len
  have HO := Lib.hid ho
  have HB := Lib.hid hb
  clear ho hb
  go_wp2
  go_ret
  exact ⟨_, rfl, HO.out, HB.out⟩
set_option maxHeartbeats 4000000 in
set_option maxRecDepth 100000 in
theorem l06Conjugate_any (m : Int) (d : Nat) (A : Option Addr) (c : Nat) (t : List (List Int)) (A1 : Option Addr) (c1 : Nat) (l : List Int) (w : World) (hs : Pl.Ok m d t) (s1 : SerOk m d l) (z1 : Ser.co l 0 = 0) (hr : RP w A t) (hr1 : RI w A1 l) :
    Calls Try.prog 122 #[.int .i64 m, .slice A t.length c, .slice A1 l.length c1] w fun e w' => ∃ v, e = .returned v ∧ OwnR w' w.heap.size w'.heap.size v (licT m d t l (revL m l)) ∧ Below w.heap.size w w' := by
  have hln := s1.len
  have hd2 := s1.d2
  have HRV := Lib.hid (by
    have := l02Reverse_any m d A1 c1 l w s1 hr1 z1
    rw [show Ser.revC m (egI m (Ser.co l 1)).2 (Ser.co l) (d - 1) = revL m l by unfold revL; rw [hln]; rfl] at this
    exact this)
  have HBO := Lib.hid (fun W0 (h : Below w.heap.size w W0) A2 c2 (h2 : RI W0 A2 (revL m l)) => l03Both2_any m d A c t A2 c2 (revL m l) W0 hs (revL_ok s1) (revL_zero _ _) (hr.below h) h2)
  have HAF := Lib.hid (fun W0 (h : Below w.heap.size w W0) A2 c2 (h2 : RP W0 A2 (Pl.botT m d (Pl.pc t) (revL m l) (revL m l))) => l03After_any m d A1 c1 l A2 c2 (Pl.botT m d (Pl.pc t) (revL m l) (revL m l)) W0 s1 (hs.tab _) (hr1.below h) h2)
  obtain ⟨R, hR⟩ : ∃ R, licT m d t l (revL m l) = R := ⟨_, rfl⟩
  rw [show Pl.hor m d l (Pl.pc (Pl.botT m d (Pl.pc t) (revL m l) (revL m l))) (d + 1) = R from hR] at HAF
  rw [hR]
  obtain ⟨T, hT⟩ : ∃ T, Pl.botT m d (Pl.pc t) (revL m l) (revL m l) = T := ⟨_, rfl⟩
  rw [hT] at HBO HAF
  obtain ⟨V, hV⟩ : ∃ V, revL m l = V := ⟨_, rfl⟩
  rw [hV] at HRV HBO
  obtain ⟨L, hL⟩ : ∃ L, t.length = L := ⟨_, rfl⟩
  obtain ⟨n1, hn1⟩ : ∃ L, l.length = L := ⟨_, rfl⟩
  rw [hL] at HBO ⊢
  rw [hn1] at HRV HAF hln ⊢
  obtain ⟨D, hD⟩ : ∃ D : Int, D = (d : Int) := ⟨_, rfl⟩
  rw [← hD] at HRV
  have hnb : n1 ≤ 11 := by omega
  have e1 : (n1 : Int) - 1 = D := by omega
  have w1 : IntKind.i64.wrap ((n1 : Int) - 1) = D := by rw [IntKind.wrap_i64]; omega
  clear hs s1 z1 hr hr1 hR hT hV hL hn1 hD hln
  go_enter Try.func122, Try.ntmps122
  go_wp2_with fail
  refine HRV.out.mono ?_
  rintro e w2 ⟨s2, rfl, ho2, hb2⟩
  obtain ⟨A2, c2, rfl, -⟩ := ho2.form
  go_wp2_with fail
  refine (HBO.out _ hb2 _ _ ho2.ri).mono ?_
  rintro e w3 ⟨s3, rfl, ho3, hb3⟩
  obtain ⟨A3, c3, rfl, -⟩ := ho3.len
  have hb13 := below_step hb2 hb3
  go_wp2_with fail
  refine (HAF.out _ hb13 _ _ ho3.rp).mono ?_
  rintro e w4 ⟨s4, rfl, ho4, hb4⟩
  obtain ⟨A4, c4, rfl, -⟩ := ho4.len
  have hz := hb13.size
  have HO := Lib.hid (ho4.low (lo' := w.heap.size) hz)
  have HB := Lib.hid (below_step hb13 hb4)
  clear ho2 ho3 ho4 hb2 hb3 hb4 hb13 hz
  go_wp2
  go_ret
  exact ⟨_, rfl, HO.out, HB.out⟩
set_option maxHeartbeats 16000000 in
set_option maxRecDepth 100000 in
theorem sLawInCoordinate_any (m : Int) (A : Option Addr) (c : Nat) (t : List (List Int)) (m1 : Int) (A1 : Option Addr) (c1 : Nat) (l : List Int) (w : World) (hz : szT t ≤ 1048576) (hl : l.length ≤ 1048576) (hr : RP w A t) (hr1 : RI w A1 l) :
    Calls Try.prog 56 #[.agg #[.int .i64 m, .slice A t.length c], .agg #[.int .i64 m1, .slice A1 l.length c1]] w fun e w' => ∃ s, e = .returned (.tuple #[.agg #[.int .i64 (licM m t m1 l).1, s], .int .i64 (licM m t m1 l).2.2]) ∧ OwnR w' w.heap.size w'.heap.size s (licM m t m1 l).2.1 ∧ Below w.heap.size w w' := by
  obtain ⟨W, hW, b1, b2, v3, b4, hwb⟩ := pro_psQ 31 w m A t.length c m1 A1 l.length c1
  have hc : Calls Try.prog 72 #[.agg #[.int .i64 m, .slice A t.length c], .slice (some ⟨w.heap.size + 1 + 1 + 1, 0, none⟩) 1 1] W fun e w' => e = .returned (.int .i64 (codeS1 m t m1 l)) ∧ Below W.heap.size W w' :=
    l04Code_any (w.heap.size + 1 + 1 + 1) m A c t [(m1, A1, c1, l)] W hz (hr.below hwb) (SL.one b4 (hr1.below hwb) hl) (by simp)
  have B1 := Lib.hid b1
  have B2 := Lib.hid b2
  have V3 := Lib.hid v3
  have HB := Lib.hid hwb
  have HW := Lib.hid hW
  have hsz : w.heap.size + 1 + 1 < W.heap.size := v3.lt
  by_cases h0 : codeS1 m t m1 l = 0
  · obtain ⟨hL0, rfl, d, e1, f1, ok, hf, s1, z1⟩ := codeS1_ok h0
    rw [h0] at hc
    have HC0 := Lib.hid hc
    have hd2 := ok.d2
    have hd1 := ok.d1
    have m2 := ok.m2
    obtain ⟨b, off, rfl, hbb, hcl⟩ := (hr1.below hwb).at 1 (by omega)
    obtain ⟨r1, r2⟩ := s1.red 1
    have z0 : (1 : Int) < (l.length : Int) := by omega
    have z2 : 1 < l.length := by omega
    have HU := Lib.hid (fun W0 => l01Unit_any m1 (Ser.co l 1) W0 r1 r2 m2)
    obtain ⟨G, hG⟩ : ∃ G, gcdI (Ser.co l 1) m1 = G := ⟨_, rfl⟩
    rw [hG] at HU
    obtain ⟨X, hX⟩ : ∃ X, Ser.co l 1 = X := ⟨_, rfl⟩
    rw [hX] at HU hcl
    have HI := Lib.hid (fun W0 (h : Below W.heap.size W W0) => l06Conjugate_any m1 d A c t (some ⟨b, off, none⟩) c1 l W0 ok s1 z1 ((hr.below hwb).below h) ((hr1.below hwb).below h))
    obtain ⟨R, hR⟩ : ∃ R, licT m1 d t l (revL m1 l) = R := ⟨_, rfl⟩
    rw [hR] at HI
    have HLM : Hid (licM m1 t m1 l = if G = 1 then (m1, R, 0) else (0, [], 5)) := Lib.hid (by unfold licM; rw [if_pos h0, hX, ← hX, hG, e1]; show (if G = 1 then (m1, licT m1 d t l (revL m1 l), 0) else _) = _; rw [hR])
    obtain ⟨L, hL⟩ : ∃ L, t.length = L := ⟨_, rfl⟩
    obtain ⟨n1, hn1⟩ : ∃ L, l.length = L := ⟨_, rfl⟩
    rw [hL] at HC0 HI HW b1 ⊢
    rw [hn1] at HI HW b2 z0 z2 ⊢
    obtain ⟨x1, x2, -⟩ := b1
    obtain ⟨y1, y2, -⟩ := b2
    have HF := Lib.hid (fun w' (h : Below W.heap.size W w') => (⟨⟨⟨(h.cell (p := ⟨w.heap.size, 0, none⟩) (by simp; omega)).trans x1, (h.cell (p := ⟨w.heap.size, 1, none⟩) (by simp; omega)).trans x2⟩, (h.cell (p := ⟨w.heap.size + 1, 0, none⟩) (by simp; omega)).trans y1, (h.cell (p := ⟨w.heap.size + 1, 1, none⟩) (by simp; omega)).trans y2⟩, (h.cell (p := ⟨b, off + 1, none⟩) hbb).trans hcl⟩ :
      ((w'.cell? ⟨w.heap.size, 0, none⟩ = some (.int .i64 m1) ∧ w'.cell? ⟨w.heap.size, 1, none⟩ = some (.slice A L c)) ∧ w'.cell? ⟨w.heap.size + 1, 0, none⟩ = some (.int .i64 m1) ∧ w'.cell? ⟨w.heap.size + 1, 1, none⟩ = some (.slice (some ⟨b, off, none⟩) n1 c1)) ∧ w'.cell? ⟨b, off + 1, none⟩ = some (.int .i64 X)))
    by_cases hg : G = 1
    · have HA : Hid (licM m1 t m1 l = (m1, R, 0)) := Lib.hid (by rw [HLM.out, if_pos hg])
      rw [HA.out]
      rw [show (G == 1) = true by simpa using hg] at HU
      clear v3 b4 hwb hW hr hr1 hc h0 ok hf s1 z1 e1 f1 hz hl hR hL hn1 HA hg hL0 x1 x2 y1 y2 B1 B2 HLM hG hX hcl r1 r2 m2 hd2 hd1
      go_enter Try.func56, Try.ntmps56
      go_wp2_with fail
      rw [HW.out]
      refine HC0.out.mono ?_
      rintro e w1 ⟨rfl, hb1⟩
      obtain ⟨⟨⟨x1, x2⟩, y1, y2⟩, y3⟩ := HF.out _ hb1
      have K1 := cell_regrown x1
      have K2 := cell_regrown y2
      have K3 := cell_regrown y3
      have CQ := Lib.hid (fun (d : Nat) (os : Array Obj) => regrown_same (HU.out (Go.Sort.grow (redrawn w1 d) os)))
      clear x1 x2 y1 y2 y3
      go_wp2
      refine wp_region_quiet_below (by kernel_rfl) (by kernel_rfl) ?_
      repeat (go_big_quiet_step (exact CQ.out _ _))
      refine wpQuiet_nil ?_
      intro _ hw'
      obtain ⟨⟨dq, osq⟩, hw''⟩ := hw'
      subst hw''
      obtain ⟨w2, hw2⟩ : ∃ w2, Go.Sort.grow (redrawn w1 dq) osq = w2 := ⟨_, rfl⟩
      have hb2 : Below W.heap.size W w2 := by rw [← hw2]; exact below_step hb1 (below_regrown w1 dq osq)
      rw [hw2]
      clear K1 K2 K3 CQ hw2 hb1
      obtain ⟨⟨⟨x1, x2⟩, y1, y2⟩, y3⟩ := HF.out _ (below_step hb2 (below_drew0 _))
      have X0 := Lib.hid (show (w2.drew.cell? ⟨w.heap.size, 0, none⟩ = some (.int .i64 m1) ∧ w2.drew.cell? ⟨w.heap.size, 1, none⟩ = some (.slice A L c) ∧ w.heap.size < w2.drew.heap.size) ∧ (w2.drew.cell? ⟨w.heap.size + 1, 0, none⟩ = some (.int .i64 m1) ∧ w2.drew.cell? ⟨w.heap.size + 1, 1, none⟩ = some (.slice (some ⟨b, off, none⟩) n1 c1) ∧ w.heap.size + 1 < w2.drew.heap.size) from ⟨⟨x1, x2, by have := hb2.size; show w.heap.size < w2.heap.size; omega⟩, ⟨y1, y2, by have := hb2.size; show w.heap.size + 1 < w2.heap.size; omega⟩⟩)
      clear x1 x2 y1 y2 y3
      go_wp2
      go_region_held3 (fun w' => (w'.cell? ⟨w.heap.size, 0, none⟩ = some (.int .i64 m1) ∧ w'.cell? ⟨w.heap.size, 1, none⟩ = some (.slice A L c) ∧ w.heap.size < w'.heap.size) ∧ (w'.cell? ⟨w.heap.size + 1, 0, none⟩ = some (.int .i64 m1) ∧ w'.cell? ⟨w.heap.size + 1, 1, none⟩ = some (.slice (some ⟨b, off, none⟩) n1 c1) ∧ w.heap.size + 1 < w'.heap.size)) (first | exact X0.out | exact box22_store (by omega) (by omega) (by assumption) | exact box22_call hb6 (by assumption) | exact box22_call hb5 (by assumption)) (first
        | (go_at_call 122; with_reducible refine Calls.mono (HI.out _ (below_step hb2 (below_drew0 _))) ?_; rintro e w5 ⟨s5, rfl, ho5, hb5⟩; obtain ⟨A5, c5, rfl, -⟩ := ho5.len)
        | (go_at_call 104; refine (l03Make_any _ _ _ _ _).mono ?_; rintro e w6 ⟨rfl, hb6⟩; have hv := V3.out.keep (below_step hb2 (below_step (below_step (below_drew0 _) hb5) hb6)); obtain ⟨q0, q1, q2, q3⟩ := hv.tells2))
      all_goals
        have hw6 := below_step hb2 (below_step (below_step (below_drew0 _) hb5) hb6)
        have hz1 := (below_step hb2 (below_drew0 _)).size
        obtain ⟨f0, f1, f2, f3⟩ := fin_plane (w := w) hv (ho5.keep hb6) (.inl (by omega)) (by omega) hb6.size (below_step HB.out hw6) (.int .i64 m1) (.slice A5 R.length c5)
        have F2 := Lib.hid (f2.low (lo' := w.heap.size) (by omega))
        have F3 := Lib.hid f3
        clear f2 f3 ho5 hb5 hb6 hv hw6 hb2
        go_wp2
        exact bodyPost_ret (v := .tuple #[.agg #[.int .i64 m1, .slice A5 R.length c5], .int .i64 0]) (by simp [results, Try.results56, go_sem, f0, f1]) rfl ⟨_, rfl, F2.out, F3.out⟩
    · have HA : Hid (licM m1 t m1 l = (0, [], 5)) := Lib.hid (by rw [HLM.out, if_neg hg])
      rw [HA.out]
      rw [show (G == 1) = false by simpa using hg] at HU
      clear v3 b4 hwb hW hr hr1 hc h0 ok hf s1 z1 e1 f1 hz hl hR hL hn1 HA hg hL0 x1 x2 y1 y2 B1 B2 HLM hG hX hcl r1 r2 m2 hd2 hd1
      go_enter Try.func56, Try.ntmps56
      go_wp2_with fail
      rw [HW.out]
      refine HC0.out.mono ?_
      rintro e w1 ⟨rfl, hb1⟩
      obtain ⟨⟨⟨x1, x2⟩, y1, y2⟩, y3⟩ := HF.out _ hb1
      have K1 := cell_regrown x1
      have K2 := cell_regrown y2
      have K3 := cell_regrown y3
      have CQ := Lib.hid (fun (d : Nat) (os : Array Obj) => regrown_same (HU.out (Go.Sort.grow (redrawn w1 d) os)))
      clear x1 x2 y1 y2 y3
      go_wp2
      refine wp_region_quiet_below (by kernel_rfl) (by kernel_rfl) ?_
      repeat (go_big_quiet_step (exact CQ.out _ _))
      refine wpQuiet_nil ?_
      intro _ hw'
      obtain ⟨⟨dq, osq⟩, hw''⟩ := hw'
      subst hw''
      obtain ⟨w2, hw2⟩ : ∃ w2, Go.Sort.grow (redrawn w1 dq) osq = w2 := ⟨_, rfl⟩
      have hb2 : Below W.heap.size W w2 := by rw [← hw2]; exact below_step hb1 (below_regrown w1 dq osq)
      rw [hw2]
      clear K1 K2 K3 CQ hw2 hb1
      have hv := V3.out.keep (hb2)
      obtain ⟨q0, q1, q2, q3⟩ := hv.tells2
      obtain ⟨f0, f1, f2, f3⟩ := fin_plane (w := w) hv (OwnR.nil _ w.heap.size 0) (.inr (Nat.zero_le _)) (by omega) (Nat.zero_le _) (below_step HB.out (hb2)) (.int .i64 0) (.slice none 0 0)
      have F2 := Lib.hid f2
      have F3 := Lib.hid f3
      clear f2 f3 hv
      go_wp2
      exact bodyPost_ret (v := .tuple #[.agg #[.int .i64 0, .slice none 0 0], .int .i64 (5)]) (by simp [results, Try.results56, go_sem, f0, f1]) rfl ⟨_, rfl, F2.out, F3.out⟩
  · have HA : Hid (licM m t m1 l = (0, [], codeS1 m t m1 l)) := Lib.hid (by unfold licM; rw [if_neg h0])
    rw [HA.out]
    obtain ⟨n1, n2⟩ := ne_facts h0
    obtain ⟨C, hC⟩ : ∃ C, codeS1 m t m1 l = C := ⟨_, rfl⟩
    rw [hC] at n1 n2 h0 hc ⊢
    have HC0 := Lib.hid hc
    clear b1 b2 v3 b4 hwb hW hr hr1 hz hl hc hC HA
    go_enter Try.func56, Try.ntmps56
    go_wp2_with fail
    rw [HW.out]
    refine HC0.out.mono ?_
    rintro e w1 ⟨rfl, hb1⟩
    go_wp2
    refine wp_region_quiet_below (by kernel_rfl) (by kernel_rfl) ?_
    repeat (go_big_quiet_step (fail))
    refine wpQuiet_nil ?_
    intro _ hw'
    obtain ⟨⟨dq, osq⟩, hw''⟩ := hw'
    subst hw''
    obtain ⟨w2, hw2⟩ : ∃ w2, Go.Sort.grow (redrawn w1 dq) osq = w2 := ⟨_, rfl⟩
    have hb2 : Below W.heap.size W w2 := by rw [← hw2]; exact below_step hb1 (below_regrown w1 dq osq)
    rw [hw2]
    clear hw2 hb1
    have hv := V3.out.keep (hb2)
    obtain ⟨q0, q1, q2, q3⟩ := hv.tells2
    obtain ⟨f0, f1, f2, f3⟩ := fin_plane (w := w) hv (OwnR.nil _ w.heap.size 0) (.inr (Nat.zero_le _)) (by omega) (Nat.zero_le _) (below_step HB.out (hb2)) (.int .i64 0) (.slice none 0 0)
    have F2 := Lib.hid f2
    have F3 := Lib.hid f3
    clear f2 f3 hv
    go_wp2
    exact bodyPost_ret (v := .tuple #[.agg #[.int .i64 0, .slice none 0 0], .int .i64 (C)]) (by simp [results, Try.results56, go_sem, f0, f1]) rfl ⟨_, rfl, F2.out, F3.out⟩
end Go.Proofs.Ytpmbojbdppbkgaa

/- A region that draws its order, and whose last operation stores into what the others load: a condition on the world that holds till then. -/
namespace Go.Proofs.Ytpmbojbdppbkgaa
open Go

section
variable {P : Program} {ops : Array Oper} {Q : Exit → Act → World → Prop} {md : Region.Mode} {S : World → Prop} {n : Nat}

/-- in whatever order; S holds behind every operation but number n -/
def wpTill (P : Program) (md : Region.Mode) (ops : Array Oper) (Q : Exit → Act → World → Prop) (S : World → Prop) (n : Nat) : Nat → Array Bool → Act → World → Prop
  | 0, listed, a, w => Region.ready md ops listed = [] ∧ Q .normal a w
  | fuel + 1, listed, a, w => (Region.ready md ops listed = [] → Q .normal a w) ∧
    ∀ i ∈ Region.ready md ops listed, wpOp P ops Q i (fun a' w' => (i ≠ n → S w') ∧ wpTill P md ops Q S n fuel (listed.setIfInBounds i true) a' w') a w
theorem any_of_till : ∀ (fuel : Nat) (listed : Array Bool) (a : Act) (w : World), wpTill P md ops Q S n fuel listed a w → wpAny P md ops Q fuel listed a w
  | 0, _, _, _, h => h
  | fuel + 1, _, _, _, h => ⟨h.1, fun i hi => wpOp_mono (fun a' w' k => any_of_till fuel _ a' w' k.2) (h.2 i hi)⟩
/-- what is listed cannot be waited for by what may come up -/
theorem no_wait {i : Nat} {listed : Array Bool} {oj : Oper} (hr : i ∈ Region.ready md ops listed) (hall : ∀ e ∈ oj.after, Region.binds md e = true → listed.getD e.on false = true) :
    ∀ e ∈ oj.after, Region.binds md e = true → e.on ≠ i := by
  intro e he hb heq
  have h1 := hall e he hb
  have h0 := (mem_ready.1 hr).1
  rw [heq] at h1
  by_cases h : i < listed.size
  · simp [h] at h0 h1
    rw [h0] at h1
    exact absurd h1 (by decide)
  · simp [Array.getElem?_eq_none (Nat.le_of_not_lt h)] at h1
/-- an operation that yields v in every world of S may be taken first, if number n waits for it -/
theorem till_first {i : Nat} {oi : Oper} {v : Value} (hi : ops[i]? = some oi) (hsel : ∀ (j : Nat) (o : Oper) cs b, ops[j]? = some o → o.op ≠ .select cs b)
    (hQ : ∀ c a w, Q (.panic c) (a.put oi.dst v) w → Q (.panic c) a w) (hn : ∀ on, ops[n]? = some on → ∃ e ∈ on.after, Region.binds md e = true ∧ e.on = i) :
    ∀ (fuel : Nat) (listed : Array Bool) (a : Act) (w : World),
      (∀ j oj, ops[j]? = some oj → j ≠ i → listed.getD j true = false → (∀ e ∈ oj.after, Region.binds md e = true → e.on ≠ i) → oi.apart ops oj = true) →
      i ∈ Region.ready md ops listed → YieldsIf P ops S oi v a → S w →
      wpTill P md ops Q S n fuel (listed.setIfInBounds i true) (a.put oi.dst v) w → wpTill P md ops Q S n (fuel + 1) listed a w := by
  intro fuel
  induction fuel with
  | zero =>
    intro listed a w _ hr hy hS H
    refine ⟨fun e => (by rw [e] at hr; cases hr), fun j hj => ?_⟩
    by_cases hji : j = i
    · subst hji
      exact hy.wpOp hi hS ⟨fun _ => hS, H⟩
    · have hk := ready_mono hj hji
      rw [H.1] at hk
      cases hk
  | succ fuel ih =>
    intro listed a w hfree hr hy hS H
    refine ⟨fun e => (by rw [e] at hr; cases hr), fun j hj => ?_⟩
    by_cases hji : j = i
    · subst hji
      exact hy.wpOp hi hS ⟨fun _ => hS, H⟩
    · obtain ⟨hun, oj, hoj, hall⟩ := mem_ready.1 hj
      have hnot := no_wait hr hall
      have hjn : j ≠ n := by
        rintro rfl
        obtain ⟨e, he, hb, heq⟩ := hn oj hoj
        exact hnot e he hb heq
      have k2 := wpOp_putIf hoj (hfree j oj hoj hji hun hnot) (fun cs b => hsel i oi cs b hi) (fun cs b => hsel j oj cs b hoj) hQ hy (H.2 j (ready_mono hj hji))
      have hfree' : ∀ k ok, ops[k]? = some ok → k ≠ i → (listed.setIfInBounds j true).getD k true = false →
          (∀ e ∈ ok.after, Region.binds md e = true → e.on ≠ i) → oi.apart ops ok = true := by
        intro k ok hk hki hu hno
        refine hfree k ok hk hki ?_ hno
        by_cases hjk : j = k
        · subst hjk; exact hun
        · rw [getD_set_ne true hjk] at hu; exact hu
      refine wpOp_mono (fun a' w' k3 => ⟨fun _ => k3.2.1 hjn, ih (listed.setIfInBounds j true) a' w' hfree' (ready_mono hr (Ne.symm hji)) k3.1 (k3.2.1 hjn) ?_⟩) k2
      rw [Array.setIfInBounds_comm _ _ hji]
      exact k3.2.2
/-- number n waits for number i -/
def waitB (md : Region.Mode) (ops : Array Oper) (n i : Nat) : Bool := ((ops[n]?).map fun o => o.after.any fun e => Region.binds md e && e.on == i).getD true
theorem till_take {i : Nat} {oi : Oper} {dst : Option Tmp} (v : Value) {fuel : Nat} {listed : Array Bool} {a : Act} {w : World} (hi : ops[i]? = some oi) (hd : oi.dst = dst) (hs : Region.noSelect ops = true) (hf : Region.free md ops listed i = true)
    (hr : (Region.ready md ops listed).contains i = true) (hw : waitB md ops n i = true) (hQ : ∀ c a w, Q (.panic c) (a.put dst v) w → Q (.panic c) a w) (hy : YieldsIf P ops S oi v a) (hS : S w)
    (h : wpTill P md ops Q S n fuel (listed.setIfInBounds i true) (a.put dst v) w) : wpTill P md ops Q S n (fuel + 1) listed a w := by
  subst hd
  refine till_first hi (Region.noSelect_spec hs) hQ (fun on ho => ?_) fuel listed a w (Region.free_spec hi hf) (by simpa using hr) hy hS h
  unfold waitB at hw
  rw [ho] at hw
  obtain ⟨e, he, k⟩ := Array.any_eq_true'.1 (show (on.after.any fun e => Region.binds md e && e.on == i) = true from hw)
  rw [Bool.and_eq_true] at k
  exact ⟨e, he, k.1, by simpa using k.2⟩
/-- one operation alone may come up -/
theorem till_one {i : Nat} {o : Oper} {fuel : Nat} {listed : Array Bool} {a : Act} {w : World} (hr : Region.ready md ops listed = [i]) (ho : ops[i]? = some o)
    (h : ∀ K : Act → World → Prop, Shut (∀ a w, (i ≠ n → S w) → wpTill P md ops Q S n fuel (listed.setIfInBounds i true) a w → K a w) → if Region.wanted o (yielded ops a.tmps) = true then Oper.wp P o a w K Q else K (a.put o.dst undef) w) :
    wpTill P md ops Q S n (fuel + 1) listed a w := by
  refine ⟨fun e => (by rw [e] at hr; cases hr), fun j hj => ?_⟩
  rw [hr] at hj
  obtain rfl : j = i := by simpa using hj
  exact wpOp_step ho (fun K hK => h K (fun a w hS hW => hK a w ⟨hS, hW⟩))
theorem till_done {fuel : Nat} {listed : Array Bool} {a : Act} {w : World} (hr : Region.ready md ops listed = []) (h : Q .normal a w) : wpTill P md ops Q S n fuel listed a w := by
  cases fuel with
  | zero => exact ⟨hr, h⟩
  | succ f => exact ⟨fun _ => h, by rw [hr]; simp⟩
theorem region_till {id : Nat} {a : Act} {w : World} (S : World → Prop) (n : Nat) (hm : P.follows .mixedOrders = true) (h : wpTill P .any ops Q S n ops.size (Array.replicate ops.size false) a w.drew) : (Code.region id ops true).wp P Q a w :=
  wp_region_any hm (any_of_till _ _ _ _ h)
end
end Go.Proofs.Ytpmbojbdppbkgaa

