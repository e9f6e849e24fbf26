/- Texts of contracts, joined. -/
import Derived.Test.YtfhdgcndiljjcabGreatMgae
import Derived.Test.YtfhdgcndiljjcabGreatMgab
import Derived.Deep.QuietTactic
import Derived.BigQuiet
import Derived.Test.YtfhdgcndiljjcabGreatMgac
import Derived.Maps.AppendAt
import Derived.Test.YtfhdgcndiljjcabGreatMgad
import Derived.WalkSpells
import Derived.Test.YtfhdgcndiljjcabGreatMgaa
import Derived.ProofKit
import Derived.OpenShut
import Derived.ChangeSame
import Derived.Deep.DeepCutAuto
import Derived.Test.YtfhdgcndiljjcabGreatProg
/- Contracts of the program's look for faults of one variable and of symmetry. -/
namespace Go.Proofs.YtfhdgcndiljjcabGreat
open Go.RowKit Go.WideShapes Go.ChangeShapes Go.ChangeAt
theorem OwnI.lit2 (w : World) (x y : Int) : OwnI (w.alloc (.cells #[.int .i64 x, .int .i64 y] 2)) w.heap.size (.slice (some ⟨w.heap.size, 0, none⟩) 2 2) [x, y] :=
  ⟨rfl, .inr ⟨w.heap.size, 2, #[.int .i64 x, .int .i64 y], rfl, Nat.le_refl _, heap_alloc_new w _, Nat.le_refl _, by unfold maxLen; omega, rfl, rfl⟩⟩
theorem OwnI.lit3 (w : World) (x y z : Int) : OwnI (w.alloc (.cells #[.int .i64 x, .int .i64 y, .int .i64 z] 2)) w.heap.size (.slice (some ⟨w.heap.size, 0, none⟩) 3 3) [x, y, z] :=
  ⟨rfl, .inr ⟨w.heap.size, 3, #[.int .i64 x, .int .i64 y, .int .i64 z], rfl, Nat.le_refl _, heap_alloc_new w _, Nat.le_refl _, by unfold maxLen; omega, rfl, rfl⟩⟩
theorem OwnI.lit4 (w : World) (x y z u : Int) : OwnI (w.alloc (.cells #[.int .i64 x, .int .i64 y, .int .i64 z, .int .i64 u] 2)) w.heap.size (.slice (some ⟨w.heap.size, 0, none⟩) 4 4) [x, y, z, u] :=
  ⟨rfl, .inr ⟨w.heap.size, 4, #[.int .i64 x, .int .i64 y, .int .i64 z, .int .i64 u], rfl, Nat.le_refl _, heap_alloc_new w _, Nat.le_refl _, by unfold maxLen; omega, rfl, rfl⟩⟩
/-- a fault's list, or no list -/
def FauV (w : World) (base : Nat) (v : Value) : Option (List Int) → Prop
  | none => v = .slice none 0 0
  | some x => ∃ b c, v = .slice (some b) x.length c ∧ OwnI w base (.slice (some b) x.length c) x
namespace Pl
theorem fau0_go {F : Nat → Nat → Int} {d k : Nat} {o : Option (List Int)} (hk : k < d + 1) (h : srch (fau0 F) (d + 1 - k) k = o) (hx : F k 0 = want k) : srch (fau0 F) (d + 1 - (k + 1)) (k + 1) = o := by
  rw [show d + 1 - k = (d + 1 - (k + 1)) + 1 by omega, srch_step] at h
  unfold fau0 at h
  rw [if_pos hx, orE_none] at h
  exact h
theorem fau0_no {F : Nat → Nat → Int} {d k : Nat} {o : Option (List Int)} (hk : k < d + 1) (h : srch (fau0 F) (d + 1 - k) k = o) (hx : ¬ F k 0 = want k) : o = some [0, (k : Int)] := by
  rw [show d + 1 - k = (d + 1 - (k + 1)) + 1 by omega, srch_step] at h
  unfold fau0 at h
  rw [if_neg hx, orE_some] at h
  exact h.symm
end Pl
set_option maxHeartbeats 4000000 in
set_option maxRecDepth 100000 in
theorem wrongPower_any (m : Int) (d : Nat) (A : Option Addr) (c : Nat) (t : List (List Int)) (w : World) (hs : Pl.Ok m d t) (hr : RP w A t) :
    Calls Tryz.prog 149 #[.agg #[.int .i64 m, .int .i64 d, .slice A t.length c]] w fun e w' => ∃ v, e = .returned v ∧ FauV w' w.heap.size v (Pl.fauP d (Pl.pc t)) ∧ Below w.heap.size w w' := by
  have HG1 := Lib.hid (GBox.new 55 w m d A t.length c)
  have HWB := Lib.hid (below_one w (.cells #[.int .i64 m, .int .i64 d, .slice A t.length c] 55))
  obtain ⟨W, hW⟩ : ∃ W, w.alloc (.cells #[.int .i64 m, .int .i64 d, .slice A t.length c] 55) = W := ⟨_, rfl⟩
  rw [hW] at HG1 HWB
  have HW := Lib.hid hW
  have HB := HWB
  obtain ⟨b, off, rfl, hbb, hrow⟩ := hr (by intro e; have := hs.len; rw [e] at this; simp at this)
  have HROW := Lib.hid hrow
  have HS := Lib.hid hs
  have hd2 := hs.d2
  have hl := hs.len
  obtain ⟨o, ho⟩ : ∃ o, Pl.fauP d (Pl.pc t) = o := ⟨_, rfl⟩
  have HO := Lib.hid (show Pl.srch (Pl.fau0 (Pl.pc t)) (d + 1 - 0) 0 = o from ho)
  rw [ho]
  obtain ⟨L, hL⟩ : ∃ L, t.length = L := ⟨_, rfl⟩
  rw [hL] at HW HG1 hl HROW ⊢
  have HLd := Lib.hid hl
  have hLb : L ≤ 11 := by omega
  obtain ⟨x1, x2, x3, x4⟩ := HG1.out
  clear hW hr hs hL hrow hl ho HG1
  go_enter Tryz.func149, Tryz.ntmps149
  go_wp2
  rw [HW.out]
  go_wp2
  clear x1 x2 x3 x4
  go_loopw [3, 4, 5, 9] (fun _ _ _ q wr => ∃ k : Nat, k ≤ L ∧ q = .int .i64 k ∧ Pl.srch (Pl.fau0 (Pl.pc t)) (d + 1 - k) k = o ∧ Below W.heap.size W wr) (fun _ _ _ q _ => L - (intOf q).toNat)
  case atStart => exact ⟨0, Nat.zero_le _, rfl, HO.out, Below.refl _ _⟩
  case round =>
    clear HO
    obtain ⟨k, hk, rfl, hso, hbel⟩ := hrel
    have HBE := Lib.hid hbel
    have hLd := HLd.out
    by_cases hlt : k < L
    · obtain ⟨Ak, ck, h1, h2, h3⟩ := HROW.out k hlt
      have h1 := ((below_step HB.out HBE.out).cell (p := ⟨b, off + k, none⟩) hbb).trans h1
      have hrl := HS.out.row k (by omega)
      obtain ⟨b', off', rfl, hb', hc'⟩ := h3.at 0 (by rw [hrl]; omega)
      have hc' := ((below_step HB.out HBE.out).cell (p := ⟨b', off' + 0, none⟩) hb').trans hc'
      rw [Nat.add_zero] at hc'
      have hgo := fun h => Pl.fau0_go (F := Pl.pc t) (d := d) (k := k) (by omega) hso h
      have hno := fun h => Pl.fau0_no (F := Pl.pc t) (d := d) (k := k) (by omega) hso h
      rw [show Ser.co (Pl.rw' t k) 0 = Pl.pc t k 0 from rfl] at hc'
      obtain ⟨X, hX⟩ : ∃ X, Pl.pc t k 0 = X := ⟨_, rfl⟩
      rw [hX] at hc' hgo hno
      obtain ⟨N, hN⟩ : ∃ N, (Pl.rw' t k).length = N := ⟨_, rfl⟩
      rw [hN] at h1 h2 hrl
      have j0 : (0 : Int) ≤ (k : Int) := by omega
      have j1 : (k : Int) < (L : Int) := by omega
      have j2 : (0 : Int) < (N : Int) := by omega
      have j3 : (0 : Nat) < N := by omega
      clear hbel hso hX hN hrl h2 h3 hb' hLd
      by_cases hk1 : k = 1
      · have e1 : ((k : Int) == 1) = true := by simp [hk1]
        rw [show Pl.want k = 1 by rw [hk1]; rfl] at hgo hno
        clear hk1
        by_cases hx1 : X = 1
        · have HNX := Lib.hid (hgo hx1)
          clear hgo hno
          subst hx1
          go_wp2
          go_roundw
          case rel => exact ⟨k + 1, by omega, by go_num, HNX.out, HBE.out⟩
          case measure => simp only [intOf]; omega
        · have HNX := Lib.hid (hno hx1)
          obtain ⟨n3, n4⟩ : (X == 1) = false ∧ (X != 1) = true := ⟨by simpa using hx1, by simpa using hx1⟩
          clear hgo hno
          go_wp2
          go_ret
          exact ⟨_, rfl, by rw [HNX.out]; exact ⟨_, _, rfl, (OwnI.lit2 wr 0 (k : Int)).more (below_step HB.out HBE.out).size⟩, below_step HB.out (below_alloc _ HBE.out)⟩
      · have hk9 : ¬ (k : Int) = 1 := by omega
        obtain ⟨e1, e2⟩ : ((k : Int) == 1) = false ∧ ((k : Int) != 1) = true := ⟨by simpa using hk9, by simpa using hk9⟩
        rw [show Pl.want k = 0 by unfold Pl.want; rw [if_neg hk1]] at hgo hno
        by_cases hx1 : X = 0
        · have HNX := Lib.hid (hgo hx1)
          clear hgo hno
          subst hx1
          go_wp2
          go_roundw
          case rel => exact ⟨k + 1, by omega, by go_num, HNX.out, HBE.out⟩
          case measure => simp only [intOf]; omega
        · have HNX := Lib.hid (hno hx1)
          obtain ⟨n3, n4⟩ : (X == 0) = false ∧ (X != 0) = true := ⟨by simpa using hx1, by simpa using hx1⟩
          clear hgo hno
          go_wp2
          go_ret
          exact ⟨_, rfl, by rw [HNX.out]; exact ⟨_, _, rfl, (OwnI.lit2 wr 0 (k : Int)).more (below_step HB.out HBE.out).size⟩, below_step HB.out (below_alloc _ HBE.out)⟩
    · obtain rfl : k = L := by omega
      rw [hLd, Nat.sub_self] at hso
      have HNO := Lib.hid (show o = none from hso.symm)
      clear hbel hso hLd
      go_wp2
      go_ret
      exact ⟨_, rfl, by rw [HNO.out]; exact rfl, below_step HB.out HBE.out⟩
end Go.Proofs.YtfhdgcndiljjcabGreat

/- Contracts of comparing: two lists of integers, two grids. -/
namespace Go.Proofs.YtfhdgcndiljjcabGreat
open Go.RowKit Go.WideShapes Go.ChangeShapes Go.ChangeAt
theorem list_same {l l' : List Int} (hl : l.length = l'.length) (h : ∀ j, j < l.length → Ser.co l j = Ser.co l' j) : decide (l = l') = true :=
  decide_eq_true (Ser.list_ext hl (fun i hi => h i hi))
theorem GBox.num' {W : World} {g : Nat} {m : Int} {d b off c L : Nat} {t : List (List Int)} (hb : GBox W g m d (some ⟨b, off, none⟩) L c) (hL : t.length = L) (hs : Pl.Ok m d t) (hr : RP W (some ⟨b, off, none⟩) t) (i j : Nat) (hij : i + j ≤ d) :
    ∃ b' off' c' N, N = d - i + 1 ∧ W.cell? ⟨g, 2, none⟩ = some (.slice (some ⟨b, off, none⟩) L c) ∧ W.cell? ⟨b, off + i, none⟩ = some (.slice (some ⟨b', off', none⟩) N c') ∧ W.cell? ⟨b', off' + j, none⟩ = some (.int .i64 (Pl.pc t i j)) := by
  subst hL
  obtain ⟨_, _, x2, _⟩ := hb
  obtain ⟨b0, off0, b', off', c', e, -, k1, -, k2⟩ := hr.num i j (by rw [hs.len]; omega) (by rw [hs.row i (by omega)]; omega)
  injection e with e
  injection e with e1 e2
  subst e1 e2
  exact ⟨b', off', c', _, hs.row i (by omega), x2, k1, k2⟩
end Go.Proofs.YtfhdgcndiljjcabGreat

/- Lists of tables of a call's own: slices of slices of slices, and slices of grids; appending to them and reading them. -/
namespace Go.Proofs.YtfhdgcndiljjcabGreat
open Go.RowKit Go.WideShapes Go.ChangeShapes Go.ChangeAt
theorem flat_get (pre : List Value) : ∀ (us : List Value) (i j : Nat) (u : Value), us[i]? = some u → j ≤ pre.length → (us.flatMap fun u => pre ++ [u])[i * (pre.length + 1) + j]? = (pre ++ [u])[j]? := by
  intro us
  induction us with
  | nil => intro i j u h; simp at h
  | cons x xs ih =>
    intro i j u h hj
    rw [List.flatMap_cons]
    rcases i with _ | i
    · simp at h
      subst h
      rw [Nat.zero_mul, Nat.zero_add, List.getElem?_append_left (by simp; omega)]
    · have h' : xs[i]? = some u := by simpa using h
      rw [Nat.succ_mul, List.getElem?_append_right (by simp; omega)]
      have e : i * (pre.length + 1) + (pre.length + 1) + j - (pre ++ [x]).length = i * (pre.length + 1) + j := by simp; omega
      rw [e]
      exact ih i j u h' hj
/-- v is a slice of the call's own, from block lo on, of elements of type e: the cells pre, then a table of the call's own -/
def OwnT (pre : List Value) (e : TypeId) (w : World) (lo : Nat) (v : Value) (ts : List (List (List Int))) : Prop :=
  ∃ us : List Value, us.length = ts.length ∧ w.ownsRow lo e (pre.length + 1) v ts.length (us.flatMap fun u => pre ++ [u]) ∧
    ∀ (i : Nat) (t : List (List Int)), ts[i]? = some t → ∃ u : Value, us[i]? = some u ∧ ∃ hi, hi ≤ w.heap.size ∧ OwnR w lo hi u t
theorem OwnT.keep {pre : List Value} {e : TypeId} {w w' : World} {lo : Nat} {v : Value} {ts : List (List (List Int))} (h : OwnT pre e w lo v ts) (hb : Below w.heap.size w w') : OwnT pre e w' lo v ts := by
  obtain ⟨us, h0, h1, h2⟩ := h
  refine ⟨us, h0, ⟨h1.1, ?_⟩, fun i t ht => ?_⟩
  · rcases h1.2 with hn | ⟨g, cap, cur, rfl, hg, hh, rest⟩
    · exact .inl hn
    · exact .inr ⟨g, cap, cur, rfl, hg, (hb.block g (Array.getElem?_eq_some_iff.1 hh).1).trans hh, rest⟩
  · obtain ⟨u, a1, hi, a2, a3⟩ := h2 i t ht
    exact ⟨u, a1, hi, Nat.le_trans a2 hb.size, a3.keep (hb.mono a2)⟩
theorem OwnT.at {pre : List Value} {e : TypeId} {w : World} {lo : Nat} {v : Value} {ts : List (List (List Int))} (h : OwnT pre e w lo v ts) (i : Nat) (hi : i < ts.length) :
    ∃ g c A' c', v = .slice (some ⟨g, 0, none⟩) ts.length c ∧ g < w.heap.size ∧ lo ≤ g ∧ w.cell? ⟨g, i * (pre.length + 1) + pre.length, none⟩ = some (.slice A' (ts[i]?.getD []).length c') ∧ RP w A' (ts[i]?.getD []) ∧
      ∀ (j : Nat) (x : Value), pre[j]? = some x → w.cell? ⟨g, i * (pre.length + 1) + j, none⟩ = some x := by
  obtain ⟨us, h0, h1, h2⟩ := h
  have ht : ts[i]? = some (ts[i]?.getD []) := by rw [List.getElem?_eq_getElem hi]; rfl
  obtain ⟨u, a1, hi', a2, a3⟩ := h2 i _ ht
  obtain ⟨A', c', rfl, hr⟩ := a3.len
  rcases h1.2 with ⟨rfl, hz⟩ | ⟨g, cap, cur, rfl, hg, hh, rest⟩
  · omega
  · refine ⟨g, cap, A', c', rfl, (Array.getElem?_eq_some_iff.1 hh).1, hg, ?_, hr, fun j x hj => ?_⟩
    · have hc := World.ownsRow.cells h1 (g := g) rfl (i * (pre.length + 1) + pre.length) (.slice A' (ts[i]?.getD []).length c') (by rw [flat_get pre us i pre.length _ a1 (Nat.le_refl _)]; simp)
      rwa [add_plain, Nat.zero_add] at hc
    · have hjl : j < pre.length := (List.getElem?_eq_some_iff.1 hj).1
      have hc := World.ownsRow.cells h1 (g := g) rfl (i * (pre.length + 1) + j) x (by rw [flat_get pre us i j _ a1 (by omega), List.getElem?_append_left hjl]; exact hj)
      rwa [add_plain, Nat.zero_add] at hc
theorem OwnT.form {pre : List Value} {e : TypeId} {w : World} {lo : Nat} {v : Value} {ts : List (List (List Int))} (h : OwnT pre e w lo v ts) : ∃ A c, v = .slice A ts.length c := by
  obtain ⟨us, h0, h1, h2⟩ := h
  rcases h1.2 with ⟨rfl, hz⟩ | ⟨g, cap, cur, rfl, hg, hh, rest⟩
  · exact ⟨none, 0, by rw [hz]⟩
  · exact ⟨_, _, rfl⟩
/-- rows lie in other blocks than slices of other types -/
theorem neT {w : World} {e : TypeId} {size lo lo' n : Nat} {v u : Value} {vs : List Value} {l : List Int} (he : e ≠ 2) (hv : w.ownsRow lo e size v n vs) (hu : OwnI w lo' u l) : u.ownBlock = none ∨ u.ownBlock ≠ v.ownBlock := by
  unfold OwnI at hu
  rcases hu.2 with ⟨rfl, _⟩ | ⟨g, cap, cur, rfl, _, hg, _⟩
  · exact .inl rfl
  · rcases hv.2 with ⟨rfl, _⟩ | ⟨g', cap', cur', rfl, _, hg', _⟩
    · exact .inr (by simp [Value.ownBlock])
    · refine .inr fun e0 => ?_
      obtain rfl : g = g' := by simpa [Value.ownBlock] using e0
      rw [hg] at hg'
      injection hg' with e1
      injection e1 with _ e2
      exact he e2.symm
theorem OwnR.otherT {w w' : World} {e : TypeId} {size lo0 n lo hi : Nat} {v u : Value} {vs : List Value} {t : List (List Int)} (he : e ≠ 2) (he2 : e ≠ 26) (hv : w.ownsRow lo0 e size v n vs) (hu : OwnR w lo hi u t) (hg : w.grownBy w' v.ownBlock) : OwnR w' lo hi u t := by
  obtain ⟨us, h1, h2, h3, h4⟩ := hu
  refine ⟨us, ⟨h1.1, ?_⟩, h2, fun i r hr => ?_, h4⟩
  · rcases h1.2 with hn | ⟨g, cap, cur, rfl, hgg, hh, rest⟩
    · exact .inl hn
    · refine .inr ⟨g, cap, cur, rfl, hgg, (hg.block g (Array.getElem?_eq_some_iff.1 hh).1 ?_).trans hh, rest⟩
      rcases hv.2 with ⟨rfl, _⟩ | ⟨g', cap', cur', rfl, _, hg', _⟩
      · simp [Value.ownBlock]
      · intro e0
        obtain rfl : g = g' := by simpa [Value.ownBlock] using e0
        rw [hh] at hg'
        injection hg' with e1
        injection e1 with _ e2
        exact he2 e2.symm
  · obtain ⟨x, a, b, c⟩ := h3 i r hr
    exact ⟨x, a, b.other hg (neT he hv b), c⟩
/-- an append leaves a longer list -/
theorem OwnT.pushed {pre : List Value} {e : TypeId} {w w' : World} {lo hi : Nat} {v v' u : Value} {ts : List (List (List Int))} {t : List (List Int)} {us : List Value} (he : e ≠ 2) (he2 : e ≠ 26)
    (h0 : us.length = ts.length) (h1 : w.ownsRow lo e (pre.length + 1) v ts.length (us.flatMap fun u => pre ++ [u]))
    (h2 : ∀ (i : Nat) (t : List (List Int)), ts[i]? = some t → ∃ u : Value, us[i]? = some u ∧ ∃ hi, hi ≤ w.heap.size ∧ OwnR w lo hi u t)
    (hu : OwnR w lo hi u t) (hhi : hi ≤ w.heap.size)
    (g1 : w'.ownsRow lo e (pre.length + 1) v' (ts.length + 1) ((us.flatMap fun u => pre ++ [u]) ++ (pre ++ [u]))) (g2 : w.grownBy w' v.ownBlock) : OwnT pre e w' lo v' (ts ++ [t]) := by
  refine ⟨us ++ [u], by simp [h0], ?_, fun i t' ht => ?_⟩
  · rw [List.flatMap_append, List.length_append]
    simpa using g1
  · by_cases hi' : i < ts.length
    · rw [List.getElem?_append_left hi'] at ht
      obtain ⟨u', a1, hi2, a2, a3⟩ := h2 i t' ht
      exact ⟨u', by rw [List.getElem?_append_left (by omega)]; exact a1, hi2, Nat.le_trans a2 g2.size, a3.otherT he he2 h1 g2⟩
    · rw [List.getElem?_append_right (by omega)] at ht
      have hi3 : i = ts.length := by
        rcases Nat.eq_or_lt_of_le (Nat.le_of_not_lt hi') with e0 | e0
        · exact e0.symm
        · rw [show i - ts.length = (i - ts.length - 1) + 1 by omega] at ht; simp at ht
      subst hi3
      rw [Nat.sub_self] at ht
      simp at ht
      subst ht
      exact ⟨u, by rw [← h0, List.getElem?_append_right (Nat.le_refl _), Nat.sub_self]; rfl, hi, Nat.le_trans hhi g2.size, hu.otherT he he2 h1 g2⟩
/-- appending a table's element at a step of a region that draws its order: its cells lie in block g -/
theorem step_pushT {pre : List Value} {e : TypeId} {ops : Array Oper} {o : Oper} {a : Act} {K : Act → World → Prop} {Q : Exit → Act → World → Prop} {E : Prop} {w : World} (s x : Operand) (t : TypeId)
    (hgd : o.guard = none) (ho : o.op = .call { callee := .builtin .append, args := #[s, x], argTypes := #[t, t] })
    (ht : Tryz.prog.underlying t = some (.slice e)) (he : e ≠ 2) (he2 : e ≠ 26) (z : Value) (bytes : Nat)
    (hinfo : (Tryz.prog.info? e).map (fun i => (i.zero, i.size, i.bytes)) = some (some z, pre.length + 1, bytes)) (hzc : z.cells.size = pre.length + 1) (hby : bytes ≤ 100) (hone : ∀ y, y ∈ pre → y.oneCell' = true)
    (lo hi : Nat) (v : Value) (ts : List (List (List Int))) (hs : a.eval s = v) (hown : OwnT pre e w lo v ts)
    (u : Value) (r : List (List Int)) (hu : OwnR w lo hi u r) (hhi : hi ≤ w.heap.size) (g : Nat) (hx : a.eval x = .slice (some ⟨g, 0, none⟩) 1 1) (hy : ∀ j y, (pre ++ [u])[j]? = some y → w.cell? ⟨g, j, none⟩ = some y) (hlen : ts.length ≤ 1000000) (hlo : lo ≤ w.heap.size)
    (h : ∀ v' w', OwnT pre e w' lo v' (ts ++ [r]) → Below lo w w' → K (a.put o.dst v') w') :
    if Region.wanted o (yielded ops a.tmps) = true then Oper.wp Tryz.prog o a w K Q else E := by
  have hw : Region.wanted o (yielded ops a.tmps) = true := by simp [Region.wanted, hgd]
  rw [if_pos hw]
  obtain ⟨i0, hi0, hz0, hz1, hz2⟩ := info_parts hinfo
  obtain ⟨us, h0, h1, h2⟩ := hown
  obtain ⟨Au, cu, hue, -⟩ := hu.len
  refine wp_append_own _ s x t ho lo e i0 z (pre.length + 1) bytes ht hi0 hz0 hz1 hz2 hzc (by omega) v ts.length (us.flatMap fun u => pre ++ [u]) hs h1
    ⟨g, 0, none⟩ 1 1 (pre ++ [u]) hx (by simp) ?_ ?_ ?_ ?_ hlo ?_
  · intro j y hj
    rw [add_plain, Nat.zero_add]
    exact hy j y hj
  · intro y hy'
    rcases List.mem_append.1 hy' with hm | hm
    · exact hone y hm
    · simp at hm; subst hm; rw [hue]; rfl
  · unfold maxLen; omega
  · have : (ts.length + 1) * bytes ≤ 1000001 * 100 := Nat.mul_le_mul (by omega) hby
    omega
  · intro v' w' g1 g2 _
    exact h v' w' (OwnT.pushed he he2 h0 h1 h2 hu hhi g1 g2) ((Below.refl lo w).grown g2 hlo (fun k hk => (World.ownsRow.lt h1 k hk).1))
/-- a list of one table, whose cells have just been laid -/
theorem OwnT.one {w : World} (pre : List Value) (e : TypeId) {lo hi : Nat} {u : Value} {t : List (List Int)} (hlo : lo ≤ w.heap.size) (hu : OwnR w lo hi u t) (hhi : hi ≤ w.heap.size) :
    OwnT pre e (w.alloc (.cells (pre ++ [u]).toArray e)) lo (.slice (some ⟨w.heap.size, 0, none⟩) 1 1) [t] := by
  refine ⟨[u], rfl, ⟨by simp, .inr ⟨w.heap.size, 1, (pre ++ [u]).toArray, rfl, hlo, heap_alloc_new w _, Nat.le_refl _, by unfold maxLen; omega, by simp, by simp; exact List.take_of_length_le (by simp)⟩⟩, fun i t' ht => ?_⟩
  match i, ht with
  | 0, ht =>
    simp at ht
    subst ht
    exact ⟨u, rfl, hi, by simp; omega, hu.keep ((below_one w _).mono hhi)⟩
theorem OwnT.nil {w : World} (pre : List Value) (e : TypeId) (lo : Nat) : OwnT pre e w lo (.slice none 0 0) [] := ⟨[], rfl, World.ownsRow_nil _ _ _ _, fun i t ht => by simp at ht⟩
theorem OwnT.more {pre : List Value} {e : TypeId} {w : World} {lo lo' : Nat} {v : Value} {ts : List (List (List Int))} (h : OwnT pre e w lo v ts) (hl : lo' ≤ lo) : OwnT pre e w lo' v ts := by
  obtain ⟨us, h0, h1, h2⟩ := h
  refine ⟨us, h0, ⟨h1.1, ?_⟩, fun i t ht => ?_⟩
  · rcases h1.2 with hn | ⟨g, cap, cur, hv, hg, hh, rest⟩
    · exact .inl hn
    · exact .inr ⟨g, cap, cur, hv, Nat.le_trans hl hg, hh, rest⟩
  · obtain ⟨u, a1, hi, a2, a3⟩ := h2 i t ht
    exact ⟨u, a1, hi, a2, a3.low hl⟩
/-- cells just laid -/
theorem laid (w : World) (vs : List Value) (T : TypeId) : ∀ j y, vs[j]? = some y → (w.alloc (.cells vs.toArray T)).cell? ⟨w.heap.size, j, none⟩ = some y := by
  intro j y hj
  rw [World.cell?_alloc_at _ _ _ _ rfl]
  simpa using hj
/-- an append to an own slice leaves the cells that the slice had as they were, wherever the new slice lies -/
theorem append_keeps {P : Program} {w w' : World} {base : Nat} {t ty e : TypeId} {i : TypeInfo} {z : Value} {size bytes : Nat} (ht : P.underlying t = some (.slice e)) (hi : P.info? e = some i) (hz : i.zero = some z)
    (hsize : i.size = size) (hby : i.bytes = bytes) {g n cap : Nat} {xs : List Value} (hown : w.ownsRow base e size (.slice (some ⟨g, 0, none⟩) n cap) n xs)
    {a : Addr} {c : Nat} {news : List Value} (hl : news.length = 1 * size) (hnews : ∀ j u, news[j]? = some u → w.cell? (a.add j) = some u) (h1 : ∀ u ∈ news, u.oneCell' = true)
    (h63 : n + 1 ≤ maxLen) (hbytes : (n + 1) * bytes ≤ 140737488355328) {v' : Value} (hr : (Builtin.append_ #[t, t] ty #[.slice (some ⟨g, 0, none⟩) n cap, .slice (some a) 1 c]).run P w = .ok v' w') :
    ∀ j, j < n * size → w'.cell? ⟨g, j, none⟩ = w.cell? ⟨g, j, none⟩ := by
  intro j hj
  subst hsize
  subst hby
  rcases hown.2 with ⟨e0, _⟩ | ⟨g', cap', cur, e0, -, hg, hnc, hcm, hcs, htake⟩
  · cases e0
  · injection e0 with e1 e2 e3
    injection e1 with e1
    injection e1 with e1
    subst e1 e3
    have hsmall : n + 1 ≤ 9223372036854775807 := by simp only [maxLen] at h63; omega
    by_cases hroom : n + 1 ≤ cap
    · have hfit : n * i.size + news.length ≤ cur.size := by rw [hl, hcs, ← Nat.add_mul]; exact Nat.mul_le_mul_right _ hroom
      have hr2 := run_append_room (P := P) w t ty e i ht hi g n cap cur hg a 1 c news hl hnews h1 hroom hfit
      rw [hr2] at hr
      injection hr with _ hw
      rw [← hw, cell_setRow_same w g j cur _ e _ hg]
      have hjc : j < cur.size := by omega
      simp only [World.cell?, hg, List.getElem?_toArray]
      rw [List.append_assoc, List.getElem?_append_left (by simp; omega), List.getElem?_take, if_pos hj]
      simp
    · have holds : ∀ j u, xs[j]? = some u → w.cell? ((⟨g, 0, none⟩ : Addr).add j) = some u := hown.cells (g := g) rfl
      have hr2 := run_append_grow (P := P) w t ty e i z ht hi hz ⟨g, 0, none⟩ n cap xs hown.1 holds a 1 c news hl hnews (by omega) (by omega) (growslice_fits (by omega) hbytes)
      rw [hr2] at hr
      injection hr with _ hw
      have hlt : g < w.heap.size := (Array.getElem?_eq_some_iff.1 hg).1
      rw [← hw]
      exact World.cell?_of_block (a := ⟨g, j, none⟩) (heap_alloc_old w.drew _ hlt)
/-- step_pushT, told also that the old elements lie where they lay -/
theorem step_pushK {pre : List Value} {e : TypeId} {ops : Array Oper} {o : Oper} {a : Act} {K : Act → World → Prop} {Q : Exit → Act → World → Prop} {E : Prop} {w : World} (s x : Operand) (t : TypeId)
    (hgd : o.guard = none) (ho : o.op = .call { callee := .builtin .append, args := #[s, x], argTypes := #[t, t] })
    (ht : Tryz.prog.underlying t = some (.slice e)) (he : e ≠ 2) (he2 : e ≠ 26) (z : Value) (bytes : Nat)
    (hinfo : (Tryz.prog.info? e).map (fun i => (i.zero, i.size, i.bytes)) = some (some z, pre.length + 1, bytes)) (hzc : z.cells.size = pre.length + 1) (hby : bytes ≤ 100) (hone : ∀ y, y ∈ pre → y.oneCell' = true)
    (lo hi : Nat) (G N C : Nat) (ts : List (List (List Int))) (hs : a.eval s = .slice (some ⟨G, 0, none⟩) N C) (hN : ts.length = N) (hown : OwnT pre e w lo (.slice (some ⟨G, 0, none⟩) N C) ts)
    (u : Value) (r : List (List Int)) (hu : OwnR w lo hi u r) (hhi : hi ≤ w.heap.size) (g : Nat) (hx : a.eval x = .slice (some ⟨g, 0, none⟩) 1 1) (hy : ∀ j y, (pre ++ [u])[j]? = some y → w.cell? ⟨g, j, none⟩ = some y) (hlen : ts.length ≤ 1000000) (hlo : lo ≤ w.heap.size)
    (h : ∀ v' w', OwnT pre e w' lo v' (ts ++ [r]) → Below lo w w' → (∀ j, j < N * (pre.length + 1) → w'.cell? ⟨G, j, none⟩ = w.cell? ⟨G, j, none⟩) → K (a.put o.dst v') w') :
    if Region.wanted o (yielded ops a.tmps) = true then Oper.wp Tryz.prog o a w K Q else E := by
  have hw : Region.wanted o (yielded ops a.tmps) = true := by simp [Region.wanted, hgd]
  rw [if_pos hw]
  subst hN
  obtain ⟨i0, hi0, hz0, hz1, hz2⟩ := info_parts hinfo
  obtain ⟨us, h0, h1, h2⟩ := hown
  obtain ⟨Au, cu, hue, -⟩ := hu.len
  have c1 : ∀ j y, (pre ++ [u])[j]? = some y → w.cell? ((⟨g, 0, none⟩ : Addr).add j) = some y := by
    intro j y hj
    rw [add_plain, Nat.zero_add]
    exact hy j y hj
  have c2 : ∀ y ∈ pre ++ [u], y.oneCell' = true := by
    intro y hy'
    rcases List.mem_append.1 hy' with hm | hm
    · exact hone y hm
    · simp at hm; subst hm; rw [hue]; rfl
  have c3 : (ts.length + 1) * bytes ≤ 140737488355328 := by
    have : (ts.length + 1) * bytes ≤ 1000001 * 100 := Nat.mul_le_mul (by omega) hby
    omega
  have c4 : ts.length + 1 ≤ maxLen := by unfold maxLen; omega
  obtain ⟨v', w', hr, g1, g2, -⟩ := run_append_own (P := Tryz.prog) w lo t o.type e i0 z (pre.length + 1) bytes ht hi0 hz0 hz1 hz2 hzc (by omega) (.slice (some ⟨G, 0, none⟩) ts.length C) ts.length (us.flatMap fun u => pre ++ [u]) h1 ⟨g, 0, none⟩ 1 1 (pre ++ [u]) (by simp) c1 c2 c4 c3 hlo
  have hk := append_keeps ht hi0 hz0 hz1 hz2 h1 (by simp) c1 c2 c4 c3 hr
  unfold Oper.wp execOp
  simp only [ho, resolve, invoke, builtin, Sem.run_bind, Sem.run_pure, Result.andThen_ok, List.map_toArray, List.map_cons, List.map_nil, hs, hx, hr]
  exact h v' w' (OwnT.pushed he he2 h0 h1 h2 hu hhi g1 g2) ((Below.refl lo w).grown g2 hlo (fun k hk => (World.ownsRow.lt h1 k hk).1)) hk
/-- another list of tables is left alone by an append -/
theorem OwnT.other {pre : List Value} {e : TypeId} {w w' : World} {lo lo0 size n : Nat} {v u : Value} {vs : List Value} {ts : List (List (List Int))} (he : e ≠ 2) (he2 : e ≠ 26) (hv : w.ownsRow lo0 e size v n vs) (hu : OwnT pre e w lo u ts) (hg : w.grownBy w' v.ownBlock) (hne : u.ownBlock = none ∨ u.ownBlock ≠ v.ownBlock) : OwnT pre e w' lo u ts := by
  obtain ⟨us, h0, h1, h2⟩ := hu
  refine ⟨us, h0, ⟨h1.1, ?_⟩, fun i t ht => ?_⟩
  · rcases h1.2 with hn | ⟨g, cap, cur, rfl, hgg, hh, rest⟩
    · exact .inl hn
    · refine .inr ⟨g, cap, cur, rfl, hgg, (hg.block g (Array.getElem?_eq_some_iff.1 hh).1 ?_).trans hh, rest⟩
      rcases hne with h | h
      · simp [Value.ownBlock] at h
      · exact h
  · obtain ⟨x, a1, hi, a2, a3⟩ := h2 i t ht
    exact ⟨x, a1, hi, Nat.le_trans a2 hg.size, a3.otherT he he2 hv hg⟩
theorem OwnT.lt {pre : List Value} {e : TypeId} {w : World} {lo : Nat} {v : Value} {ts : List (List (List Int))} (h : OwnT pre e w lo v ts) : ∀ g, v.ownBlock = some g → lo ≤ g ∧ g < w.heap.size := by
  obtain ⟨us, h0, h1, h2⟩ := h
  exact fun g hg => World.ownsRow.lt h1 g hg
/-- step_pushT, told also that other lists are left alone, and that the new slice lies in the old one's block or in a new one -/
theorem step_pushD {pre : List Value} {e : TypeId} {ops : Array Oper} {o : Oper} {a : Act} {K : Act → World → Prop} {Q : Exit → Act → World → Prop} {E : Prop} {w : World} (s x : Operand) (t : TypeId)
    (hgd : o.guard = none) (ho : o.op = .call { callee := .builtin .append, args := #[s, x], argTypes := #[t, t] })
    (ht : Tryz.prog.underlying t = some (.slice e)) (he : e ≠ 2) (he2 : e ≠ 26) (z : Value) (bytes : Nat)
    (hinfo : (Tryz.prog.info? e).map (fun i => (i.zero, i.size, i.bytes)) = some (some z, pre.length + 1, bytes)) (hzc : z.cells.size = pre.length + 1) (hby : bytes ≤ 100) (hone : ∀ y, y ∈ pre → y.oneCell' = true)
    (lo hi : Nat) (v : Value) (ts : List (List (List Int))) (hs : a.eval s = v) (hown : OwnT pre e w lo v ts)
    (u : Value) (r : List (List Int)) (hu : OwnR w lo hi u r) (hhi : hi ≤ w.heap.size) (g : Nat) (hx : a.eval x = .slice (some ⟨g, 0, none⟩) 1 1) (hy : ∀ j y, (pre ++ [u])[j]? = some y → w.cell? ⟨g, j, none⟩ = some y) (hlen : ts.length ≤ 1000000) (hlo : lo ≤ w.heap.size)
    (h : ∀ v' w', OwnT pre e w' lo v' (ts ++ [r]) → Below lo w w' → (∀ u' ts', OwnT pre e w lo u' ts' → (u'.ownBlock = none ∨ u'.ownBlock ≠ v.ownBlock) → OwnT pre e w' lo u' ts' ∧ (u'.ownBlock = none ∨ u'.ownBlock ≠ v'.ownBlock)) → K (a.put o.dst v') w') :
    if Region.wanted o (yielded ops a.tmps) = true then Oper.wp Tryz.prog o a w K Q else E := by
  have hw : Region.wanted o (yielded ops a.tmps) = true := by simp [Region.wanted, hgd]
  rw [if_pos hw]
  obtain ⟨i0, hi0, hz0, hz1, hz2⟩ := info_parts hinfo
  obtain ⟨us, h0, h1, h2⟩ := hown
  obtain ⟨Au, cu, hue, -⟩ := hu.len
  have c1 : ∀ j y, (pre ++ [u])[j]? = some y → w.cell? ((⟨g, 0, none⟩ : Addr).add j) = some y := by
    intro j y hj
    rw [add_plain, Nat.zero_add]
    exact hy j y hj
  have c2 : ∀ y ∈ pre ++ [u], y.oneCell' = true := by
    intro y hy'
    rcases List.mem_append.1 hy' with hm | hm
    · exact hone y hm
    · simp at hm; subst hm; rw [hue]; rfl
  have c3 : (ts.length + 1) * bytes ≤ 140737488355328 := by
    have : (ts.length + 1) * bytes ≤ 1000001 * 100 := Nat.mul_le_mul (by omega) hby
    omega
  have c4 : ts.length + 1 ≤ maxLen := by unfold maxLen; omega
  obtain ⟨v', w', hr, g1, g2, -, g3⟩ := run_append_own_at (P := Tryz.prog) w lo t o.type e i0 z (pre.length + 1) bytes ht hi0 hz0 hz1 hz2 hzc (by omega) v ts.length (us.flatMap fun u => pre ++ [u]) h1 ⟨g, 0, none⟩ 1 1 (pre ++ [u]) (by simp) c1 c2 c4 c3 hlo
  unfold Oper.wp execOp
  simp only [ho, resolve, invoke, builtin, Sem.run_bind, Sem.run_pure, Result.andThen_ok, List.map_toArray, List.map_cons, List.map_nil, hs, hx, hr]
  refine h v' w' (OwnT.pushed he he2 h0 h1 h2 hu hhi g1 g2) ((Below.refl lo w).grown g2 hlo (fun k hk => (World.ownsRow.lt h1 k hk).1)) (fun u' ts' hu' hne => ⟨hu'.other he he2 h1 g2 hne, ?_⟩)
  rcases hc : u'.ownBlock with _ | b
  · exact .inl rfl
  · refine .inr (fun e0 => ?_)
    rcases g3 with g3 | g3
    · rw [g3] at e0
      rcases hne with hne | hne
      · rw [hc] at hne; cases hne
      · exact hne (hc.trans e0)
    · rw [g3] at e0
      injection e0 with e0
      have := (hu'.lt b hc).2
      omega
end Go.Proofs.YtfhdgcndiljjcabGreat

/- Contracts of the program's look for faults of symmetry and of brackets. -/
namespace Go.Proofs.YtfhdgcndiljjcabGreat
open Go.RowKit Go.WideShapes Go.ChangeShapes Go.ChangeAt
namespace Pl
theorem fau1_in {F : Nat → Nat → Int} {d i : Nat} {o : Option (List Int)} (hi : i < d + 1) (h : srch (fau1 d F) (d + 1 - i) i = o) : orE (srch (fau1j F i) (d + 1 - i - (i + 1)) (i + 1)) (srch (fau1 d F) (d + 1 - (i + 1)) (i + 1)) = o := by
  rw [show d + 1 - i = (d + 1 - (i + 1)) + 1 by omega, srch_step] at h
  unfold fau1 at h
  rw [show d + 1 - i - (i + 1) = d - i - i by omega]
  exact h
theorem fau1_go {F : Nat → Nat → Int} {d i j : Nat} {r o : Option (List Int)} (hj : i + j < d + 1) (h : orE (srch (fau1j F i) (d + 1 - i - j) j) r = o) (hx : F i j = F j i) : orE (srch (fau1j F i) (d + 1 - i - (j + 1)) (j + 1)) r = o := by
  rw [show d + 1 - i - j = (d + 1 - i - (j + 1)) + 1 by omega, srch_step] at h
  unfold fau1j at h
  rw [if_pos hx, orE_none] at h
  exact h
theorem fau1_no {F : Nat → Nat → Int} {d i j : Nat} {r o : Option (List Int)} (hj : i + j < d + 1) (h : orE (srch (fau1j F i) (d + 1 - i - j) j) r = o) (hx : ¬ F i j = F j i) : o = some [1, (i : Int), (j : Int)] := by
  rw [show d + 1 - i - j = (d + 1 - i - (j + 1)) + 1 by omega, srch_step] at h
  unfold fau1j at h
  rw [if_neg hx, orE_some, orE_some] at h
  exact h.symm
theorem fau1_out {F : Nat → Nat → Int} {d i j : Nat} {r o : Option (List Int)} (hj : ¬ i + j < d + 1) (h : orE (srch (fau1j F i) (d + 1 - i - j) j) r = o) : r = o := by
  rw [show d + 1 - i - j = 0 by omega] at h
  exact h
end Pl
set_option maxHeartbeats 8000000 in
set_option maxRecDepth 100000 in
theorem wrongPair_any (m : Int) (d : Nat) (A : Option Addr) (c : Nat) (t : List (List Int)) (w : World) (hs : Pl.Ok m d t) (hr : RP w A t) :
    Calls Tryz.prog 150 #[.agg #[.int .i64 m, .int .i64 d, .slice A t.length c]] w fun e w' => ∃ v, e = .returned v ∧ FauV w' w.heap.size v (Pl.fauS d (Pl.pc t)) ∧ Below w.heap.size w w' := by
  obtain ⟨b, off, rfl⟩ := hr.some (by rw [hs.len]; omega)
  have HG1 := Lib.hid (GBox.new 55 w m d (some ⟨b, off, none⟩) t.length c)
  have HWB := Lib.hid (below_one w (.cells #[.int .i64 m, .int .i64 d, .slice (some ⟨b, off, none⟩) t.length c] 55))
  have HS := Lib.hid hs
  have hd2 := hs.d2
  have HLR := Lib.hid (fun (k : Nat) W (hk : k ≤ d) => lenRow_any m d k W (by have := hs.d2; omega) hk)
  obtain ⟨o, ho⟩ : ∃ o, Pl.fauS d (Pl.pc t) = o := ⟨_, rfl⟩
  have HO := Lib.hid (show Pl.srch (Pl.fau1 d (Pl.pc t)) (d + 1 - 0) 0 = o from ho)
  rw [ho]
  obtain ⟨L, hL⟩ : ∃ L, t.length = L := ⟨_, rfl⟩
  have HL := Lib.hid hL
  have HLd := Lib.hid (hL.symm.trans hs.len)
  rw [hL] at HG1 HWB ⊢
  obtain ⟨W, hW⟩ : ∃ W, w.alloc (.cells #[.int .i64 m, .int .i64 d, .slice (some ⟨b, off, none⟩) L c] 55) = W := ⟨_, rfl⟩
  rw [hW] at HG1 HWB
  have HR := Lib.hid (hr.below HWB.out)
  have HW := Lib.hid hW
  have HB := HWB
  clear hs hr hL hW ho
  obtain ⟨x0, x1, x2, x3⟩ := HG1.out
  go_enter Tryz.func150, Tryz.ntmps150
  go_wp2
  rw [HW.out]
  go_wp2
  clear x0 x1 x2 x3
  go_loopw [3, 4, 9] (fun _ _ q wr => ∃ i : Nat, i ≤ d + 1 ∧ q = .int .i64 i ∧ Pl.srch (Pl.fau1 d (Pl.pc t)) (d + 1 - i) i = o ∧ Below W.heap.size W wr) (fun _ _ q _ => d + 1 - (intOf q).toNat)
  case atStart => exact ⟨0, Nat.zero_le _, rfl, HO.out, Below.refl _ _⟩
  case round =>
    clear HO
    obtain ⟨i, hi, rfl, hso, hbel⟩ := hrel
    have HBE := Lib.hid hbel
    clear hbel
    by_cases hlt : i < d + 1
    · have HIN := Lib.hid (Pl.fau1_in hlt hso)
      have HLK := Lib.hid (fun W => HLR.out i W (by omega))
      obtain ⟨N, hN⟩ : ∃ N, d - i + 1 = N := ⟨_, rfl⟩
      rw [hN] at HLK
      have HNN := Lib.hid hN
      have hN1 : N ≤ 11 := by omega
      have j1 : (i : Int) < (d : Int) + 1 := by omega
      obtain ⟨r, hr⟩ : ∃ r, Pl.srch (Pl.fau1 d (Pl.pc t)) (d + 1 - (i + 1)) (i + 1) = r := ⟨_, rfl⟩
      rw [hr] at HIN
      have HRR := Lib.hid hr
      clear hN hso hr
      go_wp2
      go_loopw [4] (fun q wr => ∃ j : Nat, j ≤ d + 2 ∧ q = .int .i64 j ∧ Pl.orE (Pl.srch (Pl.fau1j (Pl.pc t) i) (d + 1 - i - j) j) r = o ∧ Below W.heap.size W wr) (fun q _ => d + 3 - (intOf q).toNat)
      case atStart => exact ⟨i + 1, by omega, by first | rfl | go_num, HIN.out, HBE.out⟩
      case round =>
        clear HIN HBE
        obtain ⟨j, hj, rfl, hso, hbel⟩ := hrel
        have HBE := Lib.hid hbel
        obtain ⟨x0, x1, x2, x3⟩ := HG1.out.keep hbel
        go_wp2_with fail
        refine (HLK.out _).mono ?_
        rintro e w2 ⟨rfl, hb2⟩
        have HB2 := Lib.hid (below_step HBE.out hb2)
        clear hb2 x0 x1 x2 x3 hbel
        have hNN := HNN.out
        by_cases hjN : j < N
        · obtain ⟨p1, p2, p3, M, hM, x1, x2, x3⟩ := (HG1.out.keep HB2.out).num' HL.out HS.out (HR.out.below HB2.out) i j (by omega)
          obtain ⟨q1, q2, q3, M', hM', y1, y2, y3⟩ := (HG1.out.keep HB2.out).num' HL.out HS.out (HR.out.below HB2.out) j i (by omega)
          clear y1
          have hgo := Pl.fau1_go (F := Pl.pc t) (d := d) (i := i) (j := j) (by omega) hso
          have hno := Pl.fau1_no (F := Pl.pc t) (d := d) (i := i) (j := j) (by omega) hso
          obtain ⟨X, hX⟩ : ∃ X, Pl.pc t i j = X := ⟨_, rfl⟩
          obtain ⟨Y, hY⟩ : ∃ Y, Pl.pc t j i = Y := ⟨_, rfl⟩
          rw [hX, hY] at hgo hno
          rw [hX] at x3
          rw [hY] at y3
          have hLd := HLd.out
          have j2 : (0 : Int) ≤ (i : Int) := by omega
          have j3 : (i : Int) < (L : Int) := by omega
          have j4 : (0 : Int) ≤ (j : Int) := by omega
          have j5 : (j : Int) < (M : Int) := by omega
          have j8 : (j : Int) < (L : Int) := by omega
          have j9 : (i : Int) < (M' : Int) := by omega
          clear hso hX hY hM hM' hNN hLd
          by_cases hxy : X = Y
          · have HNX := Lib.hid (hgo hxy)
            subst hxy
            clear hgo hno
            go_wp2
            go_quiet (fail)
            go_wp2
            go_roundw
            case rel => exact ⟨j + 1, by have := HNN.out; omega, by go_num, HNX.out, below_drewN HB2.out _⟩
            case measure => simp only [intOf]; omega
          · have HNX := Lib.hid (hno hxy)
            obtain ⟨n1, n2⟩ : (X == Y) = false ∧ (X != Y) = true := ⟨by simpa using hxy, by simpa using hxy⟩
            clear hgo hno
            go_wp2
            go_quiet (fail)
            go_wp2
            go_ret
            exact ⟨_, rfl, by rw [HNX.out]; exact ⟨_, _, rfl, (OwnI.lit3 _ 1 (i : Int) (j : Int)).more (by first | exact (below_step HB.out HB2.out).size | exact (below_drewN (below_step HB.out HB2.out) _).size)⟩, below_step HB.out (below_alloc _ (by first | exact HB2.out | exact below_drewN HB2.out _))⟩
        · have HNX := Lib.hid (HRR.out.trans (Pl.fau1_out (by omega) hso))
          have j1 : ¬ (j : Int) < (N : Int) := by omega
          clear hso hNN
          go_wp2
          go_roundw
          case rel => exact ⟨i + 1, by omega, by go_num, HNX.out, HB2.out⟩
          case measure => simp only [intOf]; omega
    · obtain rfl : i = d + 1 := by omega
      rw [Nat.sub_self] at hso
      have HNO := Lib.hid (show o = none from hso.symm)
      clear hso
      go_wp2
      go_ret
      exact ⟨_, rfl, by rw [HNO.out]; exact rfl, below_step HB.out HBE.out⟩
/-! the powers of a grid -/
def pwTs (m : Int) (d : Nat) (F : Nat → Nat → Int) (n : Nat) : List (List (List Int)) := (List.range n).map (Pl.pwT m d F)
theorem pwTs_length (m : Int) (d : Nat) (F : Nat → Nat → Int) (n : Nat) : (pwTs m d F n).length = n := by simp [pwTs]
theorem pwTs_succ (m : Int) (d : Nat) (F : Nat → Nat → Int) (n : Nat) : pwTs m d F (n + 1) = pwTs m d F n ++ [Pl.pwT m d F n] := by simp [pwTs, List.range_succ]
theorem pwTs_get (m : Int) (d : Nat) (F : Nat → Nat → Int) (n i : Nat) (h : i < n) : (pwTs m d F n)[i]?.getD [] = Pl.pwT m d F i := by
  unfold pwTs
  rw [List.getElem?_map, List.getElem?_range h]; rfl
theorem pwT_ok {m : Int} {d : Nat} (m1 : 2 ≤ m) (m2 : m ≤ 10000) (d1 : 1 ≤ d) (d2 : d ≤ 10) (F : Nat → Nat → Int) (k : Nat) : Pl.Ok m d (Pl.pwT m d F k) := by
  cases k <;> exact Pl.Ok.of_tab m1 m2 d1 d2 _
theorem infoGrid : (Tryz.prog.info? 55).map (fun i => (i.zero, i.size, i.bytes)) = some (some (.agg #[.int .i64 0, .int .i64 0, .slice none 0 0]), 3, 40) := by kernel_rfl
theorem g_ne1 : (55 : TypeId) ≠ 2 := by decide
theorem g_ne2 : (55 : TypeId) ≠ 26 := by decide
/-- element i of a list of grids, in the walk's form -/
theorem OwnT.grid {m d : Value} {w : World} {lo : Nat} {v : Value} {ts : List (List (List Int))} (h : OwnT [m, d] 55 w lo v ts) (i : Nat) (hi : i < ts.length) :
    ∃ g c A' c', v = .slice (some ⟨g, 0, none⟩) ts.length c ∧ g < w.heap.size ∧ lo ≤ g ∧ w.cell? ⟨g, i * 3, none⟩ = some m ∧ w.cell? ⟨g, i * 3 + 1, none⟩ = some d ∧ w.cell? ⟨g, i * 3 + 2, none⟩ = some (.slice A' (ts[i]?.getD []).length c') ∧ RP w A' (ts[i]?.getD []) := by
  obtain ⟨g, c, A', c', h1, h2, h3, h4, h5, h6⟩ := h.at i hi
  exact ⟨g, c, A', c', h1, h2, h3, h6 0 m rfl, h6 1 d rfl, h4, h5⟩
theorem one_grid {m : Int} {d : Nat} (F : Nat → Nat → Int) (m1 : 2 ≤ m) : Pl.tab m d (gosF (Ser.cut m d (Ser.mon 0 1)) 0) = Pl.pwT m d F 0 := by
  show _ = Pl.tab m d (Pl.one2 1)
  refine Pl.tab_congr (Pl.Eq.of m d (fun p q hpq => ?_))
  unfold gosF Pl.one2
  rw [if_pos rfl]
  by_cases hq : q = 0
  · rw [if_pos hq, Ser.co_cut (by omega)]
    unfold Ser.mon
    by_cases hp : p = 0
    · rw [if_pos hp, if_pos ⟨hp, hq⟩, Int.emod_eq_of_lt (by omega) (by omega)]
    · rw [if_neg hp, if_neg (fun h => hp h.1), Int.zero_emod]
  · rw [if_neg hq, if_neg (fun h => hq h.2)]
/-- in the walk's form: a list's element and a grid's box are kept by a call, and by an append to the list -/
theorem el_keep {w w' : World} {g k g1 : Nat} {x y z x1 y1 z1 : Value} (hb : Below w.heap.size w w')
    (h : (w.cell? ⟨g, k * 3, none⟩ = some x ∧ w.cell? ⟨g, k * 3 + 1, none⟩ = some y ∧ w.cell? ⟨g, k * 3 + 2, none⟩ = some z ∧ g < w.heap.size) ∧ (w.cell? ⟨g1, 0, none⟩ = some x1 ∧ w.cell? ⟨g1, 1, none⟩ = some y1 ∧ w.cell? ⟨g1, 2, none⟩ = some z1 ∧ g1 < w.heap.size)) :
    (w'.cell? ⟨g, k * 3, none⟩ = some x ∧ w'.cell? ⟨g, k * 3 + 1, none⟩ = some y ∧ w'.cell? ⟨g, k * 3 + 2, none⟩ = some z ∧ g < w'.heap.size) ∧ (w'.cell? ⟨g1, 0, none⟩ = some x1 ∧ w'.cell? ⟨g1, 1, none⟩ = some y1 ∧ w'.cell? ⟨g1, 2, none⟩ = some z1 ∧ g1 < w'.heap.size) :=
  ⟨⟨(hb.cell (p := ⟨g, k * 3, none⟩) h.1.2.2.2).trans h.1.1, (hb.cell (p := ⟨g, k * 3 + 1, none⟩) h.1.2.2.2).trans h.1.2.1, (hb.cell (p := ⟨g, k * 3 + 2, none⟩) h.1.2.2.2).trans h.1.2.2.1, Nat.lt_of_lt_of_le h.1.2.2.2 hb.size⟩,
   ⟨(hb.cell (p := ⟨g1, 0, none⟩) h.2.2.2.2).trans h.2.1, (hb.cell (p := ⟨g1, 1, none⟩) h.2.2.2.2).trans h.2.2.1, (hb.cell (p := ⟨g1, 2, none⟩) h.2.2.2.2).trans h.2.2.2.1, Nat.lt_of_lt_of_le h.2.2.2.2 hb.size⟩⟩
theorem el_push {w w' : World} {lo g k n g1 : Nat} {x y z x1 y1 z1 : Value} (hk : ∀ j, j < n * 3 → w'.cell? ⟨g, j, none⟩ = w.cell? ⟨g, j, none⟩) (hkn : k < n) (hg1 : g1 < lo) (hb : Below lo w w')
    (h : (w.cell? ⟨g, k * 3, none⟩ = some x ∧ w.cell? ⟨g, k * 3 + 1, none⟩ = some y ∧ w.cell? ⟨g, k * 3 + 2, none⟩ = some z ∧ g < w.heap.size) ∧ (w.cell? ⟨g1, 0, none⟩ = some x1 ∧ w.cell? ⟨g1, 1, none⟩ = some y1 ∧ w.cell? ⟨g1, 2, none⟩ = some z1 ∧ g1 < w.heap.size)) :
    (w'.cell? ⟨g, k * 3, none⟩ = some x ∧ w'.cell? ⟨g, k * 3 + 1, none⟩ = some y ∧ w'.cell? ⟨g, k * 3 + 2, none⟩ = some z ∧ g < w'.heap.size) ∧ (w'.cell? ⟨g1, 0, none⟩ = some x1 ∧ w'.cell? ⟨g1, 1, none⟩ = some y1 ∧ w'.cell? ⟨g1, 2, none⟩ = some z1 ∧ g1 < w'.heap.size) :=
  ⟨⟨(hk (k * 3) (by omega)).trans h.1.1, (hk (k * 3 + 1) (by omega)).trans h.1.2.1, (hk (k * 3 + 2) (by omega)).trans h.1.2.2.1, Nat.lt_of_lt_of_le h.1.2.2.2 hb.size⟩,
   ⟨(hb.cell (p := ⟨g1, 0, none⟩) hg1).trans h.2.1, (hb.cell (p := ⟨g1, 1, none⟩) hg1).trans h.2.2.1, (hb.cell (p := ⟨g1, 2, none⟩) hg1).trans h.2.2.2.1, Nat.lt_of_lt_of_le h.2.2.2.2 hb.size⟩⟩
theorem pre_one (m d : Int) : ∀ y, y ∈ [Value.int .i64 m, Value.int .i64 d] → y.oneCell' = true := by
  intro y hy
  simp at hy
  rcases hy with rfl | rfl <;> rfl
set_option maxHeartbeats 8000000 in
set_option maxRecDepth 100000 in
theorem powers_any (m : Int) (d : Nat) (A : Option Addr) (c : Nat) (t : List (List Int)) (w : World) (hs : Pl.Ok m d t) (hr : RP w A t) :
    Calls Tryz.prog 162 #[.agg #[.int .i64 m, .int .i64 d, .slice A t.length c]] w fun e w' => ∃ v, e = .returned v ∧ OwnT [.int .i64 m, .int .i64 d] 55 w' w.heap.size v (pwTs m d (Pl.pc t) (d + 1)) ∧ Below w.heap.size w w' := by
  have HG1 := Lib.hid (GBox.new 55 w m d A t.length c)
  have HWB := Lib.hid (below_one w (.cells #[.int .i64 m, .int .i64 d, .slice A t.length c] 55))
  obtain ⟨W, hW⟩ : ∃ W, w.alloc (.cells #[.int .i64 m, .int .i64 d, .slice A t.length c] 55) = W := ⟨_, rfl⟩
  rw [hW] at HG1 HWB
  have HW := Lib.hid hW
  have HB := HWB
  have m1 := hs.m1
  have m2 := hs.m2
  have hd1 := hs.d1
  have hd2 := hs.d2
  have HR := Lib.hid (hr.below HWB.out)
  have HMO := Lib.hid (fun W0 => monomial_any m d 0 1 W0 (by omega) m2 (by omega) (by omega) (by omega))
  have HGS := Lib.hid (fun (W0 : World) (A0 : Option Addr) (c0 : Nat) (h : RI W0 A0 (Ser.cut m d (Ser.mon 0 1))) => gridOfSeries_any m d A0 c0 _ 0 W0 ⟨m1, m2, by omega, by omega, Ser.cut_length _ _ _, Ser.cut_red (by omega) _ _⟩ h)
  have HTM := Lib.hid (fun (k : Nat) (A1 : Option Addr) (c1 : Nat) (W0 : World) (h : RP W0 A1 (Pl.pwT m d (Pl.pc t) k)) (h' : RP W0 A t) => by
    have := gtimes_any m d A1 c1 (Pl.pwT m d (Pl.pc t) k) A c t W0 (pwT_ok m1 m2 hd1 hd2 _ k) hs h h'
    rw [Pl.pwT_length] at this
    exact this)
  obtain ⟨L0, hL0⟩ : ∃ L0, Ser.cut m d (Ser.mon 0 1) = L0 := ⟨_, rfl⟩
  have hone : Pl.tab m d (gosF L0 0) = Pl.pwT m d (Pl.pc t) 0 := by rw [← hL0]; exact one_grid _ m1
  rw [hL0] at HMO HGS
  rw [hone] at HGS
  obtain ⟨L, hL⟩ : ∃ L, t.length = L := ⟨_, rfl⟩
  rw [hL] at HG1 HW HTM ⊢
  obtain ⟨x1, x2, x3, x4⟩ := HG1.out
  clear hW hr hs hL hL0 hone
  go_enter Tryz.func162, Tryz.ntmps162
  go_wp2_with fail
  rw [HW.out]
  refine (HMO.out _).mono ?_
  rintro e wa ⟨sa, rfl, oa, ba⟩
  obtain ⟨Aa, ca, rfl, ra⟩ := oa.form
  go_wp2_with fail
  refine (HGS.out _ _ _ ra).mono ?_
  rintro e wb ⟨sb, rfl, ob, bb⟩
  obtain ⟨Ab, cb, rfl, -⟩ := ob.len
  rw [Pl.pwT_length] at ob ⊢
  have hsz := ba.size
  have hsz2 := (below_step ba bb).size
  have HO := Lib.hid (OwnT.one [.int .i64 m, .int .i64 d] 55 (lo := W.heap.size) hsz2 (ob.low hsz) (Nat.le_refl _))
  have HBB := Lib.hid (below_alloc (.cells #[.int .i64 m, .int .i64 d, .slice Ab (d + 1) cb] 55) (below_step ba bb))
  obtain ⟨X, hX⟩ : ∃ X, wb.alloc (.cells #[.int .i64 m, .int .i64 d, .slice Ab (d + 1) cb] 55) = X := ⟨_, rfl⟩
  rw [hX] at HBB
  have HX := Lib.hid hX
  have HO' : Hid (OwnT [.int .i64 m, .int .i64 d] 55 X W.heap.size (.slice (some ⟨wb.heap.size, 0, none⟩) 1 1) (pwTs m d (Pl.pc t) (0 + 1))) := Lib.hid (by rw [← hX]; exact HO.out)
  clear oa ba ob bb ra hsz hsz2 hX HO x1 x2 x3 x4
  obtain ⟨x1, x2, x3, x4⟩ := HG1.out.keep HBB.out
  rw [← HX.out] at x1 x2 x3
  go_wp2
  clear x1 x2 x3 x4
  rw [HX.out]
  clear HX
  go_loopw [3, 4, 17] (fun s3 _ q wr => ∃ k : Nat, k ≤ d ∧ q = .int .i64 k ∧ OwnT [.int .i64 m, .int .i64 d] 55 wr W.heap.size s3 (pwTs m d (Pl.pc t) (k + 1)) ∧ Below W.heap.size W wr) (fun _ _ q _ => d - (intOf q).toNat)
  case atStart => exact ⟨0, Nat.zero_le _, rfl, HO'.out, HBB.out⟩
  case round =>
    clear HO' HBB
    obtain ⟨k, hk, rfl, hown, hbel⟩ := hrel
    have HBE := Lib.hid hbel
    have HO := Lib.hid hown
    by_cases hkd : k < d
    · obtain ⟨g, cg, Ak, ck, rfl, k0, klo, k1, k2, k3, k4⟩ := hown.grid k (by rw [pwTs_length]; omega)
      rw [pwTs_get _ _ _ _ _ (by omega), Pl.pwT_length] at k3
      rw [pwTs_get _ _ _ _ _ (by omega)] at k4
      rw [pwTs_length] at HO ⊢
      obtain ⟨y1, y2, y3, y4⟩ := HG1.out.keep hbel
      have HTK := Lib.hid (HTM.out k Ak ck wr.drew (k4.below (below_drew0 wr)) (HR.out.below (below_step hbel (below_drew0 wr))))
      have hmul : Pl.tab m d (Pl.mul2 (Pl.pc (Pl.pwT m d (Pl.pc t) k)) (Pl.pc t)) = Pl.pwT m d (Pl.pc t) (k + 1) := rfl
      rw [hmul] at HTK
      have hst := pwTs_succ m d (Pl.pc t) (k + 1)
      obtain ⟨R, hR⟩ : ∃ R, Pl.pwT m d (Pl.pc t) (k + 1) = R := ⟨_, rfl⟩
      have hRl : R.length = d + 1 := by rw [← hR]; exact Pl.pwT_length _ _ _ _
      rw [hR] at HTK hst
      have HST := Lib.hid hst
      have j0 : (0 : Int) ≤ (k : Int) := by omega
      have j1 : (k : Int) < (d : Int) := by omega
      obtain ⟨n, hn⟩ : ∃ n, k + 1 = n := ⟨_, rfl⟩
      have j2 : (k : Int) < (n : Int) := by omega
      have j5 : k < n := by omega
      have HLEN := Lib.hid (show (pwTs m d (Pl.pc t) (k + 1)).length ≤ 1000000 by rw [pwTs_length]; omega)
      obtain ⟨P, hP⟩ : ∃ P, pwTs m d (Pl.pc t) (k + 1) = P := ⟨_, rfl⟩
      have hPn : P.length = k + 1 := by rw [← hP, pwTs_length]
      rw [hP] at HO HST HLEN
      rw [hn] at HO hPn ⊢
      have HPN := Lib.hid hPn
      have HSZ := Lib.hid HBE.out.size
      clear hst hmul hR hown hbel k4 hP hn hPn
      have X0 := Lib.hid (el_keep (below_drew0 wr) ⟨⟨k1, k2, k3, k0⟩, ⟨y1, y2, y3, y4⟩⟩)
      have HWL := Lib.hid (show w.heap.size < W.heap.size from HG1.out.2.2.2)
      clear y1 y2 y3 y4 k1 k2 k3
      go_wp2
      go_region_held3 (fun w' => (w'.cell? ⟨g, k * 3, none⟩ = some (.int .i64 m) ∧ w'.cell? ⟨g, k * 3 + 1, none⟩ = some (.int .i64 d) ∧ w'.cell? ⟨g, k * 3 + 2, none⟩ = some (.slice Ak (d + 1) ck) ∧ g < w'.heap.size) ∧ (w'.cell? ⟨w.heap.size, 0, none⟩ = some (.int .i64 m) ∧ w'.cell? ⟨w.heap.size, 1, none⟩ = some (.int .i64 d) ∧ w'.cell? ⟨w.heap.size, 2, none⟩ = some (.slice A L c) ∧ w.heap.size < w'.heap.size)) (first | exact X0.out | exact el_push hkp j5 HWL.out hpb (by assumption) | exact el_keep hb3 (by assumption) | exact el_keep (below_one _ _) (by assumption)) (first
        | (go_at_call 112; with_reducible refine Calls.mono HTK.out ?_; rintro e w3 ⟨v3, rfl, ho3, hb3⟩; obtain ⟨A3, c3, rfl, -⟩ := ho3.len; rw [hRl] at ho3 ⊢)
        | (refine step_pushK (pre := [.int .i64 m, .int .i64 d]) (e := 55) _ _ _ (by rfl) (by rfl) Tryz.underlying147 g_ne1 g_ne2 (.agg #[.int .i64 0, .int .i64 0, .slice none 0 0]) 40 infoGrid rfl (by decide) (pre_one m d) W.heap.size w3.heap.size g n cg P (by rfl) HPN.out ((HO.out.keep (below_step (below_drew0 wr) hb3)).keep (below_one _ _)) (.slice A3 (d + 1) c3) R ((ho3.low (Nat.le_trans HSZ.out (below_drew0 wr).size)).keep (below_one _ _)) (by simp) w3.heap.size (by rfl) (laid w3 [.int .i64 m, .int .i64 d, .slice A3 (d + 1) c3] _) HLEN.out (Nat.le_trans HSZ.out (below_step (below_step (below_drew0 wr) hb3) (below_one _ _)).size) ?_; intro v' w4 ho4 hpb hkp))
      all_goals
        have HO4 := Lib.hid ho4
        have HB4 := Lib.hid (show Below W.heap.size W w4 from (below_step HBE.out (below_step (below_step (below_drew0 wr) hb3) (below_one w3 (.cells #[.int .i64 m, .int .i64 d, .slice A3 (d + 1) c3] 55)))).trans hpb)
        clear ho4 hpb ho3 hb3
        go_wp2
        go_roundw
        case rel => exact ⟨k + 1, by omega, by go_num, by rw [HST.out]; exact HO4.out, HB4.out⟩
        case measure => simp only [intOf]; omega
    · obtain rfl : k = d := by omega
      clear hown hbel
      go_wp2
      go_ret
      exact ⟨_, rfl, HO.out.more HB.out.size, below_step HB.out HBE.out⟩
end Go.Proofs.YtfhdgcndiljjcabGreat

/- Contracts of the program's look for faults of brackets, and of all faults. -/
namespace Go.Proofs.YtfhdgcndiljjcabGreat
open Go.RowKit Go.WideShapes Go.ChangeShapes Go.ChangeAt
theorem br_bd {m : Int} {d : Nat} {t : List (List Int)} (hs : Pl.Ok m d t) (c a b : Nat) : ∀ k, 0 ≤ Ser.psum (fun i => Pl.pc t i c * Pl.pc (Pl.pwT m d (Pl.pc t) i) a b) k ∧ Ser.psum (fun i => Pl.pc t i c * Pl.pc (Pl.pwT m d (Pl.pc t) i) a b) k ≤ k * 100000000 := by
  intro k
  induction k with
  | zero => exact ⟨Int.le_refl _, Int.le_refl _⟩
  | succ k ih =>
    rw [Ser.psum]
    have h1 := hs.pc k c
    have h2 := (pwT_ok hs.m1 hs.m2 hs.d1 hs.d2 (Pl.pc t) k).pc a b
    have hm := hs.m2
    have h3 := mul_bd (x := Pl.pc t k c) (y := Pl.pc (Pl.pwT m d (Pl.pc t) k) a b) h1.1 (by omega) (by omega) (by omega)
    have h4 : 0 ≤ Pl.pc t k c * Pl.pc (Pl.pwT m d (Pl.pc t) k) a b := Int.mul_nonneg h1.1 h2.1
    omega
set_option maxHeartbeats 8000000 in
set_option maxRecDepth 100000 in
theorem bracketedAt_any (m : Int) (d : Nat) (A : Option Addr) (c : Nat) (t : List (List Int)) (v : Value) (lo : Nat) (a b z : Nat) (w : World) (hs : Pl.Ok m d t) (hr : RP w A t) (hp : OwnT [.int .i64 m, .int .i64 d] 55 w lo v (pwTs m d (Pl.pc t) (d + 1))) (hab : a + b ≤ d) (hz : z ≤ d) :
    Calls Tryz.prog 163 #[.agg #[.int .i64 m, .int .i64 d, .slice A t.length c], v, .int .i64 a, .int .i64 b, .int .i64 z] w fun e w' => e = .returned (.int .i64 (Pl.br m d (Pl.pc t) a b z)) ∧ Below w.heap.size w w' := by
  obtain ⟨b0, off, rfl⟩ := hr.some (by rw [hs.len]; omega)
  have HG1 := Lib.hid (GBox.new 55 w m d (some ⟨b0, off, none⟩) t.length c)
  have HWB := Lib.hid (below_one w (.cells #[.int .i64 m, .int .i64 d, .slice (some ⟨b0, off, none⟩) t.length c] 55))
  have HS := Lib.hid hs
  have hd2 := hs.d2
  have m1 := hs.m1
  have m2 := hs.m2
  have HLR := Lib.hid (fun W => lenRow_any m d z W (by have := hs.d2; omega) hz)
  have HBD := Lib.hid (br_bd hs z a b)
  obtain ⟨f, hf⟩ : ∃ f, (fun i => Pl.pc t i z * Pl.pc (Pl.pwT m d (Pl.pc t) i) a b) = f := ⟨_, rfl⟩
  rw [hf] at HBD
  have HF := Lib.hid (fun i => (congrFun hf i).symm)
  obtain ⟨N, hN⟩ : ∃ N, d - z + 1 = N := ⟨_, rfl⟩
  rw [hN] at HLR
  have HE : Hid (Ser.psum f N % m = Pl.br m d (Pl.pc t) a b z) := Lib.hid (by unfold Pl.br Pl.brS; rw [hf, show d + 1 - z = N by omega])
  have HNN := Lib.hid hN
  have hN1 : N ≤ 11 := by omega
  obtain ⟨L, hL⟩ : ∃ L, t.length = L := ⟨_, rfl⟩
  have HL := Lib.hid hL
  have HLd := Lib.hid (hL.symm.trans hs.len)
  rw [hL] at HG1 HWB ⊢
  obtain ⟨W, hW⟩ : ∃ W, w.alloc (.cells #[.int .i64 m, .int .i64 d, .slice (some ⟨b0, off, none⟩) L c] 55) = W := ⟨_, rfl⟩
  rw [hW] at HG1 HWB
  have HR := Lib.hid (hr.below HWB.out)
  have HP := Lib.hid (hp.keep HWB.out)
  have HW := Lib.hid hW
  have HB := HWB
  have j6 : (0 : Int) ≤ (z : Int) := by omega
  have j7 : (0 : Int) ≤ (a : Int) := by omega
  have j8 : (0 : Int) ≤ (b : Int) := by omega
  obtain ⟨B, hBe⟩ : ∃ B, Pl.br m d (Pl.pc t) a b z = B := ⟨_, rfl⟩
  rw [hBe] at HE ⊢
  clear hs hr hp hL hW hf hN hBe
  obtain ⟨x0, x1, x2, x3⟩ := HG1.out
  go_enter Tryz.func163, Tryz.ntmps163
  go_wp2_with fail
  rw [HW.out]
  refine (HLR.out _).mono ?_
  rintro e w1 ⟨rfl, hb1⟩
  have HB1 := Lib.hid hb1
  clear hb1 x0 x1 x2 x3
  go_wp2
  go_loopw [11, 12, 17] (fun s11 _ q wr => ∃ k : Nat, k ≤ N ∧ q = .int .i64 k ∧ s11 = .int .i64 (Ser.psum f k) ∧ Below W.heap.size W wr) (fun _ _ q _ => N - (intOf q).toNat)
  case atStart => exact ⟨0, Nat.zero_le _, rfl, rfl, HB1.out⟩
  case round =>
    clear HB1
    obtain ⟨k, hk, rfl, rfl, hbel⟩ := hrel
    have HBE := Lib.hid hbel
    by_cases hlt : k < N
    · have hNN := HNN.out
      obtain ⟨p1, p2, p3, M, hM, x1, x2, x3⟩ := (HG1.out.keep hbel).num' HL.out HS.out (HR.out.below hbel) k z (by omega)
      obtain ⟨g, cg, Ak, ck, hv, k0, klo, -, -, k3, k4⟩ := (HP.out.keep hbel).grid k (by rw [pwTs_length]; omega)
      rw [pwTs_get _ _ _ _ _ (by omega), Pl.pwT_length] at k3
      rw [pwTs_get _ _ _ _ _ (by omega)] at k4
      rw [pwTs_length] at hv
      have hpk := pwT_ok m1 m2 HS.out.d1 hd2 (Pl.pc t) k
      obtain ⟨b4, off4, b5, off5, c5, e4, -, k5, -, k6⟩ := k4.num a b (by rw [Pl.pwT_length]; omega) (by rw [hpk.row a (by omega)]; omega)
      subst e4
      rw [hpk.row a (by omega)] at k5
      have h0 := HBD.out k
      have h1 := HBD.out (k + 1)
      rw [Ser.psum] at h1
      have hfk := HF.out k
      have r1 := HS.out.pc k z
      have r2 := hpk.pc a b
      obtain ⟨X, hX⟩ : ∃ X, Pl.pc t k z = X := ⟨_, rfl⟩
      obtain ⟨Y, hY⟩ : ∃ Y, Pl.pc (Pl.pwT m d (Pl.pc t) k) a b = Y := ⟨_, rfl⟩
      rw [hX] at x3 hfk r1
      rw [hY] at k6 hfk r2
      have hst : Ser.psum f (k + 1) = Ser.psum f k + X * Y := by rw [Ser.psum, hfk]
      rw [hfk] at h1
      obtain ⟨P, hP⟩ : ∃ P, Ser.psum f k = P := ⟨_, rfl⟩
      rw [hP] at h0 h1 hst
      obtain ⟨q1, q2⟩ := mul_bd (x := X) (y := Y) r1.1 (by omega) (by omega) (by omega)
      have q3 : 0 ≤ X * Y := Int.mul_nonneg r1.1 r2.1
      obtain ⟨M5, hM5⟩ : ∃ M, d - a + 1 = M := ⟨_, rfl⟩
      rw [hM5] at k5
      obtain ⟨D, hD⟩ : ∃ D, d + 1 = D := ⟨_, rfl⟩
      rw [hD] at k3 hv
      have hLd := HLd.out
      have j0 : (0 : Int) ≤ (k : Int) := by omega
      have j1 : (k : Int) < (L : Int) := by omega
      have j2 : (z : Int) < (M : Int) := by omega
      have j3 : (k : Int) < (D : Int) := by omega
      have j4 : (a : Int) < (D : Int) := by omega
      have j5 : (b : Int) < (M5 : Int) := by omega
      have w1' : IntKind.i64.wrap (X * Y) = X * Y := by rw [IntKind.wrap_i64]; omega
      have w2' : IntKind.i64.wrap (P + X * Y) = P + X * Y := by rw [IntKind.wrap_i64]; omega
      have HST := Lib.hid hst
      have HPP := Lib.hid hP
      subst hv
      clear hst hX hY hfk hpk k4 hbel hM hM5 hD hNN hLd r1 r2 h0 h1 q1 q2 q3 hP
      rw [HPP.out]
      go_wp2
      go_quiet (fail)
      go_wp2
      go_roundw
      case rel => exact ⟨k + 1, by omega, by go_num, by rw [HST.out], below_drewN HBE.out _⟩
      case measure => simp only [intOf]; omega
    · obtain rfl : k = N := by omega
      obtain ⟨x0, x1, x2, x3⟩ := HG1.out.keep hbel
      have h0 := HBD.out k
      have he := HE.out
      obtain ⟨P, hP⟩ : ∃ P, Ser.psum f k = P := ⟨_, rfl⟩
      rw [hP] at h0 he ⊢
      have HEE := Lib.hid he
      clear hbel hP he HE
      go_wp2_with (first | (go_at_call 142; refine (remainder_any _ _ _ (by omega) m2 (by omega) (by omega)).mono ?_; rintro e w' ⟨rfl, rfl⟩))
      go_ret
      exact ⟨ret_int HEE.out, below_step HB.out HBE.out⟩
/-! the triples -/
namespace Pl
theorem fau2_in {m : Int} {d : Nat} {F : Nat → Nat → Int} {a : Nat} {o : Option (List Int)} (ha : a < d + 1) (h : srch (fau2 m d F) (d + 1 - a) a = o) :
    orE (srch (fau2b m d F a) (d + 1 - a) 0) (srch (fau2 m d F) (d + 1 - (a + 1)) (a + 1)) = o := by
  rw [show d + 1 - a = (d + 1 - (a + 1)) + 1 by omega, srch_step] at h
  unfold fau2 at h
  exact h
theorem fau2b_in {m : Int} {d : Nat} {F : Nat → Nat → Int} {a b : Nat} {r o : Option (List Int)} (hb : a + b < d + 1) (h : orE (srch (fau2b m d F a) (d + 1 - a - b) b) r = o) :
    orE (srch (fau2c m d F a b) (d + 1 - (a + b)) 0) (orE (srch (fau2b m d F a) (d + 1 - a - (b + 1)) (b + 1)) r) = o := by
  rw [show d + 1 - a - b = (d + 1 - a - (b + 1)) + 1 by omega, srch_step] at h
  unfold fau2b at h ⊢
  rw [← h]
  generalize srch (fau2c m d F a b) (d + 1 - (a + b)) 0 = p
  cases p <;> rfl
theorem fau2b_out {m : Int} {d : Nat} {F : Nat → Nat → Int} {a b : Nat} {r o : Option (List Int)} (hb : ¬ a + b < d + 1) (h : orE (srch (fau2b m d F a) (d + 1 - a - b) b) r = o) : r = o := by
  rw [show d + 1 - a - b = 0 by omega] at h
  exact h
theorem fau2c_go {m : Int} {d : Nat} {F : Nat → Nat → Int} {a b c : Nat} {r o : Option (List Int)} (hc : a + b + c < d + 1) (h : orE (srch (fau2c m d F a b) (d + 1 - (a + b) - c) c) r = o) (hx : br m d F a b c = br m d F c b a) : orE (srch (fau2c m d F a b) (d + 1 - (a + b) - (c + 1)) (c + 1)) r = o := by
  rw [show d + 1 - (a + b) - c = (d + 1 - (a + b) - (c + 1)) + 1 by omega, srch_step] at h
  unfold fau2c at h
  rw [if_pos hx, orE_none] at h
  exact h
theorem fau2c_no {m : Int} {d : Nat} {F : Nat → Nat → Int} {a b c : Nat} {r o : Option (List Int)} (hc : a + b + c < d + 1) (h : orE (srch (fau2c m d F a b) (d + 1 - (a + b) - c) c) r = o) (hx : ¬ br m d F a b c = br m d F c b a) : o = some [2, (a : Int), (b : Int), (c : Int)] := by
  rw [show d + 1 - (a + b) - c = (d + 1 - (a + b) - (c + 1)) + 1 by omega, srch_step] at h
  unfold fau2c at h
  rw [if_neg hx, orE_some, orE_some] at h
  exact h.symm
theorem fau2c_out {m : Int} {d : Nat} {F : Nat → Nat → Int} {a b c : Nat} {r o : Option (List Int)} (hc : ¬ a + b + c < d + 1) (h : orE (srch (fau2c m d F a b) (d + 1 - (a + b) - c) c) r = o) : r = o := by
  rw [show d + 1 - (a + b) - c = 0 by omega] at h
  exact h
end Pl
/-- a grid's box in the walk's form is kept -/
theorem gb_keep {w w' : World} {g : Nat} {x y z : Value} (hb : Below w.heap.size w w') (h : w.cell? ⟨g, 0, none⟩ = some x ∧ w.cell? ⟨g, 1, none⟩ = some y ∧ w.cell? ⟨g, 2, none⟩ = some z ∧ g < w.heap.size) :
    w'.cell? ⟨g, 0, none⟩ = some x ∧ w'.cell? ⟨g, 1, none⟩ = some y ∧ w'.cell? ⟨g, 2, none⟩ = some z ∧ g < w'.heap.size :=
  ⟨(hb.cell (p := ⟨g, 0, none⟩) h.2.2.2).trans h.1, (hb.cell (p := ⟨g, 1, none⟩) h.2.2.2).trans h.2.1, (hb.cell (p := ⟨g, 2, none⟩) h.2.2.2).trans h.2.2.1, Nat.lt_of_lt_of_le h.2.2.2 hb.size⟩
theorem gbb_keep {w0 w w' : World} {g : Nat} {x y z : Value} (hb : Below w.heap.size w w') (h : (w.cell? ⟨g, 0, none⟩ = some x ∧ w.cell? ⟨g, 1, none⟩ = some y ∧ w.cell? ⟨g, 2, none⟩ = some z ∧ g < w.heap.size) ∧ Below w0.heap.size w0 w) :
    (w'.cell? ⟨g, 0, none⟩ = some x ∧ w'.cell? ⟨g, 1, none⟩ = some y ∧ w'.cell? ⟨g, 2, none⟩ = some z ∧ g < w'.heap.size) ∧ Below w0.heap.size w0 w' := ⟨gb_keep hb h.1, below_step h.2 hb⟩
theorem snd2 {p q : Prop} (h : p ∧ q) : q := h.2
set_option maxHeartbeats 8000000 in
set_option maxRecDepth 100000 in
theorem wrongTriple_any (m : Int) (d : Nat) (A : Option Addr) (c : Nat) (t : List (List Int)) (w : World) (hs : Pl.Ok m d t) (hr : RP w A t) :
    Calls Tryz.prog 151 #[.agg #[.int .i64 m, .int .i64 d, .slice A t.length c]] w fun e w' => ∃ v, e = .returned v ∧ FauV w' w.heap.size v (Pl.fauT m d (Pl.pc t)) ∧ Below w.heap.size w w' := by
  have HG1 := Lib.hid (GBox.new 55 w m d A t.length c)
  have HWB := Lib.hid (below_one w (.cells #[.int .i64 m, .int .i64 d, .slice A t.length c] 55))
  have hd2 := hs.d2
  have HLR := Lib.hid (fun (k : Nat) W (hk : k ≤ d) => lenRow_any m d k W (by have := hs.d2; omega) hk)
  have HBR := Lib.hid (fun (v : Value) (lo a b z : Nat) (W0 : World) (h : RP W0 A t) (h' : OwnT [.int .i64 m, .int .i64 d] 55 W0 lo v (pwTs m d (Pl.pc t) (d + 1))) (hab : a + b ≤ d) (hz : z ≤ d) => bracketedAt_any m d A c t v lo a b z W0 hs h h' hab hz)
  obtain ⟨o, ho⟩ : ∃ o, Pl.fauT m d (Pl.pc t) = o := ⟨_, rfl⟩
  have HO := Lib.hid (show Pl.srch (Pl.fau2 m d (Pl.pc t)) (d + 1 - 0) 0 = o from ho)
  rw [ho]
  have HPW := Lib.hid (fun W0 (h : RP W0 A t) => powers_any m d A c t W0 hs h)
  obtain ⟨L, hL⟩ : ∃ L, t.length = L := ⟨_, rfl⟩
  rw [hL] at HG1 HWB HBR HPW ⊢
  obtain ⟨W, hW⟩ : ∃ W, w.alloc (.cells #[.int .i64 m, .int .i64 d, .slice A L c] 55) = W := ⟨_, rfl⟩
  rw [hW] at HG1 HWB
  have HR := Lib.hid (hr.below HWB.out)
  have HW := Lib.hid hW
  have HB := HWB
  clear hs hr hL hW ho
  obtain ⟨x0, x1, x2, x3⟩ := HG1.out
  go_enter Tryz.func151, Tryz.ntmps151
  go_wp2_with fail
  rw [HW.out]
  refine (HPW.out _ HR.out).mono ?_
  rintro e w1 ⟨v, rfl, hp, hb1⟩
  obtain ⟨Av, cv, rfl⟩ := hp.form
  have HP := Lib.hid hp
  obtain ⟨V, hV⟩ : ∃ V, Value.slice Av (pwTs m d (Pl.pc t) (d + 1)).length cv = V := ⟨_, rfl⟩
  rw [hV] at HP
  have HV := Lib.hid hV
  have HB1 := Lib.hid hb1
  clear x0 x1 x2 x3 hp hV
  obtain ⟨x0, x1, x2, x3⟩ := HG1.out.keep hb1
  rw [HV.out]
  go_wp2
  clear x0 x1 x2 x3 hb1
  go_loopw [4, 5, 6, 13] (fun _ _ _ q wr => ∃ a : Nat, a ≤ d + 1 ∧ q = .int .i64 a ∧ Pl.srch (Pl.fau2 m d (Pl.pc t)) (d + 1 - a) a = o ∧ Below w1.heap.size w1 wr) (fun _ _ _ q _ => d + 1 - (intOf q).toNat)
  case atStart => exact ⟨0, Nat.zero_le _, rfl, HO.out, Below.refl _ _⟩
  case round =>
    clear HO
    obtain ⟨a, ha, rfl, hso, hbel⟩ := hrel
    have HBE := Lib.hid hbel
    by_cases hlt : a < d + 1
    · have HIN := Lib.hid (Pl.fau2_in hlt hso)
      have HLK := Lib.hid (fun W => HLR.out a W (by omega))
      obtain ⟨N, hN⟩ : ∃ N, d - a + 1 = N := ⟨_, rfl⟩
      rw [hN] at HLK
      have HNN := Lib.hid hN
      have hN1 : N ≤ 11 := by omega
      have j1 : (a : Int) < (d : Int) + 1 := by omega
      obtain ⟨r, hr⟩ : ∃ r, Pl.srch (Pl.fau2 m d (Pl.pc t)) (d + 1 - (a + 1)) (a + 1) = r := ⟨_, rfl⟩
      rw [hr] at HIN
      have HRR := Lib.hid hr
      obtain ⟨x0, x1, x2, x3⟩ := HG1.out.keep (below_step HB1.out HBE.out)
      clear hN hso hr hbel
      go_wp2_with fail
      refine (HLK.out _).mono ?_
      rintro e w2 ⟨rfl, hb2⟩
      have HB2 := Lib.hid (below_step HBE.out hb2)
      clear hb2 x0 x1 x2 x3
      go_wp2
      go_loopw [5, 6, 20] (fun _ _ q wr => ∃ b : Nat, b ≤ N ∧ q = .int .i64 b ∧ Pl.orE (Pl.srch (Pl.fau2b m d (Pl.pc t) a) (d + 1 - a - b) b) r = o ∧ Below w1.heap.size w1 wr) (fun _ _ q _ => N - (intOf q).toNat)
      case atStart => exact ⟨0, Nat.zero_le _, rfl, HIN.out, HB2.out⟩
      case round =>
        clear HIN HBE HB2
        obtain ⟨b, hb, rfl, hso, hbel⟩ := hrel
        have HBE := Lib.hid hbel
        have hNN := HNN.out
        by_cases hltb : b < N
        · have HIN := Lib.hid (Pl.fau2b_in (show a + b < d + 1 by omega) hso)
          have HLB := Lib.hid (fun W => HLR.out (a + b) W (by omega))
          have hcast : ((a + b : Nat) : Int) = (a : Int) + (b : Int) := by omega
          rw [hcast] at HLB
          obtain ⟨M, hM⟩ : ∃ M, d - (a + b) + 1 = M := ⟨_, rfl⟩
          rw [hM] at HLB
          have HMM := Lib.hid hM
          have hM1 : M ≤ 11 := by omega
          have j2 : (b : Int) < (N : Int) := by omega
          obtain ⟨r2, hr2⟩ : ∃ r2, Pl.orE (Pl.srch (Pl.fau2b m d (Pl.pc t) a) (d + 1 - a - (b + 1)) (b + 1)) r = r2 := ⟨_, rfl⟩
          rw [hr2] at HIN
          have HRR2 := Lib.hid hr2
          obtain ⟨x0, x1, x2, x3⟩ := HG1.out.keep (below_step HB1.out HBE.out)
          clear hM hso hr2 hbel hNN hcast
          go_wp2_with fail
          refine (HLB.out _).mono ?_
          rintro e w2 ⟨rfl, hb2⟩
          have HB2 := Lib.hid (below_step HBE.out hb2)
          clear hb2 x0 x1 x2 x3
          go_wp2
          go_loopw [6, 29] (fun _ q wr => ∃ z : Nat, z ≤ M ∧ q = .int .i64 z ∧ Pl.orE (Pl.srch (Pl.fau2c m d (Pl.pc t) a b) (d + 1 - (a + b) - z) z) r2 = o ∧ Below w1.heap.size w1 wr) (fun _ q _ => M - (intOf q).toNat)
          case atStart => exact ⟨0, Nat.zero_le _, rfl, HIN.out, HB2.out⟩
          case round =>
            clear HIN HBE HB2
            obtain ⟨z, hz, rfl, hso, hbel⟩ := hrel
            have HBE := Lib.hid hbel
            have hNN := HNN.out
            have hMM := HMM.out
            by_cases hltz : z < M
            · have hgo := Pl.fau2c_go (show a + b + z < d + 1 by omega) hso
              have hno := Pl.fau2c_no (show a + b + z < d + 1 by omega) hso
              have H1 := Lib.hid (fun W0 (h : Below w1.heap.size w1 W0) => HBR.out V W.heap.size a b z W0 ((HR.out.below HB1.out).below h) (HP.out.keep h) (by omega) (by omega))
              have H2 := Lib.hid (fun W0 (h : Below w1.heap.size w1 W0) => HBR.out V W.heap.size z b a W0 ((HR.out.below HB1.out).below h) (HP.out.keep h) (by omega) (by omega))
              obtain ⟨X, hX⟩ : ∃ X, Pl.br m d (Pl.pc t) a b z = X := ⟨_, rfl⟩
              obtain ⟨Y, hY⟩ : ∃ Y, Pl.br m d (Pl.pc t) z b a = Y := ⟨_, rfl⟩
              rw [hX] at H1
              rw [hY] at H2
              rw [hX, hY] at hgo hno
              have X0 := Lib.hid (gbb_keep (below_drew0 wr) ⟨HG1.out.keep (below_step HB1.out hbel), hbel⟩)
              have hz1 : z ≤ 11 := by omega
              clear hX hY hso hbel hNN hMM
              by_cases hxy : X = Y
              · have HNX := Lib.hid (hgo hxy)
                subst hxy
                clear hgo hno
                go_wp2
                go_region_held3 (fun w' => (w'.cell? ⟨w.heap.size, 0, none⟩ = some (.int .i64 m) ∧ w'.cell? ⟨w.heap.size, 1, none⟩ = some (.int .i64 d) ∧ w'.cell? ⟨w.heap.size, 2, none⟩ = some (.slice A L c) ∧ w.heap.size < w'.heap.size) ∧ Below w1.heap.size w1 w') (first | exact X0.out | exact gbb_keep hb5 (by assumption) | exact gbb_keep hb4 (by assumption)) (first
                  | (go_at_call 163; with_reducible refine Calls.mono (H1.out _ (snd2 (by assumption))) ?_; rintro e w4 ⟨rfl, hb4⟩)
                  | (go_at_call 163; with_reducible refine Calls.mono (H2.out _ (snd2 (by assumption))) ?_; rintro e w5 ⟨rfl, hb5⟩))
                all_goals
                  have HB9 := Lib.hid (show Below w1.heap.size w1 _ from snd2 (by assumption))
                  clear hb4 hb5
                  go_wp2
                  go_roundw
                  case rel => exact ⟨z + 1, by omega, by go_num, HNX.out, HB9.out⟩
                  case measure => simp only [intOf]; omega
              · have HNX := Lib.hid (hno hxy)
                obtain ⟨n1, n2⟩ : (X == Y) = false ∧ (X != Y) = true := ⟨by simpa using hxy, by simpa using hxy⟩
                clear hgo hno
                go_wp2
                go_region_held3 (fun w' => (w'.cell? ⟨w.heap.size, 0, none⟩ = some (.int .i64 m) ∧ w'.cell? ⟨w.heap.size, 1, none⟩ = some (.int .i64 d) ∧ w'.cell? ⟨w.heap.size, 2, none⟩ = some (.slice A L c) ∧ w.heap.size < w'.heap.size) ∧ Below w1.heap.size w1 w') (first | exact X0.out | exact gbb_keep hb5 (by assumption) | exact gbb_keep hb4 (by assumption)) (first
                  | (go_at_call 163; with_reducible refine Calls.mono (H1.out _ (snd2 (by assumption))) ?_; rintro e w4 ⟨rfl, hb4⟩)
                  | (go_at_call 163; with_reducible refine Calls.mono (H2.out _ (snd2 (by assumption))) ?_; rintro e w5 ⟨rfl, hb5⟩))
                all_goals
                  have HB9 := Lib.hid (show Below w1.heap.size w1 _ from snd2 (by assumption))
                  clear hb4 hb5
                  go_wp2
                  go_ret
                  exact ⟨_, rfl, by rw [HNX.out]; exact ⟨_, _, rfl, (OwnI.lit4 _ 2 (a : Int) (b : Int) (z : Int)).more (below_step (below_step HB.out HB1.out) HB9.out).size⟩, below_step (below_step HB.out HB1.out) (below_alloc _ HB9.out)⟩
            · have HNX := Lib.hid (HRR2.out.trans (Pl.fau2c_out (show ¬ a + b + z < d + 1 by omega) hso))
              have j3 : ¬ (z : Int) < (M : Int) := by omega
              clear hso hbel hNN hMM
              go_wp2
              go_roundw
              case rel => exact ⟨b + 1, by omega, by go_num, HNX.out, HBE.out⟩
              case measure => simp only [intOf]; omega
        · have HNX := Lib.hid (HRR.out.trans (Pl.fau2b_out (show ¬ a + b < d + 1 by omega) hso))
          have j3 : ¬ (b : Int) < (N : Int) := by omega
          clear hso hbel hNN
          go_wp2
          go_roundw
          case rel => exact ⟨a + 1, by omega, by go_num, HNX.out, HBE.out⟩
          case measure => simp only [intOf]; omega
    · obtain rfl : a = d + 1 := by omega
      rw [Nat.sub_self] at hso
      have HNO := Lib.hid (show o = none from hso.symm)
      clear hso hbel
      go_wp2
      go_ret
      exact ⟨_, rfl, by rw [HNO.out]; exact rfl, below_step (below_step HB.out HB1.out) HBE.out⟩
set_option maxHeartbeats 4000000 in
set_option maxRecDepth 100000 in
theorem fault_any (m : Int) (d : Nat) (A : Option Addr) (c : Nat) (t : List (List Int)) (w : World) (hs : Pl.Ok m d t) (hr : RP w A t) :
    Calls Tryz.prog 126 #[.agg #[.int .i64 m, .int .i64 d, .slice A t.length c]] w fun e w' => ∃ v, e = .returned v ∧ FauV w' w.heap.size v (Pl.fau m d (Pl.pc t)) ∧ Below w.heap.size w w' := by
  have HG1 := Lib.hid (GBox.new 55 w m d A t.length c)
  have HWB := Lib.hid (below_one w (.cells #[.int .i64 m, .int .i64 d, .slice A t.length c] 55))
  have H1 := Lib.hid (fun W0 (h : RP W0 A t) => wrongPower_any m d A c t W0 hs h)
  have H2 := Lib.hid (fun W0 (h : RP W0 A t) => wrongPair_any m d A c t W0 hs h)
  have H3 := Lib.hid (fun W0 (h : RP W0 A t) => wrongTriple_any m d A c t W0 hs h)
  unfold Pl.fau
  obtain ⟨o1, ho1⟩ : ∃ o, Pl.fauP d (Pl.pc t) = o := ⟨_, rfl⟩
  obtain ⟨o2, ho2⟩ : ∃ o, Pl.fauS d (Pl.pc t) = o := ⟨_, rfl⟩
  obtain ⟨o3, ho3⟩ : ∃ o, Pl.fauT m d (Pl.pc t) = o := ⟨_, rfl⟩
  rw [ho1] at H1 ⊢
  rw [ho2] at H2 ⊢
  rw [ho3] at H3 ⊢
  obtain ⟨L, hL⟩ : ∃ L, t.length = L := ⟨_, rfl⟩
  rw [hL] at HG1 HWB H1 H2 H3 ⊢
  obtain ⟨W, hW⟩ : ∃ W, w.alloc (.cells #[.int .i64 m, .int .i64 d, .slice A L c] 55) = W := ⟨_, rfl⟩
  rw [hW] at HG1 HWB
  have HR := Lib.hid (hr.below HWB.out)
  have HW := Lib.hid hW
  have HB := HWB
  clear hs hr hL hW ho1 ho2 ho3
  obtain ⟨x0, x1, x2, x3⟩ := HG1.out
  go_enter Tryz.func126, Tryz.ntmps126
  go_wp2_with fail
  rw [HW.out]
  refine (H1.out _ HR.out).mono ?_
  rintro e w1 ⟨v1, rfl, hf1, hb1⟩
  cases o1 with
  | some x =>
    obtain ⟨b, cb, rfl, hown⟩ := hf1
    have HO := Lib.hid (hown.more HB.out.size)
    have HB1 := Lib.hid (below_step HB.out hb1)
    clear hown hb1 x0 x1 x2 x3
    go_wp2
    go_ret
    exact ⟨_, rfl, ⟨_, _, rfl, HO.out⟩, HB1.out⟩
  | none =>
    subst hf1
    have HB1 := Lib.hid hb1
    clear x0 x1 x2 x3 hb1
    obtain ⟨x0, x1, x2, x3⟩ := HG1.out.keep HB1.out
    go_wp2_with fail
    refine (H2.out _ (HR.out.below HB1.out)).mono ?_
    rintro e w2 ⟨v2, rfl, hf2, hb2⟩
    have HB2 := Lib.hid (below_step HB1.out hb2)
    clear x0 x1 x2 x3 hb2
    cases o2 with
    | some x =>
      obtain ⟨b, cb, rfl, hown⟩ := hf2
      have HO := Lib.hid (hown.more (below_step HB.out HB1.out).size)
      clear hown
      go_wp2
      go_ret
      exact ⟨_, rfl, ⟨_, _, rfl, HO.out⟩, below_step HB.out HB2.out⟩
    | none =>
      subst hf2
      obtain ⟨x0, x1, x2, x3⟩ := HG1.out.keep HB2.out
      go_wp2_with fail
      refine (H3.out _ (HR.out.below HB2.out)).mono ?_
      rintro e w3 ⟨v3, rfl, hf3, hb3⟩
      have HB3 := Lib.hid (below_step (below_step HB.out HB2.out) hb3)
      have HF : Hid (FauV w3 w.heap.size v3 o3) := Lib.hid (by
        cases o3 with
        | none => exact hf3
        | some x =>
          obtain ⟨b, cb, rfl, hown⟩ := hf3
          exact ⟨b, cb, rfl, hown.more (below_step HB.out HB2.out).size⟩)
      clear hf3 hb3 x0 x1 x2 x3
      go_wp2
      go_ret
      exact ⟨_, rfl, HF.out, HB3.out⟩
end Go.Proofs.YtfhdgcndiljjcabGreat

/- Contracts of IsLaw and LawFault, of the program. -/
namespace Go.Proofs.YtfhdgcndiljjcabGreat
open Go.RowKit Go.WideShapes Go.ChangeShapes Go.ChangeAt
/-- a table is a law's -/
def isL (m : Int) (t : List (List Int)) : Bool := isP m t && (Pl.fau m (t.length - 1) (Pl.pc t)).isNone
theorem isL_no {m : Int} {t : List (List Int)} (h : isP m t = false) : isL m t = false := by unfold isL; rw [h]; rfl
theorem isL_fau {m : Int} {t : List (List Int)} {d : Nat} (h : isP m t = true) (e : t.length = d + 1) : isL m t = (Pl.fau m d (Pl.pc t)).isNone := by
  unfold isL; rw [h, e]; rfl
theorem isL_of {m : Int} {t : List (List Int)} (h : isL m t = true) : isP m t = true ∧ ∃ d, t.length = d + 1 ∧ Pl.Ok m d t ∧ Pl.fau m d (Pl.pc t) = none := by
  unfold isL at h
  rw [Bool.and_eq_true] at h
  obtain ⟨h1, h2⟩ := h
  obtain ⟨d, e, ok⟩ := plOk_of h1
  refine ⟨h1, d, e, ok, ?_⟩
  rw [e] at h2
  simpa using h2
theorem fau_len {m : Int} {d : Nat} {F : Nat → Nat → Int} {x : List Int} (h : Pl.fau m d F = some x) : 0 < x.length ∧ x.length ≤ 4 := by
  have key : ∀ (p : Nat → Option (List Int)) (q : List Int → Prop), (∀ i y, p i = some y → q y) → ∀ n k y, Pl.srch p n k = some y → q y := by
    intro p q hp n
    induction n with
    | zero => intro k y hy; exact absurd hy (by simp [Pl.srch])
    | succ n ih =>
      intro k y hy
      rw [Pl.srch_step] at hy
      cases hc : p k with
      | none => rw [hc] at hy; exact ih (k + 1) y hy
      | some z => rw [hc] at hy; injection hy with hy; subst hy; exact hp k z hc
  unfold Pl.fau at h
  cases h1 : Pl.fauP d F with
  | some y =>
    rw [h1] at h; injection h with h; subst h
    exact key _ (fun y => 0 < y.length ∧ y.length ≤ 4) (fun i y hy => by
      unfold Pl.fau0 at hy
      split at hy
      · cases hy
      · injection hy with hy; subst hy; simp) _ _ _ h1
  | none =>
    rw [h1, Pl.orE_none] at h
    cases h2 : Pl.fauS d F with
    | some y =>
      rw [h2] at h; injection h with h; subst h
      exact key _ (fun y => 0 < y.length ∧ y.length ≤ 4) (fun i y hy => key _ (fun y => 0 < y.length ∧ y.length ≤ 4) (fun j z hz => by
        unfold Pl.fau1j at hz
        split at hz
        · cases hz
        · injection hz with hz; subst hz; simp) _ _ _ hy) _ _ _ h2
    | none =>
      rw [h2, Pl.orE_none] at h
      exact key _ (fun y => 0 < y.length ∧ y.length ≤ 4) (fun i y hy => key _ (fun y => 0 < y.length ∧ y.length ≤ 4) (fun j z hz => key _ (fun y => 0 < y.length ∧ y.length ≤ 4) (fun l u hu => by
        unfold Pl.fau2c at hu
        split at hu
        · cases hu
        · injection hu with hu; subst hu; simp) _ _ _ hz) _ _ _ hy) _ _ _ h
set_option maxHeartbeats 4000000 in
set_option maxRecDepth 100000 in
theorem IsLaw_any (m : Int) (A : Option Addr) (c : Nat) (t : List (List Int)) (w : World) (hz : szT t ≤ 1048576) (hr : RP w A t) :
    Calls Tryz.prog 91 #[.agg #[.int .i64 m, .slice A t.length c]] w fun e w' => e = .returned (.bool (isL m t)) ∧ Below w.heap.size w w' := by
  obtain ⟨W, hW, b1, hwb⟩ := start1 29 w m A t.length c
  have B1 := Lib.hid b1
  have HB := Lib.hid hwb
  have HW := Lib.hid hW
  have HI := Lib.hid (fun W0 (h : Below W.heap.size W W0) => IsPlane_any m A c t W0 hz ((hr.below hwb).below h))
  by_cases h0 : isP m t = true
  · obtain ⟨d, e1, ok⟩ := plOk_of h0
    have HG := Lib.hid (fun W0 => gridOf_nat m A t.length c d W0 e1 (by have := ok.d2; omega))
    have HF := Lib.hid (fun W0 (h : Below W.heap.size W W0) => fault_any m d A c t W0 ok ((hr.below hwb).below h))
    rw [isL_fau h0 e1]
    rw [h0] at HI
    obtain ⟨o, ho⟩ : ∃ o, Pl.fau m d (Pl.pc t) = o := ⟨_, rfl⟩
    rw [ho] at HF ⊢
    obtain ⟨L, hL⟩ : ∃ L, t.length = L := ⟨_, rfl⟩
    rw [hL] at HG HF HI HW B1 ⊢
    clear b1 hwb hW hr h0 ok e1 hz hL ho
    have heq : ∀ (a : Option Addr) (n c : Nat) (W0 : World), (binOp .eql 26 (.slice a n c) (.slice none 0 0)).run Tryz.prog W0 = .ok (.bool a.isNone) W0 := fun a n c W0 => Lib.run_eql_slice_nil _ _ _ _ _ _ _ _ Tryz.underlying26
    go_enter Tryz.func91, Tryz.ntmps91
    go_wp2_with fail
    rw [HW.out]
    refine (HI.out _ (Below.refl _ _)).mono ?_
    rintro e w1 ⟨rfl, hb1⟩
    obtain ⟨x1, x2, x3⟩ := B1.out.keep hb1
    go_wp2_with fail
    refine (HG.out _).mono ?_
    rintro e w2 ⟨rfl, hb2⟩
    go_wp2_with fail
    refine (HF.out _ (below_step hb1 hb2)).mono ?_
    rintro e w3 ⟨v, rfl, hf, hb3⟩
    have HB3 := Lib.hid (below_step HB.out (below_step (below_step hb1 hb2) hb3))
    clear hb1 hb2 hb3 x1 x2 x3
    cases o with
    | none =>
      subst hf
      go_wp2
      go_ret
      exact ⟨rfl, HB3.out⟩
    | some x =>
      obtain ⟨b, cb, rfl, -⟩ := hf
      go_wp2
      go_ret
      exact ⟨rfl, HB3.out⟩
  · have h0' : isP m t = false := by simpa using h0
    rw [isL_no h0']
    rw [h0'] at HI
    obtain ⟨L, hL⟩ : ∃ L, t.length = L := ⟨_, rfl⟩
    rw [hL] at HI HW B1 ⊢
    clear b1 hwb hW hr h0 h0' hz hL
    go_enter Tryz.func91, Tryz.ntmps91
    go_wp2_with fail
    rw [HW.out]
    refine (HI.out _ (Below.refl _ _)).mono ?_
    rintro e w1 ⟨rfl, hb1⟩
    go_wp2
    go_ret
    exact ⟨rfl, below_step HB.out hb1⟩
end Go.Proofs.YtfhdgcndiljjcabGreat

/- Contracts of the codes of a plane and one series, of the program and of the model. -/
namespace Go.Proofs.YtfhdgcndiljjcabGreat
open Go.RowKit Go.WideShapes Go.ChangeShapes Go.ChangeAt
end Go.Proofs.YtfhdgcndiljjcabGreat

/- Lists of series that a call takes: where they lie; contracts of the codes of a plane and such a list, of the program and of the model. -/
namespace Go.Proofs.YtfhdgcndiljjcabGreat
open Go.RowKit Go.WideShapes Go.ChangeShapes Go.ChangeAt
/-- block g holds series, one after the other: modulus, address, capacity, numbers -/
def SL (w : World) (g : Nat) (xs : List (Int × Option Addr × Nat × List Int)) : Prop :=
  g < w.heap.size ∧ ∀ k m A c l, xs[k]? = some (m, A, c, l) → w.cell? ⟨g, k * 2, none⟩ = some (.int .i64 m) ∧ w.cell? ⟨g, k * 2 + 1, none⟩ = some (.slice A l.length c) ∧ RI w A l ∧ l.length ≤ 1048576
theorem SL.keep {w w' : World} {g : Nat} {xs : List (Int × Option Addr × Nat × List Int)} (h : SL w g xs) (hb : Below w.heap.size w w') : SL w' g xs :=
  ⟨Nat.lt_of_lt_of_le h.1 hb.size, fun k m A c l hx => by
    obtain ⟨a, b, r, z⟩ := h.2 k m A c l hx
    exact ⟨(hb.cell (p := ⟨g, k * 2, none⟩) h.1).trans a, (hb.cell (p := ⟨g, k * 2 + 1, none⟩) h.1).trans b, r.below hb, z⟩⟩
theorem SL.one {w : World} {g : Nat} {m : Int} {A : Option Addr} {c : Nat} {l : List Int} (hx : Box w g m A l.length c) (hr : RI w A l) (hl : l.length ≤ 1048576) : SL w g [(m, A, c, l)] :=
  ⟨hx.2.2, fun k m' A' c' l' h => by
    match k, h with
    | 0, h =>
      simp at h
      obtain ⟨rfl, rfl, rfl, rfl⟩ := h
      exact ⟨hx.1, hx.2.1, hr, hl⟩⟩
theorem SL.two {w : World} {g : Nat} {m : Int} {A : Option Addr} {c : Nat} {l : List Int} {m' : Int} {A' : Option Addr} {c' : Nat} {l' : List Int} (hx : Box4 w g m A l.length c m' A' l'.length c') (hr : RI w A l) (hr' : RI w A' l') (hl : l.length ≤ 1048576) (hl' : l'.length ≤ 1048576) :
    SL w g [(m, A, c, l), (m', A', c', l')] :=
  ⟨hx.1.2.2, fun k m0 A0 c0 l0 h => by
    match k, h with
    | 0, h =>
      simp at h
      obtain ⟨rfl, rfl, rfl, rfl⟩ := h
      exact ⟨hx.1.1, hx.1.2.1, hr, hl⟩
    | 1, h =>
      simp at h
      obtain ⟨rfl, rfl, rfl, rfl⟩ := h
      exact ⟨hx.2.1, hx.2.2, hr', hl'⟩⟩
theorem and_t {a b : Bool} (h : a = true) (k : b = true) : (a && b) = true := by rw [h, k]; rfl
theorem all_take {α : Type} (f : α → Bool) (xs : List α) (k : Nat) (x : α) (h : xs[k]? = some x) : (xs.take (k + 1)).all f = ((xs.take k).all f && f x) := by
  have hk := (List.getElem?_eq_some_iff.1 h).1
  rw [List.take_add_one, h, List.all_append]; simp
theorem all_bad {α : Type} (f : α → Bool) (xs : List α) (k : Nat) (x : α) (h : xs[k]? = some x) (hf : f x = false) : xs.all f = false := by
  rw [List.all_eq_false]
  exact ⟨x, List.mem_of_getElem? h, by simp [hf]⟩
end Go.Proofs.YtfhdgcndiljjcabGreat

/- A series among a law's arguments: what its reading tells. -/
namespace Go.Proofs.YtfhdgcndiljjcabGreat
open Go.RowKit Go.WideShapes Go.ChangeShapes Go.ChangeAt
theorem use_it {p q : Prop} (h : p) (k : p → q) : q := k h
theorem Var2.drew {w : World} {g : Nat} {x y : Value} (h : Var2 w g x y) : Var2 w.drew g x y := h
theorem cells_i64 : Tryz.prog.cellsOf 2 = 1 := by kernel_rfl
end Go.Proofs.YtfhdgcndiljjcabGreat

/- Variables of series: what a store into one leaves alone; making one of a monomial. -/
namespace Go.Proofs.YtfhdgcndiljjcabGreat
open Go.RowKit Go.WideShapes Go.ChangeShapes Go.ChangeAt
theorem t_ne : ¬ (2 : TypeId) = (39 : TypeId) := by decide
theorem own_ne_var {w : World} {g base : Nat} {x y : Value} {v : Value} {l : List Int} (hv : Var2 w g x y) (h : OwnI w base v l) : v.ownBlock ≠ some g := by
  intro e
  unfold OwnI at h
  unfold Var2 at hv
  rcases h.2 with ⟨rfl, _⟩ | ⟨g', cap, cur, rfl, _, hg, _⟩
  · simp [Value.ownBlock] at e
  · simp [Value.ownBlock] at e
    subst e
    rw [hg] at hv
    injection hv with hv
    injection hv with _ hv
    exact t_ne hv
theorem OwnI.set2 {w : World} {g base : Nat} {x y : Value} {v : Value} {l : List Int} (h : OwnI w base v l) (hv : Var2 w g x y) (x' y' : Value) : OwnI (set2 w g x' y') base v l :=
  h.other (grown_set2 w g x' y') (.inr (own_ne_var hv h))
theorem Var2.set2' {w : World} {g g' : Nat} {x y : Value} (h : Var2 w g x y) (hne : g' ≠ g) (x' y' : Value) : Var2 (Proofs.YtfhdgcndiljjcabGreat.set2 w g' x' y') g x y := (h.far g' 0 x' hne).far g' 1 y' hne
theorem RI.set2 {w : World} {g : Nat} {x : Int} {A' : Option Addr} {n c : Nat} {A : Option Addr} {l : List Int} (h : RI w A l) (hv : Var2 w g (.int .i64 x) (.slice A' n c)) (hl : 2 ≤ l.length) (x' y' : Value) : RI (Proofs.YtfhdgcndiljjcabGreat.set2 w g x' y') A l := by
  intro hne
  obtain ⟨b, off, e, hlt, hc⟩ := h hne
  have hbg : b ≠ g := by
    rintro rfl
    have h0 := hc 0 (by omega)
    have h1 := hc 1 (by omega)
    unfold Var2 at hv
    simp only [World.cell?, hv] at h0 h1
    match off, h0, h1 with
    | 0, h0, h1 => simp at h1
    | off + 1, h0, h1 => simp at h1
  refine ⟨b, off, e, by simpa [Proofs.YtfhdgcndiljjcabGreat.set2, World.setCell] using hlt, fun k hk => ?_⟩
  have h1 : (w.setCell ⟨g, 0, none⟩ x').cell? ⟨b, off + k, none⟩ = w.cell? ⟨b, off + k, none⟩ := World.cell?_setCell_other _ _ _ _ (by intro e; injection e with e; exact hbg e.symm)
  have h2 : (Proofs.YtfhdgcndiljjcabGreat.set2 w g x' y').cell? ⟨b, off + k, none⟩ = (w.setCell ⟨g, 0, none⟩ x').cell? ⟨b, off + k, none⟩ := World.cell?_setCell_other _ _ _ _ (by intro e; injection e with e; exact hbg e.symm)
  rw [h2, h1]
  exact hc k hk
theorem RI.drew {w : World} {A : Option Addr} {l : List Int} (h : RI w A l) : RI w.drew A l := h
/-- a variable made of a result: the store comes into a variable that lay there before the call, or into a new one -/
theorem reg_fin2 {wk cur wd : World} {g : Nat} {A : Option Addr} {n c : Nat} {l : List Int} {x y : Value} (hk : wk.heap.size ≤ g) (hgc : g < cur.heap.size) (hv : Var2 wd g x y) (ho : OwnI wd cur.heap.size (.slice A n c) l) (hb : Below wk.heap.size wk wd) (M : Int) :
    Var2 ((wd.setCell ⟨g, 0, none⟩ (.int .i64 M)).setCell ⟨g, 1, none⟩ (.slice A n c)) g (.int .i64 M) (.slice A n c) ∧ OwnI ((wd.setCell ⟨g, 0, none⟩ (.int .i64 M)).setCell ⟨g, 1, none⟩ (.slice A n c)) wk.heap.size (.slice A n c) l ∧
    Below wk.heap.size wk ((wd.setCell ⟨g, 0, none⟩ (.int .i64 M)).setCell ⟨g, 1, none⟩ (.slice A n c)) ∧ wk.heap.size ≤ g := by
  obtain ⟨f0, f1, f2, f3⟩ := fin_var (w := wk) hv ho hgc hk hb (.int .i64 M) (.slice A n c)
  exact ⟨hv.set2 _ _, f2, f3, hk⟩
theorem reg_new2 {wk cur wd : World} {A : Option Addr} {n c : Nat} {l : List Int} (hk : wk.heap.size ≤ cur.heap.size) (ho : OwnI wd cur.heap.size (.slice A n c) l) (hb : Below wk.heap.size wk wd) (M : Int) :
    Var2 (wd.alloc (.cells #[.int .i64 M, .slice A n c] 39)) wd.heap.size (.int .i64 M) (.slice A n c) ∧ OwnI (wd.alloc (.cells #[.int .i64 M, .slice A n c] 39)) wk.heap.size (.slice A n c) l ∧
    Below wk.heap.size wk (wd.alloc (.cells #[.int .i64 M, .slice A n c] 39)) ∧ wk.heap.size ≤ wd.heap.size :=
  ⟨Var2.new _ _ _, (ho.keep (below_one _ _)).more hk, below_alloc _ hb, hb.size⟩
end Go.Proofs.YtfhdgcndiljjcabGreat

/- Contracts of RemainderOf, AddModulo and MultiplyModulo, of the program and of the model. -/
namespace Go.Proofs.YtfhdgcndiljjcabGreat
open Go.RowKit Go.WideShapes Go.ChangeShapes Go.ChangeAt
theorem RI_two (w : World) (a b : Int) (t : TypeId) : RI (w.alloc (.cells #[.int .i64 a, .int .i64 b] t)) (some ⟨w.heap.size, 0, none⟩) [a, b] := by
  refine fun _ => ⟨w.heap.size, 0, rfl, by simp, fun k hk => ?_⟩
  rcases (show k = 0 ∨ k = 1 by simp at hk; omega) with rfl | rfl <;> simp
theorem codeN_two (m a b : Int) : codeN m [a, b] = 0 ↔ 2 ≤ m ∧ m ≤ 10000 ∧ 0 ≤ a ∧ a < m ∧ 0 ≤ b ∧ b < m := by
  unfold codeN
  by_cases hm : isM m = true
  · rw [if_pos hm]
    have := (isM_iff m).1 hm
    by_cases ha : allIn 0 (m - 1) [a, b] = true
    · rw [if_pos ha]; simp [allIn, inB] at ha; simp; omega
    · rw [if_neg ha]; simp [allIn, inB] at ha; simp; omega
  · rw [if_neg hm]
    have : ¬ (2 ≤ m ∧ m ≤ 10000) := fun h => hm ((isM_iff m).2 h)
    simp; omega
end Go.Proofs.YtfhdgcndiljjcabGreat

/- Contract of the model's greatest common divisor. -/
namespace Go.Proofs.YtfhdgcndiljjcabGreat
open Go.RowKit Go.WideShapes Go.ChangeShapes Go.ChangeAt
/-- the greatest common divisor, at integers of any sign -/
def gcdI (a b : Int) : Int := (Nat.gcd a.natAbs b.natAbs : Nat)
theorem emod_nat (G H : Nat) : (G : Int) % (H : Int) = ((G % H : Nat) : Int) := (Int.natCast_emod G H).symm
set_option maxHeartbeats 1000000 in
theorem l01Gcd_any (a b : Int) (w : World) (h1 : -4000000000000000000 ≤ a) (h2 : a ≤ 4000000000000000000) (h3 : -4000000000000000000 ≤ b) (h4 : b ≤ 4000000000000000000) :
    Calls Tryz.prog 97 #[.int .i64 a, .int .i64 b] w fun e w' => e = .returned (.int .i64 (gcdI a b)) ∧ w = w' := by
  have hA : (∃ A : Nat, a = -(A : Int) ∧ 0 < A ∧ A ≤ 4000000000000000000) ∨ (∃ A : Nat, a = (A : Int) ∧ A ≤ 4000000000000000000) := by
    by_cases h : a < 0
    · exact .inl ⟨a.natAbs, by omega, by omega, by omega⟩
    · exact .inr ⟨a.natAbs, by omega, by omega⟩
  have hB : (∃ B : Nat, b = -(B : Int) ∧ 0 < B ∧ B ≤ 4000000000000000000) ∨ (∃ B : Nat, b = (B : Int) ∧ B ≤ 4000000000000000000) := by
    by_cases h : b < 0
    · exact .inl ⟨b.natAbs, by omega, by omega, by omega⟩
    · exact .inr ⟨b.natAbs, by omega, by omega⟩
  clear h1 h2 h3 h4
  rcases hA with ⟨A, rfl, hA1, hA2⟩ | ⟨A, rfl, hA2⟩ <;> rcases hB with ⟨B, rfl, hB1, hB2⟩ | ⟨B, rfl, hB2⟩
  all_goals
    go_enter Tryz.func97, Tryz.ntmps97
    go_wp2
    go_loop [0, 1] (fun g ng => ∃ (G H : Nat), g = .int .i64 G ∧ ng = .int .i64 H ∧ G ≤ 4000000000000000000 ∧ H ≤ 4000000000000000000 ∧ Nat.gcd G H = Nat.gcd A B) (fun _ ng => (intOf ng).toNat)
    case atStart => exact ⟨A, B, by go_num, by go_num, by omega, by omega, rfl⟩
    case round =>
      obtain ⟨G, H, rfl, rfl, b1, b2, heq⟩ := hrel
      have HE := Lib.hid heq
      clear heq
      by_cases hH : H = 0
      · subst hH
        go_wp2
        go_ret
        have := HE.out
        rw [Nat.gcd_zero_right] at this
        exact ⟨ret_int (by rw [this]; simp [gcdI]), rfl⟩
      · have hpos : 0 < H := by omega
        have hlt := Nat.mod_lt G hpos
        have hm1 : 0 ≤ (G : Int) % H := by rw [emod_nat]; exact Int.natCast_nonneg _
        have hg : Nat.gcd H (G % H) = Nat.gcd G H := by rw [Nat.gcd_comm H (G % H), ← Nat.gcd_rec, Nat.gcd_comm]
        have HG := Lib.hid hg
        clear hg hH
        go_wp2
        go_round
        case rel => exact ⟨H, G % H, rfl, by rw [emod_nat], b2, by omega, HG.out.trans HE.out⟩
        case measure => simp only [intOf]; rw [emod_nat]; omega
end Go.Proofs.YtfhdgcndiljjcabGreat

/- Contracts of the two Euclids with a factor, of the greatest common divisor, and of what looks at units. -/
namespace Go.Proofs.YtfhdgcndiljjcabGreat
open Go.RowKit Go.WideShapes Go.ChangeShapes Go.ChangeAt
/-- the divisor and the factor of a number -/
def egI (m a : Int) : Int × Int := (((Num.eg m.toNat a.toNat 0 1).1 : Int), (Num.eg m.toNat a.toNat 0 1).2 % m)
theorem div_cast (G H : Nat) : (G : Int) / (H : Int) = ((G / H : Nat) : Int) := (Int.natCast_ediv G H).symm
theorem sub_mod_cast (G H : Nat) : (G : Int) - (G : Int) / (H : Int) * (H : Int) = ((G % H : Nat) : Int) := by
  have h := Nat.div_add_mod G H
  have h2 : ((G / H : Nat) : Int) * (H : Int) = ((H * (G / H) : Nat) : Int) := by rw [Int.natCast_mul, Int.mul_comm]
  rw [div_cast, h2]; omega
set_option maxHeartbeats 1000000 in
theorem divisorAndFactor_any (m a : Int) (w : World) (h0 : 0 ≤ a) (h1 : a < m) (h2 : m ≤ 10000) :
    Calls Tryz.prog 107 #[.int .i64 m, .int .i64 a] w fun e w' => e = .returned (.tuple #[.int .i64 (egI m a).1, .int .i64 (egI m a).2]) ∧ w = w' := by
  obtain ⟨A, rfl⟩ := Int.eq_ofNat_of_zero_le h0
  obtain ⟨M, rfl⟩ := Int.eq_ofNat_of_zero_le (show 0 ≤ m by omega)
  go_enter Tryz.func107, Tryz.ntmps107
  go_wp2
  go_loop [6, 7, 8, 9] (fun g ng x nx => ∃ (G H : Nat) (X Y : Int), g = .int .i64 G ∧ ng = .int .i64 H ∧ x = .int .i64 X ∧ nx = .int .i64 Y ∧ Num.EInv M A G H X Y ∧ Num.eg G H X Y = Num.eg M A 0 1) (fun _ ng _ _ => (intOf ng).toNat)
  case atStart => exact ⟨M, A, 0, 1, rfl, rfl, rfl, rfl, Num.EInv.start (by omega), rfl⟩
  case round =>
    obtain ⟨G, H, X, Y, rfl, rfl, rfl, rfl, hinv, heq⟩ := hrel
    have HI := Lib.hid hinv
    have HE := Lib.hid heq
    have hle := hinv.le
    have hY := hinv.bn
    obtain ⟨hY1, hY2⟩ := hY
    clear heq
    by_cases hH : H = 0
    · subst hH
      have hst := Num.eg_zero G X Y
      have HS := Lib.hid hst
      clear hst
      obtain ⟨hb1, hb2⟩ := hinv.sm
      clear hinv
      go_wp2_with (go_at_call 142; refine (remainder_any _ _ _ (by omega) (by omega) (by omega) (by omega)).mono ?_; rintro e w' ⟨rfl, rfl⟩)
      go_ret2
      have := HE.out
      rw [HS.out] at this
      exact ⟨ret_ii (by rw [egI]; simp only [Int.toNat_natCast]; rw [← this]) (by rw [egI]; simp only [Int.toNat_natCast]; rw [← this]), rfl⟩
    · obtain ⟨hX1, hX2⟩ := hinv.sm
      have hq := hinv.bq hH
      rw [← div_cast] at hq
      obtain ⟨hq1, hq2⟩ := hq
      have hG : 0 ≤ (G : Int) / H * H ∧ (G : Int) / H * H ≤ G := by
        have h := sub_mod_cast G H
        have h3 : G % H < H := Nat.mod_lt _ (by omega)
        have h4 : ((G / H : Nat) : Int) * (H : Int) = ((G / H * H : Nat) : Int) := by rw [Int.natCast_mul]
        rw [div_cast] at h ⊢
        omega
      obtain ⟨hG1, hG2⟩ := hG
      have hQ : 0 ≤ (G : Int) / H ∧ (G : Int) / H ≤ 10000 := by
        rw [div_cast]
        have := Nat.div_le_self G H
        exact ⟨Int.natCast_nonneg _, by omega⟩
      obtain ⟨hQ1, hQ2⟩ := hQ
      have hstep := hinv.step hH
      have HP := Lib.hid hstep
      have hes := Num.eg_step G H X Y hH
      have HS := Lib.hid hes
      clear hinv hstep hes
      have hpos : 0 < H := by omega
      clear hH
      go_wp2
      go_round
      case rel =>
        refine ⟨H, G % H, Y, X - (G : Int) / H * Y, rfl, ?_, rfl, rfl, ?_, ?_⟩
        · rw [sub_mod_cast]
        · rw [div_cast]; exact HP.out
        · rw [div_cast, ← HS.out]; exact HE.out
      case measure =>
        simp only [intOf]
        rw [sub_mod_cast]
        have := Nat.mod_lt G hpos
        omega
end Go.Proofs.YtfhdgcndiljjcabGreat

/- Contracts of IsUnit, InverseModulo and PowerModulo, of the program and of the model. -/
namespace Go.Proofs.YtfhdgcndiljjcabGreat
open Go.RowKit Go.WideShapes Go.ChangeShapes Go.ChangeAt
theorem eg_fact (m a : Int) (h0 : 0 ≤ a) (h1 : a < m) : (egI m a).1 = gcdI a m ∧ m ∣ a * (egI m a).2 - gcdI a m ∧ 0 ≤ (egI m a).2 ∧ (egI m a).2 < m := by
  obtain ⟨A, rfl⟩ := Int.eq_ofNat_of_zero_le h0
  obtain ⟨M, rfl⟩ := Int.eq_ofNat_of_zero_le (show 0 ≤ m by omega)
  obtain ⟨e1, e2⟩ := Num.eg_spec A M 0 1 (Num.EInv.start (show A < M by omega))
  have hg : (((Num.eg M A 0 1).1 : Nat) : Int) = gcdI A M := by rw [e1, gcdI, Int.natAbs_natCast, Int.natAbs_natCast, Nat.gcd_comm]
  refine ⟨hg, ?_, Int.emod_nonneg _ (by omega), Int.emod_lt_of_pos _ (by omega)⟩
  simp only [egI, Int.toNat_natCast]
  rw [hg] at e2
  generalize (Num.eg M A 0 1).2 = x at *
  have h := Int.emod_add_mul_ediv x (M : Int)
  generalize x % (M : Int) = r at *
  generalize x / (M : Int) = q at *
  obtain ⟨u, hu⟩ := e2
  exact ⟨u - A * q, by grind⟩
theorem divFac_any (m a : Int) (w : World) (h0 : 0 ≤ a) (h1 : a < m) (h2 : m ≤ 10000) :
    Calls Tryz.prog 107 #[.int .i64 m, .int .i64 a] w fun e w' => e = .returned (.tuple #[.int .i64 (gcdI a m), .int .i64 (egI m a).2]) ∧ w = w' :=
  (divisorAndFactor_any m a w h0 h1 h2).mono fun _ _ ⟨e, hw⟩ => ⟨by rw [e, (eg_fact m a h0 h1).1], hw⟩
end Go.Proofs.YtfhdgcndiljjcabGreat

/- Contracts of InverseOfSeries, of the program and of the model. -/
namespace Go.Proofs.YtfhdgcndiljjcabGreat
open Go.RowKit Go.WideShapes Go.ChangeShapes Go.ChangeAt
theorem Box.set1 {w : World} {g : Nat} {m : Int} {A : Option Addr} {n c : Nat} (h : Box w g m A n c) (b i : Nat) (x : Value) (hne : b ≠ g) : Box (w.setCell ⟨b, i, none⟩ x) g m A n c := by
  refine ⟨?_, ?_, by simpa [World.setCell] using h.2.2⟩
  · rw [World.cell?_setCell_other _ _ _ _ (by intro e; injection e with e; exact hne e)]; exact h.1
  · rw [World.cell?_setCell_other _ _ _ _ (by intro e; injection e with e; exact hne e)]; exact h.2.1
/-! a box and one number of its list, across a call -/
end Go.Proofs.YtfhdgcndiljjcabGreat

/- Contracts of ComposeSeries, of the program. -/
namespace Go.Proofs.YtfhdgcndiljjcabGreat
open Go.RowKit Go.WideShapes Go.ChangeShapes Go.ChangeAt
theorem horC_one {m : Int} {d : Nat} {a f : Nat → Int} (h1 : 0 ≤ a d) (h2 : a d < m) : Ser.horC m d a f 1 = Ser.cut m d (Ser.mon 0 (a d)) := by
  refine Ser.list_ext (by rw [Ser.horC_length, Ser.cut_length]) (fun i hi => ?_)
  rw [Ser.horC_length] at hi
  rw [Ser.horC, Ser.co_set (by rw [Ser.cut_length]; omega), Ser.co_cut (a := Ser.mon 0 (a d)) (by omega)]
  unfold Ser.mon
  by_cases h : i = 0
  · rw [if_pos h, if_pos h, Nat.sub_zero, Int.emod_eq_of_lt h1 h2]
  · rw [if_neg h, if_neg h, Ser.co_cut (by omega), Ser.mul_at]
    have e : Ser.co (Ser.horC m d a f 0) = fun _ => 0 := by funext j; rw [Ser.horC, Ser.co_zeros]
    rw [e, Ser.cv_zero_left]
theorem bcb {W w' : World} {g b o : Nat} {m x : Int} {A : Option Addr} {n c : Nat} (h : Box W g m A n c) (hc : W.cell? ⟨b, o, none⟩ = some (.int .i64 x)) (hlt : b < W.heap.size) (hb : Below W.heap.size W w') :
    (w'.cell? ⟨g, 0, none⟩ = some (.int .i64 m) ∧ w'.cell? ⟨g, 1, none⟩ = some (.slice A n c)) ∧ (w'.cell? ⟨b, o, none⟩ = some (.int .i64 x)) ∧ Below W.heap.size W w' := ⟨box_in h hb, (hb.cell (p := ⟨b, o, none⟩) hlt).trans hc, hb⟩
theorem SerOk.hor {m : Int} {d : Nat} {l l' : List Int} (h : SerOk m d l) (j : Nat) : SerOk m d (Ser.horC m d (Ser.co l) (Ser.co l') j) :=
  ⟨h.m1, h.m2, h.d1, h.d2, Ser.horC_length _ _ _ _ _, Ser.horC_red (by have := h.m1; omega) _ _ _ h.red j⟩
end Go.Proofs.YtfhdgcndiljjcabGreat

