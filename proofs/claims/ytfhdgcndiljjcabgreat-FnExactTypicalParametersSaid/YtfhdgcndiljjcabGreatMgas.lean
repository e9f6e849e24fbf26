/- Texts of contracts, joined. -/
import Derived.Test.YtfhdgcndiljjcabGreatMgaq
import Derived.Test.YtfhdgcndiljjcabGreatMgab
import Derived.Test.YtfhdgcndiljjcabGreatMgaa
import Derived.Test.YtfhdgcndiljjcabGreatMgar
import Derived.Test.YtfhdgcndiljjcabGreatMgaj
import Derived.Test.YtfhdgcndiljjcabGreatMgad
import Derived.Test.YtfhdgcndiljjcabGreatMgae
import Derived.BigQuiet
import Derived.Deep.QuietTactic
/- Contract of slices.Max at whole numbers, and of isOfOneDegree. -/
namespace Go.Proofs.YtfhdgcndiljjcabGreat
open Go.RowKit Go.WideShapes Go.ChangeShapes Go.ChangeAt
end Go.Proofs.YtfhdgcndiljjcabGreat

/- Contracts of layers: those of Lazard's cocycles, and grids with a layer. -/
namespace Go.Proofs.YtfhdgcndiljjcabGreat
open Go.RowKit Go.WideShapes Go.ChangeShapes Go.ChangeAt
set_option maxHeartbeats 2000000 in
theorem lazardLayer_any (n : Nat) (w : World) (h1 : 2 ≤ n) (h2 : n ≤ 10) :
    Calls Tryz.prog 153 #[.int .i64 n] w fun e w' => ∃ v, e = .returned v ∧ OwnI w' w.heap.size v (layL n) ∧ Below w.heap.size w w' := by
  have hmk : ∀ W : World, (Instr.makeSlice 26 (.int .i64 ((n : Int) + 1)) (.int .i64 ((n : Int) + 1))).run Tryz.prog W = .ok (.slice (some ⟨W.heap.size, 0, none⟩) (n + 1) (n + 1)) (W.alloc (.cells (madeCells #[.int .i64 0] (n + 1)) 2)) := by
    intro W
    have := run_make_row' (P := Tryz.prog) 26 2 (.int .i64 0) 8 Tryz.underlying26 info64 rfl .i64 .i64 (n + 1) (by omega) (by omega) W
    rwa [show ((n + 1 : Nat) : Int) = (n : Int) + 1 by omega] at this
  have HO := Lib.hid (OwnI.made w (n + 1) (by unfold maxLen; omega))
  have hin : inB (n : Int) 2 60 = true := inB_yes (by omega) (by omega)
  have hbd := BinomialDivisor_any (n : Int) (w.alloc (.cells (madeCells #[.int .i64 0] (n + 1)) 2))
  rw [if_pos hin, if_pos hin, show ((n : Int).toNat - 1) = n - 1 by omega] at hbd
  obtain ⟨D, hD⟩ : ∃ D, lz (n : Int) (n - 1) = D := ⟨_, rfl⟩
  have hDp : 0 < D := by rw [← hD]; exact lz_pos _ (by omega) (by omega)
  have hDb := (lz_bd (n := (n : Int)) (by omega) (n - 1) (by omega)).2
  rw [hD] at hbd hDb
  have HBD := Lib.hid hbd
  have HF := Lib.hid (fun k (h0 : 0 < k) (h : k < n) => by have := layF_mid h0 h; rw [hD] at this; exact this)
  have hD0 : ¬ D = 0 := by omega
  have hD1 : ¬ D = -1 := by omega
  clear hin hbd hD
  go_enter Tryz.func153, Tryz.ntmps153
  go_wp2_with fail
  refine HBD.out.mono ?_
  rintro e w1 ⟨rfl, hb1⟩
  have ho1 := HO.out.keep hb1
  rw [← layP_one] at ho1
  have HO1 := Lib.hid ho1
  have HB1 := Lib.hid (below_step (below_one w (.cells (madeCells #[.int .i64 0] (n + 1)) 2)) hb1)
  clear ho1 hb1 HO HBD hmk
  go_wp2
  go_loopw [6] (fun i wr => ∃ k : Nat, 1 ≤ k ∧ k ≤ n ∧ i = .int .i64 k ∧ OwnI wr w.heap.size (.slice (some ⟨w.heap.size, 0, none⟩) (n + 1) (n + 1)) (layP n k) ∧ Below w.heap.size w wr) (fun i _ => n + 2 - (intOf i).toNat)
  case atStart => exact ⟨1, Nat.le_refl _, by omega, rfl, HO1.out, HB1.out⟩
  case round =>
    clear HO1 HB1
    obtain ⟨k, k1, k2, rfl, own, hbl⟩ := hrel
    have OW := Lib.hid own
    have HB := Lib.hid hbl
    have hsz : w.heap.size < wr.heap.size := (own.lt w.heap.size rfl).2
    clear own hbl
    by_cases hlt : k < n
    · have hlt2 : (k : Int) < (n : Int) := by omega
      have hf := HF.out k (by omega) hlt
      have hst := layP_step (n := n) (k := k) (by omega)
      rw [hf] at hst
      obtain ⟨q1, q2⟩ := binI_bd (n := (n : Int)) (k := (k : Int)) (by omega)
      have HC := Lib.hid (fun W0 => choices_any (n : Int) (k : Int) W0 (by omega) (by omega) (by omega) (by omega))
      obtain ⟨X, hX⟩ : ∃ X, binI (n : Int) (k : Int) = X := ⟨_, rfl⟩
      rw [hX] at HC q1 q2 hst
      have hq : 0 ≤ X.tdiv D ∧ X.tdiv D ≤ X := by
        rw [Int.tdiv_eq_ediv_of_nonneg q1]
        exact ⟨Int.ediv_nonneg q1 (by omega), Int.ediv_le_self _ q1⟩
      obtain ⟨Y, hY⟩ : ∃ Y, X.tdiv D = Y := ⟨_, rfl⟩
      rw [hY] at hq hst
      obtain ⟨-, -, o3, o4⟩ := OW.out.cells
      have d1 := o3 k (by rw [layP_length]; omega)
      have f1 := o4 k
      have hset := OW.out.set k Y
      rw [hst] at hset
      have HSE := Lib.hid hset
      have HB3 := Lib.hid (HB.out.setCell (p := ⟨w.heap.size, k, none⟩) (Nat.le_refl _) (.int .i64 Y))
      have j0 : (0 : Int) ≤ (k : Int) := by omega
      have j2 : (k : Int) < (n : Int) + 1 := by omega
      have HY := Lib.hid hY
      clear hf hst hX o3 o4 hset
      go_wp2_with fail
      refine (HC.out _).mono ?_
      rintro e w3 ⟨rfl, rfl⟩
      go_wp2
      go_roundw
      case rel => exact ⟨k + 1, by omega, hlt, by go_num, HSE.out, HB3.out⟩
      case measure => simp only [intOf]; omega
    · have hlt2 : ¬ (k : Int) < (n : Int) := by omega
      obtain rfl : k = n := by omega
      have HE := Lib.hid (layP_end k)
      go_wp2
      go_ret
      exact ⟨_, rfl, by rw [← HE.out]; exact OW.out, HB.out⟩
end Go.Proofs.YtfhdgcndiljjcabGreat

/- Contract of factorOfLayer: a list of equations is appended to, then solved. -/
namespace Go.Proofs.YtfhdgcndiljjcabGreat
open Go.RowKit Go.WideShapes Go.ChangeShapes Go.ChangeAt
theorem infoE : (Tryz.prog.info? 137).map (fun i => (i.zero, i.size, i.bytes)) = some (some (.agg #[.int .i64 0, .int .i64 0, .int .i64 0, .int .i64 0, .int .i64 0, .int .i64 0, .int .i64 0, .int .i64 0, .int .i64 0, .int .i64 0, .int .i64 0]), 11, 88) := by kernel_rfl
def rowQ (es : List (List Int)) : List Value := es.flatMap fun e => e.map (Value.int .i64)
theorem rowQ_at : ∀ (es : List (List Int)) (i : Nat) (e : List Int) (j : Nat) (v : Value), (∀ e ∈ es, e.length = 11) → es[i]? = some e → (e.map (Value.int .i64))[j]? = some v → (rowQ es)[i * 11 + j]? = some v
  | [], i, e, j, v, _, he, _ => by simp at he
  | f :: es, 0, e, j, v, h, he, hv => by
    obtain rfl : f = e := by simpa using he
    unfold rowQ
    rw [List.flatMap_cons, Nat.zero_mul, Nat.zero_add, List.getElem?_append_left (by
      apply Classical.byContradiction
      intro hn
      rw [List.getElem?_eq_none (by omega)] at hv
      cases hv)]
    exact hv
  | f :: es, i + 1, e, j, v, h, he, hv => by
    have ih := rowQ_at es i e j v (fun f hf => h f (List.mem_cons_of_mem _ hf)) (by simpa using he) hv
    have hf := h f List.mem_cons_self
    unfold rowQ at ih ⊢
    rw [List.flatMap_cons, List.getElem?_append_right (by rw [List.length_map, hf]; omega), List.length_map, hf, show (i + 1) * 11 + j - 11 = i * 11 + j by omega]
    exact ih
theorem add_at (g j : Nat) : (⟨g, 0, none⟩ : Addr).add j = ⟨g, j, none⟩ := by unfold Addr.add; split <;> simp_all
/-- a slice of equations, made by the call -/
def OwnQ (w : World) (base : Nat) (v : Value) (es : List (List Int)) : Prop := w.ownsRow base 137 11 v es.length (rowQ es)
theorem OwnQ.eqs {w : World} {base n c : Nat} {A : Option Addr} {es : List (List Int)} (h : OwnQ w base (.slice A n c) es) (hl : ∀ e ∈ es, e.length = 11) : EqsAt w A es := by
  intro hne
  have h2 := h.2
  rcases h2 with ⟨_, h0⟩ | ⟨g, cap, cur, hv, hb, hg, _⟩
  · exact absurd (List.eq_nil_of_length_eq_zero h0) hne
  · injection hv with e1 e2 e3
    subst e1
    subst e2
    subst e3
    have hlt : g < w.heap.size := (World.ownsRow.lt h g rfl).2
    refine ⟨g, 0, rfl, hlt, fun i e he j v hv => ?_⟩
    have := World.ownsRow.cells h (g := g) rfl (i * 11 + j) v (rowQ_at es i e j v hl he hv)
    rw [add_at] at this
    rw [Nat.zero_add]
    exact this
theorem OwnQ.form {w : World} {base : Nat} {v : Value} {es : List (List Int)} (h : OwnQ w base v es) : ∃ A c, v = .slice A es.length c := by
  rcases h.2 with ⟨rfl, h0⟩ | ⟨g, cap, cur, rfl, _⟩
  · exact ⟨none, 0, by rw [h0]⟩
  · exact ⟨_, _, rfl⟩
theorem OwnQ.keep {w w' : World} {base : Nat} {v : Value} {es : List (List Int)} (h : OwnQ w base v es) (hb : Below w.heap.size w w') : OwnQ w' base v es := by
  rcases h.2 with h2 | ⟨g, cap, cur, e1, e2, e3, e4⟩
  · exact ⟨h.1, .inl h2⟩
  · exact ⟨h.1, .inr ⟨g, cap, cur, e1, e2, by rw [hb.block g (Array.getElem?_eq_some_iff.1 e3).1]; exact e3, e4⟩⟩
theorem arr11 (cs : Array Value) (h : cs.size = 11) : ∃ a b c d e f g i j k l, cs = #[a, b, c, d, e, f, g, i, j, k, l] := by
  obtain ⟨l⟩ := cs
  match l, h with
  | [a, b, c, d, e, f, g, i, j, k, l], _ => exact ⟨a, b, c, d, e, f, g, i, j, k, l, rfl⟩
theorem run_buildE (cs : Array Value) (w : World) (h : cs.size = 11) : (Instr.buildSlice 135 1 #[(0, .agg cs)]).run Tryz.prog w = .ok (.slice (some ⟨w.heap.size, 0, none⟩) 1 1) (w.alloc (.cells cs 137)) := by
  obtain ⟨a, b, c, d, e, f, g, i, j, k, l, rfl⟩ := arr11 cs h
  kernel_rfl
/-- a slice with one equation is made -/
theorem wpL_buildE {ops : Array Oper} {rest : List Oper} {op : Oper} {a : Act} {w : World} {Q : Exit → Act → World → Prop} (hgd : op.guard = none) (x : Operand) (ho : op.op = .buildSlice 135 1 #[(0, x)])
    (cs : Array Value) (hx : a.eval x = .agg cs) (hs : cs.size = 11)
    (h : wpList Tryz.prog ops Q rest (a.put op.dst (.slice (some ⟨w.heap.size, 0, none⟩) 1 1)) (w.alloc (.cells cs 137))) : wpList Tryz.prog ops Q (op :: rest) a w :=
  wpList_plain hgd fun _ hK => by
    have hb : (#[((0 : Nat), x)] : Array (Nat × Operand)).map (fun p => (p.1, a.eval p.2)) = #[(0, .agg cs)] := by simp [hx]
    unfold Oper.wp execOp
    simp only [ho, hb, Sem.run_bind, run_buildE cs w hs, Result.andThen_ok, Sem.run_pure]
    exact hK _ _ h
theorem wp_pushE {ops : Array Oper} {rest : List Oper} {o : Oper} {a : Act} {Q : Exit → Act → World → Prop} {w : World} (s x : Operand) (t : TypeId)
    (hgd : o.guard = none) (ho : o.op = .call { callee := .builtin .append, args := #[s, x], argTypes := #[t, t] })
    (ht : Tryz.prog.underlying t = some (.slice 137)) (base : Nat) (v : Value) (es : List (List Int)) (hs : a.eval s = v) (hown : OwnQ w base v es)
    (e : List Int) (he : e.length = 11) (hx : a.eval x = .slice (some ⟨w.heap.size, 0, none⟩) 1 1) (hlen : es.length ≤ 1000000) (hbase : base ≤ w.heap.size)
    (h : ∀ v' w', OwnQ w' base v' (es ++ [e]) → Below base w w' → wpList Tryz.prog ops Q rest (a.put o.dst v') w') :
    wpList Tryz.prog ops Q (o :: rest) a (w.alloc (.cells (arrE e) 137)) := by
  obtain ⟨i0, hi, hz0, hz1, hz2⟩ := info_parts infoE
  refine wpList_append_own _ hgd s x t ho base 137 i0 (.agg #[.int .i64 0, .int .i64 0, .int .i64 0, .int .i64 0, .int .i64 0, .int .i64 0, .int .i64 0, .int .i64 0, .int .i64 0, .int .i64 0, .int .i64 0]) 11 88 ht hi hz0 hz1 hz2 rfl (by decide) v es.length (rowQ es) hs (World.ownsRow.alloc hown _)
    ⟨w.heap.size, 0, none⟩ 1 1 (e.map (Value.int .i64)) hx (by rw [List.length_map, he]) ?_ ?_ ?_ ?_ ?_ ?_
  · intro j u hj
    rw [add_at]
    exact (VarC.new 137 w (arrE e)).cell j u (by unfold arrE; rw [List.getElem?_toArray]; exact hj)
  · intro u hu
    obtain ⟨y, _, rfl⟩ := List.mem_map.1 hu
    rfl
  · unfold maxLen; omega
  · omega
  · simp; omega
  · intro v' w' h1 h2 _
    refine h v' w' ?_ ?_
    · unfold OwnQ
      have : rowQ (es ++ [e]) = rowQ es ++ e.map (Value.int .i64) := by unfold rowQ; rw [List.flatMap_append, List.flatMap_cons, List.flatMap_nil, List.append_nil]
      rw [this, List.length_append]; exact h1
    · exact ((Below.refl base w).alloc hbase _).grown h2 (by simp; omega) (fun k hk => (World.ownsRow.lt hown k hk).1)
theorem least_out {m : Int} {l : List Int} {n : Nat} {wr w' : World} {e : Ending} (h : LeastPost (Cyc.facO m l n) wr e w') :
    ∃ cs : List Int, e = .returned (.tuple #[.agg (arrE cs), .bool (Cyc.facO m l n).isSome]) ∧ cs.length = 11 ∧ Ser.co cs 1 = Cyc.facM m l n ∧ Below wr.heap.size wr w' := by
  unfold LeastPost at h
  unfold Cyc.facM
  cases hx : Cyc.facO m l n with
  | none => rw [hx] at h; exact ⟨_, h.1, by simp, rfl, h.2⟩
  | some X => rw [hx] at h; exact ⟨_, h.1, solP_len X 11, by unfold solL; rw [solP_co (by omega), if_pos (by omega)], h.2⟩
set_option maxHeartbeats 8000000 in
set_option maxRecDepth 100000 in
theorem factorOfLayer_any (m : Int) (n : Nat) (A : Option Addr) (c : Nat) (l : List Int) (w : World) (m1 : 2 ≤ m) (m2 : m ≤ 10000) (n1 : 2 ≤ n) (n2 : n ≤ 10) (hl : l.length = n + 1) (hb : ∀ i, 0 ≤ Ser.co l i ∧ Ser.co l i < m) (hr : RI w A l) :
    Calls Tryz.prog 128 #[.int .i64 m, .slice A l.length c] w fun e w' => e = .returned (.tuple #[.int .i64 (Cyc.facM m l n), .bool (Cyc.facO m l n).isSome]) ∧ Below w.heap.size w w' := by
  have HLZ := Lib.hid (fun W0 => lazardLayer_any n W0 n1 n2)
  have HT := Lib.hid (fun (i : Nat) (W0 : World) => eqTimes_any m 1 (-(Ser.co l i) :: layF n i :: List.replicate 9 0) W0 m1 m2 (by omega) (by omega) (by simp) (fun j => by
    have := layF_bd (n := n) (i := i) (by omega)
    have := hb i
    match j with
    | 0 => show -10000 ≤ -(Ser.co l i) ∧ -(Ser.co l i) ≤ 10000; omega
    | 1 => show -10000 ≤ layF n i ∧ layF n i ≤ 10000; omega
    | j + 2 => have e : Ser.co (-(Ser.co l i) :: layF n i :: List.replicate 9 0) (j + 2) = Ser.co (List.replicate 9 0) j := rfl
               rw [e, Ser.co_zeros]; omega))
  have HS := Lib.hid (fun A1 c1 es W0 (hO : ∀ e ∈ es, Sys.Ok m e) (hA : EqsAt W0 A1 es) (hn : es.length ≤ 1000) => leastSolution_any m m1 m2 A1 c1 es W0 hO hA hn)
  have HR := Lib.hid (fun i (hi : i ≤ n) W0 (h : Below w.heap.size w W0) => ((hr.below h).at i (by omega)))
  have HBB := Lib.hid hb
  obtain ⟨b, off, rfl, -, -⟩ := hr.at 0 (by omega)
  rw [hl]
  clear hb hr
  go_enter Tryz.func128, Tryz.ntmps128
  go_wp2_with fail
  refine (HLZ.out _).mono ?_
  rintro e w1 ⟨v, rfl, ho1, hb1⟩
  obtain ⟨A1, c1, rfl, -⟩ := ho1.form
  rw [layL_length]
  have HL1 := Lib.hid (fun i (hi : i ≤ n) W0 (h : Below w1.heap.size w1 W0) => (((ho1.ri).below h).at i (by rw [layL_length]; omega)))
  have HB1 := Lib.hid hb1
  clear ho1 hb1
  go_wp2
  go_loopw [6, 7, 8, 16] (fun s6 _ _ s16 wr => ∃ k : Nat, k ≤ n + 1 ∧ s16 = .int .i64 k ∧ OwnQ wr w1.heap.size s6 ((Cyc.eqsF m l n).take k) ∧ Below w1.heap.size w1 wr) (fun _ _ _ s16 _ => n + 2 - (intOf s16).toNat)
  case atStart => exact ⟨0, Nat.zero_le _, rfl, World.ownsRow_nil _ _ _ _, Below.refl _ _⟩
  case round =>
    obtain ⟨k, hk, rfl, ho, hbel⟩ := hrel
    have HO := Lib.hid ho
    have HB := Lib.hid hbel
    clear ho hbel
    by_cases hlt : k < n + 1
    · have h1 := HL1.out k (by omega) wr HB.out
      obtain ⟨b1, off1, rfl, -, hcl⟩ := h1
      have h2 := HR.out k (by omega) wr (below_step HB1.out HB.out)
      obtain ⟨b2, off2, he, -, hcl2⟩ := h2
      injection he with he
      injection he with he1 he2
      subst he1
      subst he2
      rw [layL_co (by omega)] at hcl
      have ht := HT.out k
      have hok : (Sys.timesE m 1 (-(Ser.co l k) :: layF n k :: List.replicate 9 0)).length = 11 := by unfold Sys.timesE; rw [Ser.cut_length]
      have hst : (Cyc.eqsF m l n).take k ++ [Sys.timesE m 1 (-(Ser.co l k) :: layF n k :: List.replicate 9 0)] = (Cyc.eqsF m l n).take (k + 1) := by
        unfold Cyc.eqsF
        rw [List.take_add_one, List.getElem?_map, List.getElem?_range hlt]; rfl
      have hll : ((Cyc.eqsF m l n).take k).length = k := by unfold Cyc.eqsF; rw [List.length_take, List.length_map, List.length_range]; omega
      have hp := HBB.out k
      obtain ⟨E, hE⟩ : ∃ E, Sys.timesE m 1 (-(Ser.co l k) :: layF n k :: List.replicate 9 0) = E := ⟨_, rfl⟩
      rw [hE] at ht hok hst
      have hag : arrE (-(Ser.co l k) :: layF n k :: List.replicate 9 0) = #[.int .i64 (-(Ser.co l k)), .int .i64 (layF n k), .int .i64 0, .int .i64 0, .int .i64 0, .int .i64 0, .int .i64 0, .int .i64 0, .int .i64 0, .int .i64 0, .int .i64 0] := rfl
      rw [hag] at ht
      obtain ⟨P, hP⟩ : ∃ P, Ser.co l k = P := ⟨_, rfl⟩
      obtain ⟨F, hF⟩ : ∃ F, layF n k = F := ⟨_, rfl⟩
      rw [hP, hF] at ht
      rw [hP] at hcl2 hp
      rw [hF] at hcl
      have HTK := Lib.hid ht
      have HOK := Lib.hid hok
      have HST := Lib.hid hst
      have HLL := Lib.hid hll
      have hw1 : IntKind.i64.wrap (-P) = -P := by rw [IntKind.wrap_i64]; omega
      have i1 : (k : Int) < (n : Int) + 1 := by omega
      have i2 : (0 : Int) ≤ (k : Int) := by omega
      have HE9 := Lib.hid (show (arrE E).size = 11 by rw [arrE_size, hok])
      clear ht hok hst hll hE hag hP hF HL1 HT HS HR HBB HLZ
      go_upto_region 5 with fail
      go_wp2_with fail
      refine (HTK.out _).mono ?_
      rintro e w2 ⟨rfl, hb2⟩
      have HO2 := Lib.hid (HO.out.keep hb2)
      have HB2 := Lib.hid (below_step HB.out hb2)
      have HSZ : Hid (w1.heap.size ≤ w2.heap.size) := Lib.hid (Nat.le_trans HB.out.size hb2.size)
      clear hb2
      go_wp2_with (first
        | (refine wpL_buildE rfl _ rfl (arrE E) rfl HE9.out ?_)
        | (refine wp_pushE _ _ _ rfl rfl Tryz.underlying135 w1.heap.size _ _ rfl HO2.out E HOK.out rfl (by rw [HLL.out]; omega) HSZ.out ?_; rintro v' w3 ho3 hb3))
      rw [HST.out] at ho3
      have hB3 : Below w1.heap.size w1 w3 := HB2.out.trans hb3
      exact ⟨⟨k + 1, by omega, by go_num, ho3, hB3⟩, by simp only [intOf]; omega⟩
    · obtain rfl : k = n + 1 := by omega
      have hall : (Cyc.eqsF m l n).take (n + 1) = Cyc.eqsF m l n := List.take_of_length_le (by unfold Cyc.eqsF; rw [List.length_map, List.length_range]; exact Nat.le_refl _)
      have ho := HO.out
      rw [hall] at ho
      obtain ⟨A6, c6, rfl⟩ := ho.form
      have hle : (Cyc.eqsF m l n).length = n + 1 := by unfold Cyc.eqsF; rw [List.length_map, List.length_range]
      have hOK := Cyc.eqsF_ok (show 0 < m by omega) l n
      have HSS := Lib.hid (HS.out A6 c6 (Cyc.eqsF m l n) wr hOK (ho.eqs (fun e he => (hOK e he).len)) (by omega))
      have hi1 : ¬ ((n : Int) + 1 < (n : Int) + 1) := by omega
      have HBB1 := Lib.hid (below_step HB1.out HB.out)
      have HF : Hid (LeastPost (Cyc.facO m l n) wr = LeastPost (Sys.leastS m (Cyc.eqsF m l n)) wr) := Lib.hid rfl
      rw [hle] at HSS ho ⊢
      clear HO ho hall hOK HL1 HT HS HR HLZ hle
      go_upto_region 7 with fail
      go_wp2_with fail
      refine HSS.out.mono ?_
      rw [← HF.out]
      intro e w4 hp
      obtain ⟨cs, rfl, hcl, hc1, hb4⟩ := least_out hp
      have hsz : (arrE cs).size = 11 := by rw [arrE_size, hcl]
      have ho1 := arrE_one cs
      have hat := arrE_at (l := cs) (k := 1) (by omega)
      rw [hc1] at hat
      obtain ⟨Y, hY⟩ : ∃ Y, Cyc.facM m l n = Y := ⟨_, rfl⟩
      obtain ⟨B, hB⟩ : ∃ B, (Cyc.facO m l n).isSome = B := ⟨_, rfl⟩
      rw [hY] at hat
      rw [hB]
      have HY := Lib.hid hY
      have HBo := Lib.hid hB
      dsimp only
      obtain ⟨ca, hca⟩ : ∃ ca, arrE cs = ca := ⟨_, rfl⟩
      rw [hca] at hat hsz ho1 ⊢
      obtain ⟨w5, hw5⟩ : ∃ w5, (w4.alloc (.cells #[.int .i64 0, .int .i64 0, .int .i64 0, .int .i64 0, .int .i64 0, .int .i64 0, .int .i64 0, .int .i64 0, .int .i64 0, .int .i64 0, .int .i64 0] 137)).setRow w4.heap.size ca = w5 := ⟨_, rfl⟩
      have hw6 := hw5
      rw [World.setRow_alloc_new] at hw6
      have e8 : VarC 137 w5 w4.heap.size ca := by rw [← hw6]; exact VarC.new _ _ _
      have y1 := e8.cell 1 _ hat
      have HB5 := Lib.hid (below_step HBB1.out (below_step hb4 (show Below w4.heap.size w4 w5 by rw [← hw6]; exact below_one _ _)))
      have HW5 := Lib.hid hw5
      have Z1 := Lib.hid hsz
      have O1 := Lib.hid ho1
      rw [← hw5] at y1
      clear hp hcl hc1 hb4 hsz ho1 hat hY hB hca hw5 hw6 e8 HSS HF
      go_wp2_with (refine wpL_storeE rfl _ _ rfl _ #[.int .i64 0, .int .i64 0, .int .i64 0, .int .i64 0, .int .i64 0, .int .i64 0, .int .i64 0, .int .i64 0, .int .i64 0, .int .i64 0, .int .i64 0] ca _ rfl rfl (VarC.new 137 w4 #[.int .i64 0, .int .i64 0, .int .i64 0, .int .i64 0, .int .i64 0, .int .i64 0, .int .i64 0, .int .i64 0, .int .i64 0, .int .i64 0, .int .i64 0]) rfl Z1.out O1.out ?_)
      rw [HW5.out]
      clear y1
      go_wp2
      go_ret2
      exact ⟨by rw [HY.out, HBo.out]; rfl, HB5.out⟩
end Go.Proofs.YtfhdgcndiljjcabGreat

/- Contracts of cocycleFactor, IsCocycle and CocycleFactor of the program. -/
namespace Go.Proofs.YtfhdgcndiljjcabGreat
open Go.RowKit Go.WideShapes Go.ChangeShapes Go.ChangeAt
end Go.Proofs.YtfhdgcndiljjcabGreat

/- Contracts of factorTo and of the model's gap. -/
namespace Go.Proofs.YtfhdgcndiljjcabGreat
open Go.RowKit Go.WideShapes Go.ChangeShapes Go.ChangeAt
theorem gap_tab (m : Int) (d : Nat) (t t' : List (List Int)) (k : Int) (hk : (k + 1) % m = 0) :
    (Pl.tab m d fun i j => Pl.pc t' i j + Pl.pc (Pl.tab m d fun i j => Pl.pc t i j * k) i j) = gapT m d t t' := by
  refine Pl.tab_congr (fun i j hij => ?_)
  rw [Pl.pc_tab hij, Int.add_emod, Int.emod_emod, ← Int.add_emod]
  have e : Pl.pc t' i j + Pl.pc t i j * k = (Pl.pc t' i j - Pl.pc t i j) + Pl.pc t i j * (k + 1) := by rw [Int.mul_add, Int.mul_one]; omega
  rw [e, Int.add_emod, Int.mul_emod, hk, Int.mul_zero, Int.zero_emod, Int.add_zero, Int.emod_emod]
set_option maxHeartbeats 4000000 in
set_option maxRecDepth 100000 in
theorem l07Gap_any (m : Int) (d : Nat) (A : Option Addr) (c : Nat) (t : List (List Int)) (A' : Option Addr) (c' : Nat) (t' : List (List Int)) (w : World) (ok : Pl.Ok m d t) (ok' : Pl.Ok m d t') (hr : RP w A t) (hr' : RP w A' t') :
    Calls Tryz.prog 53 #[.int .i64 m, .slice A t.length c, .slice A' t'.length c'] w fun e w' => ∃ v, e = .returned v ∧ OwnR w' w.heap.size w'.heap.size v (gapT m d t t') ∧ Below w.heap.size w w' := by
  have m1 := ok.m1
  have m2 := ok.m2
  have HS := Lib.hid (l03Scale_any m d (m - 1) A c t w ok hr (by omega) (by omega))
  have okS : Pl.Ok m d (Pl.tab m d fun i j => Pl.pc t i j * (m - 1)) := Pl.Ok.of_tab m1 m2 ok.d1 ok.d2 _
  have hA := fun A1 c1 W0 (h : Below w.heap.size w W0) (h1 : RP W0 A1 (Pl.tab m d fun i j => Pl.pc t i j * (m - 1))) => l03Add_any m d A' c' t' A1 c1 _ W0 ok' okS (hr'.below h) h1
  have hll : (Pl.tab m d fun i j => Pl.pc t i j * (m - 1)).length = d + 1 := Pl.tab_length _ _ _
  rw [gap_tab m d t t' (m - 1) (by rw [show m - 1 + 1 = m by omega, Int.emod_self]), hll] at hA
  have HA := Lib.hid hA
  have HLL := Lib.hid hll
  have n1 : IntKind.i64.wrap (m - 1) = m - 1 := by rw [IntKind.wrap_i64]; omega
  obtain ⟨G, hG⟩ : ∃ G, gapT m d t t' = G := ⟨_, rfl⟩
  rw [hG] at HA ⊢
  obtain ⟨T, hT⟩ : ∃ T, (Pl.tab m d fun i j => Pl.pc t i j * (m - 1)) = T := ⟨_, rfl⟩
  rw [hT] at HA HS HLL
  clear hA hll okS hr hr' ok ok' hG hT
  go_enter Tryz.func53, Tryz.ntmps53
  go_wp2_with fail
  refine HS.out.mono ?_
  rintro e w1 ⟨v, rfl, ho1, hb1⟩
  obtain ⟨A1, c1, rfl, -⟩ := ho1.len
  rw [HLL.out] at ho1 ⊢
  go_wp2_with fail
  refine (HA.out _ _ _ hb1 ho1.rp).mono ?_
  rintro e w2 ⟨v, rfl, ho2, hb2⟩
  have hB := below_step hb1 hb2
  have HO := Lib.hid (ho2.low hb1.size)
  have HB := Lib.hid hB
  clear ho1 ho2 hb1 hb2 hB
  go_wp2
  go_ret
  exact ⟨_, rfl, HO.out, HB.out⟩
end Go.Proofs.YtfhdgcndiljjcabGreat

/- Contract of factorTo. -/
namespace Go.Proofs.YtfhdgcndiljjcabGreat
open Go.RowKit Go.WideShapes Go.ChangeShapes Go.ChangeAt
set_option maxHeartbeats 8000000 in
set_option maxRecDepth 100000 in
theorem factorTo_any (m : Int) (d : Nat) (A : Option Addr) (c : Nat) (t : List (List Int)) (A' : Option Addr) (c' : Nat) (t' : List (List Int)) (w : World) (d2 : 2 ≤ d) (ok : Pl.Ok m d t) (ok' : Pl.Ok m d t') (hr : RP w A t) (hr' : RP w A' t') :
    Calls Tryz.prog 95 #[.agg #[.int .i64 m, .int .i64 d, .slice A t.length c], .agg #[.int .i64 m, .int .i64 d, .slice A' t'.length c']] w fun e w' => e = .returned (.int .i64 (Cyc.facM m (layC m (gapT m d t t') d) d)) ∧ Below w.heap.size w w' := by
  obtain ⟨W, hW, b1, b2, -, hwb⟩ := (⟨_, rfl, (GBox.new 57 w m d A t.length c).keep (below_one _ _), by have := GBox.new 57 (w.alloc (.cells #[.int .i64 m, .int .i64 d, .slice A t.length c] 57)) m d A' t'.length c'; simpa using this, trivial, below_alloc _ (below_one _ _)⟩ :
    ∃ W, (w.alloc (.cells #[.int .i64 m, .int .i64 d, .slice A t.length c] 57)).alloc (.cells #[.int .i64 m, .int .i64 d, .slice A' t'.length c'] 57) = W ∧ GBox W w.heap.size m d A t.length c ∧ GBox W (w.heap.size + 1) m d A' t'.length c' ∧ True ∧ Below w.heap.size w W)
  have m1 := ok.m1
  have m2 := ok.m2
  have hd2 := ok.d2
  have okg : Pl.Ok m d (gapT m d t t') := Pl.Ok.of_tab m1 m2 (by omega) hd2 _
  have HSC := Lib.hid (fun W0 (h : Below W.heap.size W W0) => gscaled_any m d A c t (-1) W0 ok ((hr.below hwb).below h) (by omega) (by omega))
  have hpl := fun A1 c1 W0 (h : Below W.heap.size W W0) (h1 : RP W0 A1 (Pl.tab m d fun i j => Pl.pc t i j * -1)) => gplus_any m d A' c' t' A1 c1 _ W0 ok' (ok.tab _) ((hr'.below hwb).below h) h1
  have hl1 : (Pl.tab m d fun i j => Pl.pc t i j * -1).length = d + 1 := Pl.tab_length _ _ _
  rw [gap_tab m d t t' (-1) (by rfl), hl1] at hpl
  have hl2 : (gapT m d t t').length = d + 1 := Pl.tab_length _ _ _
  have hly := fun A1 c1 W0 (h : RP W0 A1 (gapT m d t t')) => layer_any m d A1 c1 (gapT m d t t') d W0 okg h (Nat.le_refl _)
  rw [hl2] at hly
  have hll := layC_length m (gapT m d t t') d
  have hlb : ∀ i, 0 ≤ Ser.co (layC m (gapT m d t t') d) i ∧ Ser.co (layC m (gapT m d t t') d) i < m := fun i => by
    by_cases hi : i ≤ d
    · rw [layC_co okg d i hi]; exact okg.pc i (d - i)
    · rw [Ser.co_over (by rw [hll]; omega)]; omega
  have hfo := fun A1 c1 W0 (h : RI W0 A1 (layC m (gapT m d t t') d)) => factorOfLayer_any m d A1 c1 (layC m (gapT m d t t') d) W0 m1 m2 d2 hd2 hll hlb h
  rw [hll] at hfo
  obtain ⟨G, hG⟩ : ∃ G, gapT m d t t' = G := ⟨_, rfl⟩
  rw [hG] at hly hll hfo hpl hl2 ⊢
  obtain ⟨C, hC⟩ : ∃ C, layC m G d = C := ⟨_, rfl⟩
  rw [hC] at hly hfo hll ⊢
  obtain ⟨X, hX⟩ : ∃ X, Cyc.facM m C d = X := ⟨_, rfl⟩
  rw [hX] at hfo ⊢
  obtain ⟨T, hT⟩ : ∃ T, (Pl.tab m d fun i j => Pl.pc t i j * -1) = T := ⟨_, rfl⟩
  rw [hT] at hpl HSC hl1
  have HPL := Lib.hid hpl
  have HLY := Lib.hid hly
  have HFO := Lib.hid hfo
  have HL1 := Lib.hid hl1
  have HL2 := Lib.hid hl2
  have HLL := Lib.hid hll
  have HB := Lib.hid hwb
  have HW := Lib.hid hW
  have hn1 : IntKind.i64.wrap (-1) = -1 := by decide
  have HF := Lib.hid (fun w' (h : Below W.heap.size W w') => (⟨⟨(b1.keep h).1, (b1.keep h).2.1, (b1.keep h).2.2.1⟩, (b2.keep h).1, (b2.keep h).2.1, (b2.keep h).2.2.1⟩ :
    (w'.cell? ⟨w.heap.size, 0, none⟩ = some (.int .i64 m) ∧ w'.cell? ⟨w.heap.size, 1, none⟩ = some (.int .i64 d) ∧ w'.cell? ⟨w.heap.size, 2, none⟩ = some (.slice A t.length c)) ∧
    (w'.cell? ⟨w.heap.size + 1, 0, none⟩ = some (.int .i64 m) ∧ w'.cell? ⟨w.heap.size + 1, 1, none⟩ = some (.int .i64 d) ∧ w'.cell? ⟨w.heap.size + 1, 2, none⟩ = some (.slice A' t'.length c'))))
  obtain ⟨L, hL⟩ : ∃ L, t.length = L := ⟨_, rfl⟩
  obtain ⟨L', hL'⟩ : ∃ L, t'.length = L := ⟨_, rfl⟩
  rw [hL] at HSC HW HF ⊢
  rw [hL'] at HPL HW HF ⊢
  have X0 := Lib.hid (keepW HF.out (below_drew0 W))
  have HW0 := Lib.hid (below_drew0 W)
  clear b1 b2 hwb hW hr hr' ok ok' okg hpl hl1 hl2 hly hll hlb hfo hG hC hX hT hL hL'
  go_enter Tryz.func95, Tryz.ntmps95
  go_wp2_with fail
  rw [HW.out]
  go_region_held3 (fun w' => ((w'.cell? ⟨w.heap.size, 0, none⟩ = some (.int .i64 m) ∧ w'.cell? ⟨w.heap.size, 1, none⟩ = some (.int .i64 d) ∧ w'.cell? ⟨w.heap.size, 2, none⟩ = some (.slice A L c)) ∧
    (w'.cell? ⟨w.heap.size + 1, 0, none⟩ = some (.int .i64 m) ∧ w'.cell? ⟨w.heap.size + 1, 1, none⟩ = some (.int .i64 d) ∧ w'.cell? ⟨w.heap.size + 1, 2, none⟩ = some (.slice A' L' c'))) ∧ Below W.heap.size W w') (first | exact X0.out | exact keepS HF.out (Nat.le_refl _) (by assumption) hb9 | exact keepS HF.out (Nat.le_refl _) (by assumption) hb8 | exact keepS HF.out (Nat.le_refl _) (by assumption) hb7 | exact keepS HF.out (Nat.le_refl _) (by assumption) hb6) (first
    | (go_at_call 130; with_reducible refine Calls.mono (HSC.out _ HW0.out) ?_; rintro e w6 ⟨s6, rfl, ho6, hb6⟩; obtain ⟨A6, c6, rfl, -⟩ := ho6.len; have hq := below_step HW0.out hb6; rw [HL1.out])
    | (go_at_call 129; with_reducible refine Calls.mono (HPL.out _ _ _ hq ho6.rp) ?_; rintro e w7 ⟨s7, rfl, ho7, hb7⟩; obtain ⟨A7, c7, rfl, -⟩ := ho7.len; have hq := below_step hq hb7; rw [HL2.out])
    | (go_at_call 131; with_reducible refine Calls.mono (HLY.out _ _ _ ho7.rp) ?_; rintro e w8 ⟨s8, rfl, ho8, hb8⟩; obtain ⟨A8, c8, rfl, hri⟩ := ho8.form; have hq := below_step hq hb8; rw [HLL.out])
    | (go_at_call 128; with_reducible refine Calls.mono (HFO.out _ _ _ hri) ?_; rintro e w9 ⟨rfl, hb9⟩; have hq := below_step hq hb9))
  all_goals
    have HB9 := Lib.hid (below_step HB.out hq)
    clear hq
    go_wp2
    go_ret
    exact ⟨rfl, HB9.out⟩
end Go.Proofs.YtfhdgcndiljjcabGreat

/- Plain facts: tables under their product are a commutative ring; Horner's tables of any list; quotients: no program in sight. -/
namespace Go.Proofs.YtfhdgcndiljjcabGreat
namespace Ser
theorem psum_rev' (f : Nat → Int) (n : Nat) : psum (fun i => f (n - i)) (n + 1) = psum f (n + 1) := by
  have h1 := cv_psum n (fun _ => 1) f
  have h2 := cv_psum n f (fun _ => 1)
  rw [cv_comm, h2] at h1
  rw [psum_ext (f := fun i => f i * 1) (g := f) _ (fun i _ => Int.mul_one _), psum_ext (f := fun i => 1 * f (n - i)) (g := fun i => f (n - i)) _ (fun i _ => Int.one_mul _)] at h1
  exact h1.symm
theorem psum_tri : ∀ (p : Nat) (g : Nat → Nat → Nat → Int), psum (fun k => psum (fun i => g i (k - i) (p - k)) (k + 1)) (p + 1) = psum (fun i => psum (fun j => g i j (p - i - j)) (p - i + 1)) (p + 1) := by
  intro p
  induction p with
  | zero => intro g; rfl
  | succ p ih =>
    intro g
    have e1 : psum (fun k => psum (fun i => g i (k - i) (p + 1 - k)) (k + 1)) (p + 1 + 1) = psum (fun k => g 0 k (p + 1 - k)) (p + 1 + 1) + psum (fun k => psum (fun i => g (i + 1) (k - i) (p - k)) (k + 1)) (p + 1) := by
      rw [psum_ext (g := fun k => g 0 k (p + 1 - k) + psum (fun i => g (i + 1) (k - (i + 1)) (p + 1 - k)) k) _ (fun k _ => by rw [psum_left]; rfl), psum_add]
      congr 1
      rw [psum_left]
      show 0 + _ = _
      rw [Int.zero_add]
      exact psum_ext _ (fun k _ => psum_ext _ (fun i _ => by rw [show k + 1 - (i + 1) = k - i by omega, show p + 1 - (k + 1) = p - k by omega]))
    have e2 : psum (fun i => psum (fun j => g i j (p + 1 - i - j)) (p + 1 - i + 1)) (p + 1 + 1) = psum (fun k => g 0 k (p + 1 - k)) (p + 1 + 1) + psum (fun i => psum (fun j => g (i + 1) j (p - i - j)) (p - i + 1)) (p + 1) := by
      rw [psum_left]
      congr 1
      exact psum_ext _ (fun i _ => by
        rw [show p + 1 - (i + 1) + 1 = p - i + 1 by omega]
        exact psum_ext _ (fun j _ => by rw [show p + 1 - (i + 1) - j = p - i - j by omega]))
    rw [e1, e2, ih (fun i j k => g (i + 1) j k)]
end Ser
namespace Pl
open Ser (psum)
theorem mul2_comm (a b : Nat → Nat → Int) : mul2 a b = mul2 b a := by
  funext p q
  unfold mul2
  rw [← Ser.psum_rev' (fun k => psum (fun l => a k l * b (p - k) (q - l)) (q + 1)) p]
  refine Ser.psum_ext _ (fun k hk => ?_)
  rw [← Ser.psum_rev' (fun l => a (p - k) l * b (p - (p - k)) (q - l)) q]
  refine Ser.psum_ext _ (fun l hl => ?_)
  rw [show p - (p - k) = k by omega, show q - (q - l) = l by omega, Int.mul_comm]
theorem mul2_assoc (a b c : Nat → Nat → Int) : mul2 (mul2 a b) c = mul2 a (mul2 b c) := by
  funext p q
  have e1 : mul2 (mul2 a b) c p q = psum (fun k => psum (fun i => psum (fun l => psum (fun j => a i j * b (k - i) (l - j) * c (p - k) (q - l)) (l + 1)) (q + 1)) (k + 1)) (p + 1) := by
    unfold mul2
    refine Ser.psum_ext _ (fun k _ => ?_)
    rw [Ser.psum_swap]
    refine Ser.psum_ext _ (fun l _ => ?_)
    rw [← Ser.psum_mul']
    refine Ser.psum_ext _ (fun i _ => ?_)
    rw [← Ser.psum_mul']
  have e2 : mul2 a (mul2 b c) p q = psum (fun i => psum (fun k => psum (fun j => psum (fun l => a i j * b k l * c (p - i - k) (q - j - l)) (q - j + 1)) (q + 1)) (p - i + 1)) (p + 1) := by
    unfold mul2
    refine Ser.psum_ext _ (fun i _ => ?_)
    rw [Ser.psum_swap]
    refine Ser.psum_ext _ (fun j _ => ?_)
    rw [← Ser.psum_mul]
    refine Ser.psum_ext _ (fun k _ => ?_)
    rw [← Ser.psum_mul]
    exact Ser.psum_ext _ (fun l _ => (Int.mul_assoc _ _ _).symm)
  rw [e1, e2, Ser.psum_tri p (fun i k k' => psum (fun l => psum (fun j => a i j * b k (l - j) * c k' (q - l)) (l + 1)) (q + 1))]
  refine Ser.psum_ext _ (fun i _ => Ser.psum_ext _ (fun k _ => ?_))
  exact Ser.psum_tri q (fun j l l' => a i j * b k l * c (p - i - k) l')
theorem mul2_lc (a b c : Nat → Nat → Int) : mul2 a (mul2 b c) = mul2 b (mul2 a c) := by rw [← mul2_assoc, mul2_comm a b, mul2_assoc]
/-- sums and multiples -/
def pl (a b : Nat → Nat → Int) : Nat → Nat → Int := fun i j => a i j + b i j
def sm (c : Int) (a : Nat → Nat → Int) : Nat → Nat → Int := fun i j => c * a i j
theorem pl_mul2 (a b c : Nat → Nat → Int) : mul2 (pl a b) c = pl (mul2 a c) (mul2 b c) := by funext p q; exact mul2_add a b c p q
theorem mul2_pl (a b c : Nat → Nat → Int) : mul2 a (pl b c) = pl (mul2 a b) (mul2 a c) := by rw [mul2_comm, pl_mul2, mul2_comm b, mul2_comm c]
theorem sm_mul2 (c : Int) (a b : Nat → Nat → Int) : mul2 (sm c a) b = sm c (mul2 a b) := by funext p q; exact mul2_smul c a b p q
theorem mul2_sm (c : Int) (a b : Nat → Nat → Int) : mul2 a (sm c b) = sm c (mul2 a b) := by rw [mul2_comm, sm_mul2, mul2_comm b]
theorem one2_mul2 (c : Int) (b : Nat → Nat → Int) : mul2 (one2 c) b = sm c b := by
  funext p q
  unfold mul2
  rw [Ser.psum_left, Ser.psum_left]
  have z1 : psum (fun i => one2 c 0 (i + 1) * b (p - 0) (q - (i + 1))) q = 0 := Ser.psum_low _ _ (fun i _ => by unfold one2; rw [if_neg (by omega), Int.zero_mul])
  have z2 : psum (fun i => psum (fun l => one2 c (i + 1) l * b (p - (i + 1)) (q - l)) (q + 1)) p = 0 := Ser.psum_low _ _ (fun i _ => Ser.psum_low _ _ (fun l _ => by unfold one2; rw [if_neg (by omega), Int.zero_mul]))
  rw [z1, z2]
  show one2 c 0 0 * b p q + 0 + 0 = c * b p q
  have : one2 c 0 0 = c := if_pos ⟨rfl, rfl⟩
  rw [this, Int.add_zero, Int.add_zero]
theorem mul2_one2 (c : Int) (b : Nat → Nat → Int) : mul2 b (one2 c) = sm c b := by rw [mul2_comm, one2_mul2]
theorem sm_one2 (c e : Int) : sm c (one2 e) = one2 (c * e) := by
  funext i j
  unfold sm one2
  split
  · rfl
  · exact Int.mul_zero c
theorem sm_sm (c e : Int) (a : Nat → Nat → Int) : sm c (sm e a) = sm (c * e) a := by funext i j; exact (Int.mul_assoc _ _ _).symm
theorem one_sm (a : Nat → Nat → Int) : sm 1 a = a := by funext i j; exact Int.one_mul _
theorem Eq.pl {m : Int} {d : Nat} {a a' b b' : Nat → Nat → Int} (h : Eq m d a a') (k : Eq m d b b') : Eq m d (pl a b) (pl a' b') := fun i j hij => Ser.add_cong (h i j hij) (k i j hij)
theorem Eq.sm {m : Int} {d : Nat} {a a' : Nat → Nat → Int} (c : Int) (h : Eq m d a a') : Eq m d (sm c a) (sm c a') := fun i j hij => Ser.mul_cong rfl (h i j hij)
theorem Eq.mul2 {m : Int} {d : Nat} {a a' b b' : Nat → Nat → Int} (h : Eq m d a a') (k : Eq m d b b') : Eq m d (mul2 a b) (mul2 a' b') := mul2_congr h k
/-- equal functions -/
theorem Eq.fn {m : Int} {d : Nat} {a b : Nat → Nat → Int} (h : a = b) : Eq m d a b := h ▸ Eq.refl m d a
/-! the value of a polynomial at a table, by Horner's rule: the list's first number is the constant -/
theorem zero_mul2 (F : Nat → Nat → Int) : mul2 (fun _ _ => 0) F = fun _ _ => 0 := by
  have : (fun _ _ => (0 : Int)) = sm 0 F := by funext i j; exact (Int.zero_mul _).symm
  rw [this, sm_mul2]
  funext i j
  exact (Int.zero_mul _).trans (Int.zero_mul _).symm
/-! quotients -/
end Pl
end Go.Proofs.YtfhdgcndiljjcabGreat

/- Contracts of the model's typical laws: most, copies and powers of tables. -/
namespace Go.Proofs.YtfhdgcndiljjcabGreat
open Go.RowKit Go.WideShapes Go.ChangeShapes Go.ChangeAt
set_option maxHeartbeats 1000000 in
theorem l09Most_any (p d : Nat) (w : World) (hp : p = 2 ∨ p = 3 ∨ p = 5 ∨ p = 7) (hd1 : 1 ≤ d) (hd : d ≤ 10) :
    Calls Tryz.prog 49 #[.int .i64 p, .int .i64 d] w fun e w' => e = .returned (.tuple #[.int .i64 (needN p d), .int .i64 (p ^ needN p d : Nat)]) ∧ w = w' := by
  have HL := Lib.hid (fun k (h : p ^ k ≤ d) => pow_lt11 hp hd h)
  have HE := Lib.hid (fun k (hk : k ≤ 3) (h1 : k = 0 ∨ p ^ k ≤ d) (h2 : d < p ^ (k + 1)) => needN_is p (in4 hp) d (List.mem_range.2 (by omega)) k (List.mem_range.2 (by omega)) h1 h2)
  have hp7 : p ≤ 7 := by omega
  clear hp
  go_enter Tryz.func49, Tryz.ntmps49
  go_wp2
  go_loop [6, 7] (fun s6 s7 => ∃ k : Nat, k ≤ 3 ∧ p ^ k ≤ d ∧ s6 = .int .i64 k ∧ s7 = .int .i64 (p ^ k : Nat)) (fun s6 _ => 4 - (intOf s6).toNat)
  case atStart => exact ⟨0, by omega, by rw [Nat.pow_zero]; exact hd1, rfl, rfl⟩
  case round =>
    obtain ⟨k, hk, hk2, rfl, rfl⟩ := hrel
    have HK := Lib.hid hk2
    have HQ2 := Lib.hid (Nat.pow_succ p k)
    obtain ⟨q, hq⟩ : ∃ q, p ^ k = q := ⟨_, rfl⟩
    have HQ := Lib.hid hq
    rw [hq] at hk2 ⊢
    clear hq
    have hm : 0 ≤ (q : Int) * (p : Int) ∧ (q : Int) * (p : Int) ≤ 70 := by
      refine ⟨Int.mul_nonneg (by omega) (by omega), ?_⟩
      have := Int.mul_le_mul (show (q : Int) ≤ 10 by omega) (show (p : Int) ≤ 7 by omega) (by omega) (by omega)
      omega
    have HM := Lib.hid (show (q : Int) * (p : Int) = ((p ^ (k + 1) : Nat) : Int) by rw [HQ2.out, HQ.out, Int.natCast_mul])
    by_cases hlt : (q : Int) * (p : Int) ≤ (d : Int)
    · have hle : p ^ (k + 1) ≤ d := by have := HM.out; omega
      have h3 := HL.out (k + 1) hle
      have HLE := Lib.hid hle
      clear hle
      go_wp2
      go_round
      case rel => exact ⟨k + 1, by omega, HLE.out, by go_num, by rw [HM.out]⟩
      case measure => simp only [intOf]; omega
    · have HN := Lib.hid (HE.out k hk (.inr HK.out) (by have := HM.out; omega))
      go_wp2
      go_ret2
      exact ⟨ret_ii (by rw [HN.out]) (by rw [HN.out, ← HQ.out]; first | rfl | simp), rfl⟩
theorem row_self {m : Int} {d : Nat} {t : List (List Int)} (hs : Pl.OkG m d t) (q : Nat) (hq : q ≤ d) : Ser.cut m (d - q) (Pl.pc t q) = Pl.rw' t q := Ser.cut_self (hs.row q hq) (hs.red q)
set_option maxHeartbeats 2000000 in
set_option maxRecDepth 100000 in
theorem l01Own2_any (m : Int) (d : Nat) (A : Option Addr) (c : Nat) (t : List (List Int)) (w : World) (hs : Pl.OkG m d t) (hr : RP w A t) :
    Calls Tryz.prog 62 #[.slice A t.length c] w fun e' w' => ∃ v, e' = .returned v ∧ OwnR w' w.heap.size w'.heap.size v (Pl.tab m d (Pl.pc t)) ∧ Below w.heap.size w w' := by
  have HR := Lib.hid hr
  have HS := Lib.hid hs
  have hl := hs.len
  have hd2 := hs.d2
  obtain ⟨L, hL⟩ : ∃ L, t.length = L := ⟨_, rfl⟩
  have HL := Lib.hid (hL.symm.trans hl)
  have hLb : L ≤ 11 := by omega
  rw [hL]
  clear hr hs hL hl
  go_enter Tryz.func62, Tryz.ntmps62
  go_wp2
  go_loopw [3, 4] (fun r i wr => ∃ q : Nat, q ≤ L ∧ i = .int .i64 q ∧ OwnR wr w.heap.size wr.heap.size r ((Pl.tab m d (Pl.pc t)).take q) ∧ Below w.heap.size w wr) (fun _ i _ => L - (intOf i).toNat)
  case atStart => exact ⟨0, Nat.zero_le _, rfl, by simpa using OwnR.none0 w, below_one _ _⟩
  case round =>
    obtain ⟨q, hq, rfl, hown, hbel⟩ := hrel
    have HB := Lib.hid hbel
    have HO := Lib.hid hown
    have hsz := hbel.size
    clear hown
    by_cases hlt : q < L
    · have hLd := HL.out
      obtain ⟨b, off, A1, c1, rfl, hb, hc, hcap, hri⟩ := HR.out.at q (by rw [HS.out.len]; omega)
      have e1 := (hbel.cell (p := ⟨b, off + q, none⟩) hb).trans hc
      have hrl := HS.out.row q (by omega)
      obtain ⟨row, hrow⟩ : ∃ row, Pl.rw' t q = row := ⟨_, rfl⟩
      have hst : (Pl.tab m d (Pl.pc t)).take (q + 1) = (Pl.tab m d (Pl.pc t)).take q ++ [row] := by rw [Pl.tab_take_succ m d _ q (by omega), row_self HS.out q (by omega), hrow]
      rw [hrow] at hrl hri e1
      have HA := Lib.hid (l01Own_any A1 c1 row wr (by intro h; rw [h] at hrl; simp at hrl) (by omega) (hri.below hbel))
      have HLEN := Lib.hid (show ((Pl.tab m d (Pl.pc t)).take q).length ≤ 1000000000000 by rw [List.length_take, Pl.tab_length]; omega)
      obtain ⟨M, hM⟩ : ∃ M, row.length = M := ⟨_, rfl⟩
      rw [hM] at HA e1
      have HST := Lib.hid hst
      have j0 : (0 : Int) ≤ (q : Int) := by omega
      have j1 : (q : Int) < (L : Int) := by omega
      clear hst hri hc hLd hbel hM hrl hcap hrow
      go_wp2_with fail
      refine HA.out.mono ?_
      rintro e' w5 ⟨u, rfl, hou, hb5⟩
      obtain ⟨Au, cu, rfl, -⟩ := hou.form
      go_wp2_with (at_builtin; refine wp_pushU _ _ _ (by rfl) (by rfl) Tryz.underlying22 w.heap.size wr.heap.size _ _ (by rfl) (HO.out.keep hb5) hb5.size (.slice Au row.length cu) row (hou.more hsz) (fun g hg => (hou.lt g hg).1) w5.heap.size rfl (by rfl) HLEN.out (Nat.le_trans hsz hb5.size) ?_; intro v' w1 ho1 hpb)
      have HB1 := Lib.hid ((HB.out.trans (hb5.mono hsz)).trans hpb)
      have HO1 := Lib.hid ho1
      clear ho1 hpb hou hb5
      go_wp2
      go_roundw
      case rel => exact ⟨q + 1, by omega, by go_num, by rw [HST.out]; exact HO1.out, HB1.out⟩
      case measure => simp only [intOf]; omega
    · obtain rfl : q = L := by omega
      have ho := HO.out
      rw [HL.out, Pl.tab_take_all] at ho
      have HF := Lib.hid ho
      clear ho
      go_wp2
      go_ret
      exact ⟨_, rfl, HF.out, HB.out⟩
/-- powers of a table -/
def Pl.pwF (F : Nat → Nat → Int) : Nat → Nat → Nat → Int
  | 0 => Pl.one2 1
  | k + 1 => Pl.mul2 (Pl.pwF F k) F
theorem Pl.pwF_one (F : Nat → Nat → Int) : Pl.pwF F 1 = F := by
  show Pl.mul2 (Pl.one2 1) F = F
  rw [Pl.one2_mul2, Pl.one_sm]
theorem Pl.pwF_congr {m : Int} {d : Nat} {F G : Nat → Nat → Int} (h : Pl.Eq m d F G) : ∀ k, Pl.Eq m d (Pl.pwF F k) (Pl.pwF G k)
  | 0 => Pl.Eq.refl _ _ _
  | k + 1 => Pl.Eq.mul2 (Pl.pwF_congr h k) h
set_option maxHeartbeats 2000000 in
set_option maxRecDepth 100000 in
theorem l09Power_any (m : Int) (d : Nat) (A : Option Addr) (c : Nat) (t : List (List Int)) (K : Nat) (w : World) (hs : Pl.OkG m d t) (hK : 1 ≤ K) (hK2 : K ≤ 1000000) (hr : RP w A t) :
    Calls Tryz.prog 122 #[.int .i64 m, .slice A t.length c, .int .i64 K] w fun e w' => ∃ A1 c1, e = .returned (.slice A1 (d + 1) c1) ∧ RP w' A1 (Pl.tab m d (Pl.pwF (Pl.pc t) K)) ∧ Below w.heap.size w w' := by
  have HT := Lib.hid (fun (j : Nat) A1 c1 W0 (h1 : RP W0 A1 (Pl.tab m d (Pl.pwF (Pl.pc t) j))) (h2 : RP W0 A t) => by
    have := l03Times_anyG m d A1 c1 (Pl.tab m d (Pl.pwF (Pl.pc t) j)) A c t W0 (hs.tab _) hs h1 h2
    rw [Pl.tab_length, hs.len, Pl.tab_congr (Pl.Eq.mul2 (Pl.pc_tab_eq m d (Pl.pwF (Pl.pc t) j)) (Pl.Eq.refl m d (Pl.pc t)))] at this
    exact this)
  have H1 : RP w A (Pl.tab m d (Pl.pwF (Pl.pc t) 1)) := by rw [Pl.pwF_one, ← hs.self]; exact hr
  have HR1 := Lib.hid H1
  have HR := Lib.hid hr
  have hl := hs.len
  rw [hl]
  clear hs hr H1 hl
  go_enter Tryz.func122, Tryz.ntmps122
  go_wp2
  go_loopw [2, 7] (fun s2 s7 wr => ∃ (j : Nat) (A1 : Option Addr) (c1 : Nat), 1 ≤ j ∧ j ≤ K ∧ s2 = .int .i64 ((K : Int) - (j : Int) + 1) ∧ s7 = .slice A1 (d + 1) c1 ∧ RP wr A1 (Pl.tab m d (Pl.pwF (Pl.pc t) j)) ∧ Below w.heap.size w wr) (fun s2 _ _ => (intOf s2).toNat)
  case atStart => exact ⟨1, A, c, Nat.le_refl _, hK, by go_num, rfl, HR1.out, Below.refl _ _⟩
  case round =>
    obtain ⟨j, A1, c1, hj1, hj2, rfl, rfl, hrp, hb⟩ := hrel
    have HRP := Lib.hid hrp
    have HB := Lib.hid hb
    clear hrp hb
    by_cases hlt : j < K
    · have i1 : (K : Int) - (j : Int) + 1 > 1 := by omega
      go_wp2_with fail
      refine (HT.out j A1 c1 wr HRP.out (HR.out.below HB.out)).mono ?_
      rintro e w1 ⟨v, rfl, ho, hb1⟩
      obtain ⟨A2, c2, hv2, -⟩ := ho.len
      subst hv2
      rw [Pl.tab_length] at ho ⊢
      have hrp := ho.rp
      have hb2 := below_step HB.out hb1
      clear ho hb1
      go_wp2
      go_roundw
      case rel => exact ⟨j + 1, A2, c2, by omega, by omega, by go_num, rfl, hrp, hb2⟩
      case measure => simp only [intOf]; omega
    · obtain rfl : j = K := by omega
      have i1 : ¬ ((j : Int) - (j : Int) + 1 > 1) := by omega
      go_wp2
      go_ret
      exact ⟨A1, ⟨c1, rfl⟩, HRP.out, HB.out⟩
end Go.Proofs.YtfhdgcndiljjcabGreat

/- Plain: Hazewinkel's theorem up to degree 10, by certificates: the typical laws of 2, 3, 5, 7 with whole polynomials as coefficients. Written by wip/tools/mk_tyc.py. -/
namespace Go.Proofs.YtfhdgcndiljjcabGreat
namespace Tyc
/-- c v1^a v2^b v3^e -/
structure Mo where
  c : Int
  a : Nat
  b : Nat
  e : Nat
abbrev Po := List Mo
def same (x y : Mo) : Bool := x.a == y.a && x.b == y.b && x.e == y.e
def ins (x : Mo) : Po → Po
  | [] => [x]
  | y :: l => if same x y then ⟨x.c + y.c, y.a, y.b, y.e⟩ :: l else y :: ins x l
def add (p q : Po) : Po := p.foldr ins q
def poMon (x : Mo) (q : Po) : Po := q.map fun y => ⟨x.c * y.c, x.a + y.a, x.b + y.b, x.e + y.e⟩
def poMul (p q : Po) : Po := p.foldr (fun x acc => add (poMon x q) acc) []
def smul (k : Int) (q : Po) : Po := q.map fun y => ⟨k * y.c, y.a, y.b, y.e⟩
def allZ (p : Po) : Bool := p.all fun x => x.c == 0
def rsum (f : Nat → Po) : Nat → Po
  | 0 => []
  | n + 1 => add (rsum f n) (f n)
def get (T : List (List Po)) (i j : Nat) : Po := (T[i]?.getD [])[j]?.getD []
def tabP (d : Nat) (f : Nat → Nat → Po) : List (List Po) := (List.range (d + 1)).map fun i => (List.range (d + 1 - i)).map (f i)
def poTim (d : Nat) (T U : List (List Po)) : List (List Po) := tabP d fun p q => rsum (fun k => rsum (fun l => if (get T k l).isEmpty then [] else poMul (get T k l) (get U (p - k) (q - l))) (q + 1)) (p + 1)
def mev (v : Nat → Int) (x : Mo) : Int := x.c * (v 0 ^ x.a * (v 1 ^ x.b * v 2 ^ x.e))
def pev (v : Nat → Int) : Po → Int
  | [] => 0
  | x :: l => mev v x + pev v l
theorem pev_ins (v : Nat → Int) (x : Mo) : ∀ l, pev v (ins x l) = mev v x + pev v l
  | [] => rfl
  | y :: l => by
    unfold ins
    by_cases h : same x y = true
    · rw [if_pos h]
      unfold same at h
      simp only [Bool.and_eq_true, beq_iff_eq] at h
      show mev v ⟨x.c + y.c, y.a, y.b, y.e⟩ + pev v l = mev v x + (mev v y + pev v l)
      unfold mev
      dsimp only
      rw [h.1.1, h.1.2, h.2, Int.add_mul]; omega
    · rw [if_neg h]
      show mev v y + pev v (ins x l) = mev v x + (mev v y + pev v l)
      rw [pev_ins v x l]; omega
theorem pev_add (v : Nat → Int) (q : Po) : ∀ p, pev v (add p q) = pev v p + pev v q
  | [] => by show pev v q = 0 + pev v q; omega
  | x :: p => by
    show pev v (ins x (add p q)) = mev v x + pev v p + pev v q
    rw [pev_ins, pev_add v q p]; omega
theorem pev_poMon (v : Nat → Int) (x : Mo) : ∀ q, pev v (poMon x q) = mev v x * pev v q
  | [] => by show (0 : Int) = _ * 0; omega
  | y :: q => by
    show mev v ⟨x.c * y.c, x.a + y.a, x.b + y.b, x.e + y.e⟩ + pev v (poMon x q) = mev v x * (mev v y + pev v q)
    rw [pev_poMon v x q, Int.mul_add]
    congr 1
    unfold mev
    dsimp only
    rw [Int.pow_add, Int.pow_add, Int.pow_add]
    grind
theorem pev_poMul (v : Nat → Int) (q : Po) : ∀ p, pev v (poMul p q) = pev v p * pev v q
  | [] => by show (0 : Int) = 0 * _; omega
  | x :: p => by
    show pev v (add (poMon x q) (poMul p q)) = (mev v x + pev v p) * pev v q
    rw [pev_add, pev_poMon, pev_poMul v q p, Int.add_mul]
theorem pev_smul (v : Nat → Int) (k : Int) : ∀ q, pev v (smul k q) = k * pev v q
  | [] => by show (0 : Int) = _ * 0; omega
  | y :: q => by
    show mev v ⟨k * y.c, y.a, y.b, y.e⟩ + pev v (smul k q) = k * (mev v y + pev v q)
    rw [pev_smul v k q, Int.mul_add]
    congr 1
    unfold mev
    dsimp only
    rw [Int.mul_assoc]
theorem pev_allZ (v : Nat → Int) : ∀ p, allZ p = true → pev v p = 0
  | [], _ => rfl
  | x :: p, h => by
    unfold allZ at h
    rw [List.all_cons, Bool.and_eq_true, beq_iff_eq] at h
    show mev v x + pev v p = 0
    rw [pev_allZ v p h.2]
    unfold mev
    rw [h.1, Int.zero_mul]; rfl
theorem pev_rsum (v : Nat → Int) (f : Nat → Po) : ∀ n, pev v (rsum f n) = Ser.psum (fun i => pev v (f i)) n
  | 0 => rfl
  | n + 1 => by
    show pev v (add (rsum f n) (f n)) = _
    rw [pev_add, pev_rsum v f n, Ser.psum]
/-- the table of the values -/
def evT (v : Nat → Int) (T : List (List Po)) : Nat → Nat → Int := fun i j => pev v (get T i j)
theorem get_tab {d : Nat} {f : Nat → Nat → Po} {i j : Nat} (h : i + j ≤ d) : get (tabP d f) i j = f i j := by
  unfold get tabP
  rw [List.getElem?_map, List.getElem?_range (by omega)]
  show (((List.range (d + 1 - i)).map (f i))[j]?).getD [] = _
  rw [List.getElem?_map, List.getElem?_range (by omega)]; rfl
theorem evT_poT (v : Nat → Int) (d : Nat) (T U : List (List Po)) (p q : Nat) (h : p + q ≤ d) : evT v (poTim d T U) p q = Pl.mul2 (evT v T) (evT v U) p q := by
  unfold evT poTim Pl.mul2
  rw [get_tab h, pev_rsum]
  refine Ser.psum_ext _ (fun k _ => ?_)
  rw [pev_rsum]
  refine Ser.psum_ext _ (fun l _ => ?_)
  by_cases he : (get T k l).isEmpty = true
  · rw [if_pos he]
    rw [List.isEmpty_iff] at he
    show (0 : Int) = pev v (get T k l) * _
    rw [he]
    show (0 : Int) = 0 * _
    rw [Int.zero_mul]
  · rw [if_neg he, pev_poMul]
/-- equal up to the degree -/
def Up (d : Nat) (a b : Nat → Nat → Int) : Prop := ∀ i j, i + j ≤ d → a i j = b i j
theorem Up.mul {d : Nat} {a a' b b' : Nat → Nat → Int} (h : Up d a a') (k : Up d b b') : Up d (Pl.mul2 a b) (Pl.mul2 a' b') := fun i j hij => by
  unfold Pl.mul2
  exact Ser.psum_ext _ (fun x hx => Ser.psum_ext _ (fun y hy => by rw [h x y (by omega), k (i - x) (j - y) (by omega)]))
theorem evT_up (v : Nat → Int) (d : Nat) {T U : List (List Po)} {a b : Nat → Nat → Int} (h : Up d (evT v T) a) (k : Up d (evT v U) b) : Up d (evT v (poTim d T U)) (Pl.mul2 a b) := fun i j hij => by
  rw [evT_poT v d T U i j hij]
  exact Up.mul h k i j hij
/-! the laws -/
def FL2 : List (List (List Mo)) := [
  [[], [⟨1, 0, 0, 0⟩]],
  [[⟨1, 0, 0, 0⟩], [⟨-1, 1, 0, 0⟩], [⟨1, 2, 0, 0⟩], [⟨-2, 0, 1, 0⟩, ⟨-2, 3, 0, 0⟩], [⟨4, 1, 1, 0⟩, ⟨3, 4, 0, 0⟩], [⟨-6, 2, 1, 0⟩, ⟨-4, 5, 0, 0⟩], [⟨4, 0, 2, 0⟩, ⟨12, 3, 1, 0⟩, ⟨6, 6, 0, 0⟩], [⟨-4, 0, 0, 1⟩, ⟨-14, 1, 2, 0⟩, ⟨-24, 4, 1, 0⟩, ⟨-10, 7, 0, 0⟩], [⟨8, 1, 0, 1⟩, ⟨28, 2, 2, 0⟩, ⟨40, 5, 1, 0⟩, ⟨15, 8, 0, 0⟩], [⟨-8, 0, 3, 0⟩, ⟨-12, 2, 0, 1⟩, ⟨-58, 3, 2, 0⟩, ⟨-66, 6, 1, 0⟩, ⟨-22, 9, 0, 0⟩]],
  [[], [⟨1, 2, 0, 0⟩], [⟨-3, 0, 1, 0⟩, ⟨-4, 3, 0, 0⟩], [⟨11, 1, 1, 0⟩, ⟨10, 4, 0, 0⟩], [⟨-28, 2, 1, 0⟩, ⟨-21, 5, 0, 0⟩], [⟨18, 0, 2, 0⟩, ⟨75, 3, 1, 0⟩, ⟨43, 6, 0, 0⟩], [⟨-14, 0, 0, 1⟩, ⟨-89, 1, 2, 0⟩, ⟨-190, 4, 1, 0⟩, ⟨-88, 7, 0, 0⟩], [⟨46, 1, 0, 1⟩, ⟨257, 2, 2, 0⟩, ⟨420, 5, 1, 0⟩, ⟨169, 8, 0, 0⟩], [⟨-72, 0, 3, 0⟩, ⟨-104, 2, 0, 1⟩, ⟨-688, 3, 2, 0⟩, ⟨-880, 6, 1, 0⟩, ⟨-312, 9, 0, 0⟩]],
  [[], [⟨-2, 0, 1, 0⟩, ⟨-2, 3, 0, 0⟩], [⟨11, 1, 1, 0⟩, ⟨10, 4, 0, 0⟩], [⟨-43, 2, 1, 0⟩, ⟨-34, 5, 0, 0⟩], [⟨34, 0, 2, 0⟩, ⟨164, 3, 1, 0⟩, ⟨101, 6, 0, 0⟩], [⟨-28, 0, 0, 1⟩, ⟨-226, 1, 2, 0⟩, ⟨-551, 4, 1, 0⟩, ⟨-275, 7, 0, 0⟩], [⟨126, 1, 0, 1⟩, ⟨879, 2, 2, 0⟩, ⟨1586, 5, 1, 0⟩, ⟨680, 8, 0, 0⟩], [⟨-260, 0, 3, 0⟩, ⟨-382, 2, 0, 1⟩, ⟨-3001, 3, 2, 0⟩, ⟨-4192, 6, 1, 0⟩, ⟨-1573, 9, 0, 0⟩]],
  [[], [⟨4, 1, 1, 0⟩, ⟨3, 4, 0, 0⟩], [⟨-28, 2, 1, 0⟩, ⟨-21, 5, 0, 0⟩], [⟨34, 0, 2, 0⟩, ⟨164, 3, 1, 0⟩, ⟨101, 6, 0, 0⟩], [⟨-35, 0, 0, 1⟩, ⟨-302, 1, 2, 0⟩, ⟨-769, 4, 1, 0⟩, ⟨-394, 7, 0, 0⟩], [⟨203, 1, 0, 1⟩, ⟨1543, 2, 2, 0⟩, ⟨2933, 5, 1, 0⟩, ⟨1303, 8, 0, 0⟩], [⟨-523, 0, 3, 0⟩, ⟨-791, 2, 0, 1⟩, ⟨-6707, 3, 2, 0⟩, ⟨-9900, 6, 1, 0⟩, ⟨-3861, 9, 0, 0⟩]],
  [[], [⟨-6, 2, 1, 0⟩, ⟨-4, 5, 0, 0⟩], [⟨18, 0, 2, 0⟩, ⟨75, 3, 1, 0⟩, ⟨43, 6, 0, 0⟩], [⟨-28, 0, 0, 1⟩, ⟨-226, 1, 2, 0⟩, ⟨-551, 4, 1, 0⟩, ⟨-275, 7, 0, 0⟩], [⟨203, 1, 0, 1⟩, ⟨1543, 2, 2, 0⟩, ⟨2933, 5, 1, 0⟩, ⟨1303, 8, 0, 0⟩], [⟨-654, 0, 3, 0⟩, ⟨-1001, 2, 0, 1⟩, ⟨-8671, 3, 2, 0⟩, ⟨-13042, 6, 1, 0⟩, ⟨-5156, 9, 0, 0⟩]],
  [[], [⟨4, 0, 2, 0⟩, ⟨12, 3, 1, 0⟩, ⟨6, 6, 0, 0⟩], [⟨-14, 0, 0, 1⟩, ⟨-89, 1, 2, 0⟩, ⟨-190, 4, 1, 0⟩, ⟨-88, 7, 0, 0⟩], [⟨126, 1, 0, 1⟩, ⟨879, 2, 2, 0⟩, ⟨1586, 5, 1, 0⟩, ⟨680, 8, 0, 0⟩], [⟨-523, 0, 3, 0⟩, ⟨-791, 2, 0, 1⟩, ⟨-6707, 3, 2, 0⟩, ⟨-9900, 6, 1, 0⟩, ⟨-3861, 9, 0, 0⟩]],
  [[], [⟨-4, 0, 0, 1⟩, ⟨-14, 1, 2, 0⟩, ⟨-24, 4, 1, 0⟩, ⟨-10, 7, 0, 0⟩], [⟨46, 1, 0, 1⟩, ⟨257, 2, 2, 0⟩, ⟨420, 5, 1, 0⟩, ⟨169, 8, 0, 0⟩], [⟨-260, 0, 3, 0⟩, ⟨-382, 2, 0, 1⟩, ⟨-3001, 3, 2, 0⟩, ⟨-4192, 6, 1, 0⟩, ⟨-1573, 9, 0, 0⟩]],
  [[], [⟨8, 1, 0, 1⟩, ⟨28, 2, 2, 0⟩, ⟨40, 5, 1, 0⟩, ⟨15, 8, 0, 0⟩], [⟨-72, 0, 3, 0⟩, ⟨-104, 2, 0, 1⟩, ⟨-688, 3, 2, 0⟩, ⟨-880, 6, 1, 0⟩, ⟨-312, 9, 0, 0⟩]],
  [[], [⟨-8, 0, 3, 0⟩, ⟨-12, 2, 0, 1⟩, ⟨-58, 3, 2, 0⟩, ⟨-66, 6, 1, 0⟩, ⟨-22, 9, 0, 0⟩]]]
def FL3 : List (List (List Mo)) := [
  [[], [⟨1, 0, 0, 0⟩]],
  [[⟨1, 0, 0, 0⟩], [], [⟨-1, 1, 0, 0⟩], [], [⟨1, 2, 0, 0⟩], [], [⟨-1, 3, 0, 0⟩], [], [⟨-3, 0, 1, 0⟩]],
  [[], [⟨-1, 1, 0, 0⟩], [], [⟨3, 2, 0, 0⟩], [], [⟨-6, 3, 0, 0⟩], [], [⟨-12, 0, 1, 0⟩, ⟨6, 4, 0, 0⟩]],
  [[], [], [⟨3, 2, 0, 0⟩], [], [⟨-13, 3, 0, 0⟩], [], [⟨-28, 0, 1, 0⟩, ⟨27, 4, 0, 0⟩]],
  [[], [⟨1, 2, 0, 0⟩], [], [⟨-13, 3, 0, 0⟩], [], [⟨-42, 0, 1, 0⟩, ⟨52, 4, 0, 0⟩]],
  [[], [], [⟨-6, 3, 0, 0⟩], [], [⟨-42, 0, 1, 0⟩, ⟨52, 4, 0, 0⟩]],
  [[], [⟨-1, 3, 0, 0⟩], [], [⟨-28, 0, 1, 0⟩, ⟨27, 4, 0, 0⟩]],
  [[], [], [⟨-12, 0, 1, 0⟩, ⟨6, 4, 0, 0⟩]],
  [[], [⟨-3, 0, 1, 0⟩]]]
def FL5 : List (List (List Mo)) := [
  [[], [⟨1, 0, 0, 0⟩]],
  [[⟨1, 0, 0, 0⟩], [], [], [], [⟨-1, 1, 0, 0⟩], [], [], [], [⟨1, 2, 0, 0⟩]],
  [[], [], [], [⟨-2, 1, 0, 0⟩], [], [], [], [⟨6, 2, 0, 0⟩]],
  [[], [], [⟨-2, 1, 0, 0⟩], [], [], [], [⟨16, 2, 0, 0⟩]],
  [[], [⟨-1, 1, 0, 0⟩], [], [], [], [⟨25, 2, 0, 0⟩]],
  [[], [], [], [], [⟨25, 2, 0, 0⟩]],
  [[], [], [], [⟨16, 2, 0, 0⟩]],
  [[], [], [⟨6, 2, 0, 0⟩]],
  [[], [⟨1, 2, 0, 0⟩]]]
def FL7 : List (List (List Mo)) := [
  [[], [⟨1, 0, 0, 0⟩]],
  [[⟨1, 0, 0, 0⟩], [], [], [], [], [], [⟨-1, 1, 0, 0⟩]],
  [[], [], [], [], [], [⟨-3, 1, 0, 0⟩]],
  [[], [], [], [], [⟨-5, 1, 0, 0⟩]],
  [[], [], [], [⟨-5, 1, 0, 0⟩]],
  [[], [], [⟨-3, 1, 0, 0⟩]],
  [[], [⟨-1, 1, 0, 0⟩]]]
/-! Hazewinkel's numerators as polynomials, and the equation: the sum of p^(N - e) A(e) (F^(p^e) - x^(p^e) - y^(p^e)) is 0 -/
def A0 : Po := [⟨1, 0, 0, 0⟩]
def v1 (k : Nat) : Po := [⟨1, k, 0, 0⟩]
def v2 (k : Nat) : Po := [⟨1, 0, k, 0⟩]
def v3 (k : Nat) : Po := [⟨1, 0, 0, k⟩]
def A1 : Po := v1 1
def A2 (p : Nat) : Po := add (smul p (v2 1)) (poMul A1 (v1 p))
def A3 (p : Nat) : Po := add (add (smul (p ^ 2) (v3 1)) (smul p (poMul A1 (v2 p)))) (poMul (A2 p) (v1 (p ^ 2)))
def F2_2 := poTim 10 FL2 FL2
def F2_4 := poTim 10 F2_2 F2_2
def F2_8 := poTim 10 F2_4 F2_4
/-- all coefficients inside, up to degree 10 -/
def inAll (f : Nat → Nat → Bool) : Bool := (List.range 11).all fun n => (List.range 11).all fun i => !(decide (1 ≤ i ∧ i < n)) || f i (n - i)
def rest2 (i j : Nat) : Po := add (add (add (smul 8 (get FL2 i j)) (smul 4 (poMul A1 (get F2_2 i j)))) (smul 2 (poMul (A2 2) (get F2_4 i j)))) (poMul (A3 2) (get F2_8 i j))
def F3_3 := poTim 10 (poTim 10 FL3 FL3) FL3
def F3_9 := poTim 10 (poTim 10 F3_3 F3_3) F3_3
def F5_2 := poTim 10 FL5 FL5
def F5_4 := poTim 10 F5_2 F5_2
def F5_5 := poTim 10 F5_4 FL5
def F7_2 := poTim 10 FL7 FL7
def F7_4 := poTim 10 F7_2 F7_2
def F7_7 := poTim 10 (poTim 10 F7_4 F7_2) FL7
def rest3 (i j : Nat) : Po := add (add (smul 9 (get FL3 i j)) (smul 3 (poMul A1 (get F3_3 i j)))) (poMul (A2 3) (get F3_9 i j))
def rest5 (i j : Nat) : Po := add (smul 5 (get FL5 i j)) (poMul A1 (get F5_5 i j))
def rest7 (i j : Nat) : Po := add (smul 7 (get FL7 i j)) (poMul A1 (get F7_7 i j))
set_option maxRecDepth 100000 in
theorem cert2 : inAll (fun i j => allZ (rest2 i j)) = true := by decide +kernel
set_option maxRecDepth 100000 in
theorem cert3 : inAll (fun i j => allZ (rest3 i j)) = true := by decide +kernel
set_option maxRecDepth 100000 in
theorem cert5 : inAll (fun i j => allZ (rest5 i j)) = true := by decide +kernel
set_option maxRecDepth 100000 in
theorem cert7 : inAll (fun i j => allZ (rest7 i j)) = true := by decide +kernel
theorem inAll_at {f : Nat → Nat → Bool} (h : inAll f = true) {i j : Nat} (h1 : 1 ≤ i) (h2 : 1 ≤ j) (h3 : i + j ≤ 10) : f i j = true := by
  unfold inAll at h
  rw [List.all_eq_true] at h
  have := h (i + j) (List.mem_range.2 (by omega))
  rw [List.all_eq_true] at this
  have := this i (List.mem_range.2 (by omega))
  rw [Bool.or_eq_true, Bool.not_eq_true', decide_eq_false_iff_not, show i + j - i = j by omega] at this
  rcases this with h4 | h4
  · exact absurd ⟨h1, by omega⟩ h4
  · exact h4
/-- the law of p -/
def FLp (p : Nat) : List (List Po) := if p = 2 then FL2 else if p = 3 then FL3 else if p = 5 then FL5 else FL7
def fam (p : Nat) (v : Nat → Int) : Nat → Nat → Int := evT v (FLp p)
/-- the greatest exponent of p that degree 10 knows -/
def n10 (p : Nat) : Nat := if p = 2 then 3 else if p = 3 then 2 else 1
theorem pwF_add (F : Nat → Nat → Int) (a : Nat) : ∀ b, Pl.pwF F (a + b) = Pl.mul2 (Pl.pwF F a) (Pl.pwF F b)
  | 0 => by
    show Pl.pwF F a = Pl.mul2 (Pl.pwF F a) (Pl.one2 1)
    rw [Pl.mul2_one2, Pl.one_sm]
  | b + 1 => by
    show Pl.mul2 (Pl.pwF F (a + b)) F = Pl.mul2 (Pl.pwF F a) (Pl.mul2 (Pl.pwF F b) F)
    rw [pwF_add F a b, Pl.mul2_assoc]
theorem up_one (v : Nat → Int) (T : List (List Po)) : Up 10 (evT v T) (Pl.pwF (evT v T) 1) := fun i j _ => by rw [Pl.pwF_one]
theorem up_add {v : Nat → Int} {F : Nat → Nat → Int} {T U : List (List Po)} {a b : Nat} (c : Nat) (h : Up 10 (evT v T) (Pl.pwF F a)) (k : Up 10 (evT v U) (Pl.pwF F b)) (hc : c = a + b) : Up 10 (evT v (poTim 10 T U)) (Pl.pwF F c) := by
  rw [hc, pwF_add]
  exact evT_up v 10 h k
theorem up2_2 (v : Nat → Int) : Up 10 (evT v F2_2) (Pl.pwF (evT v FL2) 2) := up_add 2 (up_one v FL2) (up_one v FL2) rfl
theorem up2_4 (v : Nat → Int) : Up 10 (evT v F2_4) (Pl.pwF (evT v FL2) 4) := up_add 4 (up2_2 v) (up2_2 v) rfl
theorem up2_8 (v : Nat → Int) : Up 10 (evT v F2_8) (Pl.pwF (evT v FL2) 8) := up_add 8 (up2_4 v) (up2_4 v) rfl
theorem up3_3 (v : Nat → Int) : Up 10 (evT v F3_3) (Pl.pwF (evT v FL3) 3) := up_add 3 (up_add 2 (up_one v FL3) (up_one v FL3) rfl) (up_one v FL3) rfl
theorem up3_9 (v : Nat → Int) : Up 10 (evT v F3_9) (Pl.pwF (evT v FL3) 9) := up_add 9 (up_add 6 (up3_3 v) (up3_3 v) rfl) (up3_3 v) rfl
theorem up5_2 (v : Nat → Int) : Up 10 (evT v F5_2) (Pl.pwF (evT v FL5) 2) := up_add 2 (up_one v FL5) (up_one v FL5) rfl
theorem up5_5 (v : Nat → Int) : Up 10 (evT v F5_5) (Pl.pwF (evT v FL5) 5) := up_add 5 (up_add 4 (up5_2 v) (up5_2 v) rfl) (up_one v FL5) rfl
theorem up7_2 (v : Nat → Int) : Up 10 (evT v F7_2) (Pl.pwF (evT v FL7) 2) := up_add 2 (up_one v FL7) (up_one v FL7) rfl
theorem up7_7 (v : Nat → Int) : Up 10 (evT v F7_7) (Pl.pwF (evT v FL7) 7) := up_add 7 (up_add 6 (up_add 4 (up7_2 v) (up7_2 v) rfl) (up7_2 v) rfl) (up_one v FL7) rfl
theorem pev_v1 (v : Nat → Int) (k : Nat) : pev v (v1 k) = v 0 ^ k := by
  show 1 * (v 0 ^ k * (v 1 ^ 0 * v 2 ^ 0)) + 0 = _
  rw [Int.pow_zero, Int.pow_zero, Int.mul_one, Int.mul_one]; omega
theorem pev_v2 (v : Nat → Int) (k : Nat) : pev v (v2 k) = v 1 ^ k := by
  show 1 * (v 0 ^ 0 * (v 1 ^ k * v 2 ^ 0)) + 0 = _
  rw [Int.pow_zero, Int.pow_zero, Int.mul_one, Int.one_mul]; omega
theorem pev_v3 (v : Nat → Int) (k : Nat) : pev v (v3 k) = v 2 ^ k := by
  show 1 * (v 0 ^ 0 * (v 1 ^ 0 * v 2 ^ k)) + 0 = _
  rw [Int.pow_zero, Int.pow_zero, Int.one_mul, Int.one_mul]; omega
theorem num1 (p : Nat) (v : Nat → Int) : Nmr.num p v 1 = pev v A1 := by
  rw [Nmr.num_succ]
  show 0 * (p : Int) + Nmr.num p v 0 * v 0 ^ p ^ 0 = _
  unfold A1
  rw [pev_v1, Nmr.num_zero, Nat.pow_zero]; omega
theorem num2 (p : Nat) (v : Nat → Int) : Nmr.num p v 2 = pev v (A2 p) := by
  rw [Nmr.num_succ]
  show (0 * (p : Int) + Nmr.num p v 0 * v 1 ^ p ^ 0) * (p : Int) + Nmr.num p v 1 * v 0 ^ p ^ 1 = _
  unfold A2
  rw [pev_add, pev_smul, pev_poMul, pev_v1, pev_v2, num1, Nmr.num_zero, Nat.pow_zero, Nat.pow_one, Int.mul_comm (p : Int), Int.zero_mul, Int.zero_add, Int.one_mul]
theorem num3 (p : Nat) (v : Nat → Int) : Nmr.num p v 3 = pev v (A3 p) := by
  rw [Nmr.num_succ]
  show ((0 * (p : Int) + Nmr.num p v 0 * v 2 ^ p ^ 0) * (p : Int) + Nmr.num p v 1 * v 1 ^ p ^ 1) * (p : Int) + Nmr.num p v 2 * v 0 ^ p ^ 2 = _
  unfold A3
  rw [pev_add, pev_add, pev_smul, pev_smul, pev_poMul, pev_poMul, pev_v1, pev_v2, pev_v3, num1, num2, Nmr.num_zero, Nat.pow_zero, Nat.pow_one, Int.pow_one]
  grind
/-- Hazewinkel's theorem up to degree 10: the whole law has the typical logarithm -/
theorem hazewinkel {p : Nat} (hp : p = 2 ∨ p = 3 ∨ p = 5 ∨ p = 7) (v : Nat → Int) {i j : Nat} (h1 : 1 ≤ i) (h2 : 1 ≤ j) (h3 : i + j ≤ 10) :
    Ser.psum (fun e => (p : Int) ^ (n10 p - e) * Nmr.num p v e * Pl.pwF (fam p v) (p ^ e) i j) (n10 p + 1) = 0 := by
  rcases hp with rfl | rfl | rfl | rfl
  · show ((((0 : Int) + (2 : Nat) ^ 3 * Nmr.num 2 v 0 * Pl.pwF (evT v FL2) 1 i j) + (2 : Nat) ^ 2 * Nmr.num 2 v 1 * Pl.pwF (evT v FL2) 2 i j) + (2 : Nat) ^ 1 * Nmr.num 2 v 2 * Pl.pwF (evT v FL2) 4 i j) + (2 : Nat) ^ 0 * Nmr.num 2 v 3 * Pl.pwF (evT v FL2) 8 i j = 0
    have hc := pev_allZ v _ (inAll_at cert2 h1 h2 h3)
    unfold rest2 at hc
    rw [pev_add, pev_add, pev_add, pev_smul, pev_smul, pev_smul, pev_poMul, pev_poMul, pev_poMul] at hc
    rw [Pl.pwF_one, ← up2_2 v i j h3, ← up2_4 v i j h3, ← up2_8 v i j h3, num1, num2, num3, Nmr.num_zero]
    unfold evT
    grind
  · show (((0 : Int) + (3 : Nat) ^ 2 * Nmr.num 3 v 0 * Pl.pwF (evT v FL3) 1 i j) + (3 : Nat) ^ 1 * Nmr.num 3 v 1 * Pl.pwF (evT v FL3) 3 i j) + (3 : Nat) ^ 0 * Nmr.num 3 v 2 * Pl.pwF (evT v FL3) 9 i j = 0
    have hc := pev_allZ v _ (inAll_at cert3 h1 h2 h3)
    unfold rest3 at hc
    rw [pev_add, pev_add, pev_smul, pev_smul, pev_poMul, pev_poMul] at hc
    rw [Pl.pwF_one, ← up3_3 v i j h3, ← up3_9 v i j h3, num1, num2, Nmr.num_zero]
    unfold evT
    grind
  · show ((0 : Int) + (5 : Nat) ^ 1 * Nmr.num 5 v 0 * Pl.pwF (evT v FL5) 1 i j) + (5 : Nat) ^ 0 * Nmr.num 5 v 1 * Pl.pwF (evT v FL5) 5 i j = 0
    have hc := pev_allZ v _ (inAll_at cert5 h1 h2 h3)
    unfold rest5 at hc
    rw [pev_add, pev_smul, pev_poMul] at hc
    rw [Pl.pwF_one, ← up5_5 v i j h3, num1, Nmr.num_zero]
    unfold evT
    grind
  · show ((0 : Int) + (7 : Nat) ^ 1 * Nmr.num 7 v 0 * Pl.pwF (evT v FL7) 1 i j) + (7 : Nat) ^ 0 * Nmr.num 7 v 1 * Pl.pwF (evT v FL7) 7 i j = 0
    have hc := pev_allZ v _ (inAll_at cert7 h1 h2 h3)
    unfold rest7 at hc
    rw [pev_add, pev_smul, pev_poMul] at hc
    rw [Pl.pwF_one, ← up7_7 v i j h3, num1, Nmr.num_zero]
    unfold evT
    grind
end Tyc
end Go.Proofs.YtfhdgcndiljjcabGreat

/- Contract of the model's numerators. -/
namespace Go.Proofs.YtfhdgcndiljjcabGreat
open Go.RowKit Go.WideShapes Go.ChangeShapes Go.ChangeAt
theorem pow_bd7' {p : Nat} (h : p ≤ 7) {i : Nat} (hi : i ≤ 3) (h1 : 1 ≤ p) : 1 ≤ p ^ i ∧ p ^ i ≤ 343 := by
  refine ⟨Nat.pow_pos h1, ?_⟩
  refine Nat.le_trans (Nat.pow_le_pow_left h i) ?_
  exact Nat.le_trans (Nat.pow_le_pow_right (by omega) hi) (by decide)
/-- the model's sum so far -/
def nsum (p : Nat) (v : Nat → Int) (k i : Nat) : Int := Ser.psum (fun j => (p : Int) ^ (k - j) * (Nmr.num p v j * v (k - j) ^ (p ^ j))) i
theorem nsum_end (p : Nat) (v : Nat → Int) (k : Nat) : nsum p v k (k + 1) = Nmr.num p v (k + 1) := by
  rw [Nmr.num_succ, Nmr.hs_psum]; rfl
theorem nsum_step (m : Int) (p : Nat) (v : Nat → Int) (k i : Nat) :
    (nsum p v k i % m + ((p : Int) ^ (k - i) % m * (Nmr.num p v i % m) % m) * (v (k - i) ^ (p ^ i) % m)) % m = nsum p v k (i + 1) % m := by
  unfold nsum
  rw [Ser.psum]
  refine Ser.add_cong (Int.emod_emod _ _) ?_
  rw [← Int.mul_assoc]
  exact Ser.mul_cong ((Int.emod_emod _ _).trans (Ser.mul_cong (Int.emod_emod _ _) (Int.emod_emod _ _))) (Int.emod_emod _ _)
set_option maxHeartbeats 4000000 in
set_option maxRecDepth 100000 in
theorem l09Numerators_any (p : Nat) (m : Int) (A : Option Addr) (c : Nat) (l : List Int) (w : World) (h1 : 2 ≤ m) (h2 : m ≤ 100000000) (p1 : 1 ≤ p) (p7 : p ≤ 7) (hn : l.length ≤ 3) (hx : ∀ i, 0 ≤ Ser.co l i ∧ Ser.co l i ≤ 100000000) (hr : RI w A l) :
    Calls Tryz.prog 81 #[.int .i64 p, .int .i64 m, .slice A l.length c] w fun e w' => ∃ v, e = .returned v ∧ OwnI w' w.heap.size v (Nmr.numR m p (Ser.co l) (l.length + 1)) ∧ Below w.heap.size w w' := by
  have HR := Lib.hid hr
  have HX := Lib.hid hx
  obtain ⟨n, hN⟩ : ∃ n, l.length = n := ⟨_, rfl⟩
  have HN := Lib.hid hN
  have HPW := Lib.hid (fun x k W0 (h : 0 ≤ x ∧ x ≤ 100000000) (hk : k ≤ 1000000) => l01PowB_any m x k W0 h.1 h.2 h1 h2 (by omega))
  have HMO := Lib.hid (fun x : Int => (⟨Int.emod_nonneg x (by omega), Int.emod_lt_of_pos x (by omega)⟩ : 0 ≤ x % m ∧ x % m < m))
  have HMU := Lib.hid (fun x y (h : 0 ≤ x ∧ x < m) (h' : 0 ≤ y ∧ y < m) => mulGr h.1 h.2 h'.1 h'.2 h2)
  have HP := Lib.hid (fun i (hi : i ≤ 3) => pow_bd7' (p := p) p7 hi p1)
  have HST := Lib.hid (fun k i => nsum_step m p (Ser.co l) k i)
  rw [hN] at hn ⊢
  have u1 : OwnI (w.alloc (.cells #[.int .i64 (1 % m)] 2)) w.heap.size (.slice (some ⟨w.heap.size, 0, none⟩) 1 1) (Nmr.numR m p (Ser.co l) 1) := OwnI.one _ _
  obtain ⟨W, hW⟩ : ∃ W, w.alloc (.cells #[.int .i64 (1 % m)] 2) = W := ⟨_, rfl⟩
  rw [hW] at u1
  have U1 := Lib.hid u1
  have HWB := Lib.hid (show Below w.heap.size w W by rw [← hW]; exact below_one _ _)
  have HW := Lib.hid hW
  have HM0 : ¬ m = 0 := by omega
  clear hr hx hN hW u1
  go_enter Tryz.func81, Tryz.ntmps81
  go_upto_region 2 with fail
  rw [HW.out]
  go_wp2
  go_loopw [7, 8, 9, 10, 11, 12] (fun s7 s8 _ _ _ _ wr => ∃ (k : Nat) (A1 : Option Addr) (c1 : Nat), k ≤ n ∧ s8 = .int .i64 ((k : Int) + 1) ∧ s7 = .slice A1 (k + 1) c1 ∧ OwnI wr w.heap.size (.slice A1 (k + 1) c1) (Nmr.numR m p (Ser.co l) (k + 1)) ∧ Below w.heap.size w wr) (fun _ s8 _ _ _ _ _ => n + 2 - (intOf s8).toNat)
  case atStart => exact ⟨0, _, _, Nat.zero_le _, rfl, rfl, U1.out, HWB.out⟩
  case round =>
    clear U1 HWB HW
    obtain ⟨wo, hwo⟩ : ∃ wo, wo = wr := ⟨_, rfl⟩
    subst hwo
    obtain ⟨k, A1, c1, hk, rfl, rfl, ho, hb⟩ := hrel
    have HO := Lib.hid ho
    have HB := Lib.hid hb
    clear ho hb
    by_cases hlt : k < n
    · have i1 : (k : Int) + 1 ≤ (n : Int) := by omega
      go_wp2
      go_loopw [9, 10, 11, 12] (fun s9 s10 s11 _ wx => Below wo.heap.size wo wx ∧ ∃ i : Nat, i ≤ k + 1 ∧ s11 = .int .i64 i ∧ s10 = .int .i64 (p ^ i : Nat) ∧ s9 = .int .i64 (nsum p (Ser.co l) k i % m)) (fun _ _ s11 _ _ => k + 2 - (intOf s11).toNat)
      case atStart => exact ⟨Below.refl _ _, 0, Nat.zero_le _, rfl, rfl, rfl⟩
      case round =>
        obtain ⟨hbx, i, hi, rfl, rfl, rfl⟩ := hrel
        have HBX := Lib.hid hbx
        by_cases hil : i < k + 1
        · have i2 : (i : Int) < (k : Int) + 1 := by omega
          obtain ⟨r, hsub⟩ : ∃ r : Nat, (k : Int) - (i : Int) = (r : Int) := ⟨k - i, by omega⟩
          have hsn : k - i = r := by omega
          have hl1 := Nmr.numR_length m p (Ser.co l) (k + 1)
          obtain ⟨g1, o1, rfl, hg1, hc1⟩ := (HO.out.ri.below hbx).at i (by rw [hl1]; exact hil)
          rw [Nmr.numR_co hil] at hc1
          obtain ⟨g2, o2, rfl, hg2, hc2⟩ := ((HR.out.below HB.out).below hbx).at r (by rw [HN.out]; omega)
          have hst := HST.out k i
          rw [hsn] at hst
          have hxr := HX.out r
          have hpi := HP.out i (by omega)
          have hS := HMO.out (nsum p (Ser.co l) k i)
          have hN1 := HMO.out (Nmr.num p (Ser.co l) i)
          have hQ := HMO.out ((p : Int) ^ r)
          obtain ⟨S, hS9⟩ : ∃ S, nsum p (Ser.co l) k i % m = S := ⟨_, rfl⟩
          obtain ⟨S2, hS2⟩ : ∃ S2, nsum p (Ser.co l) k (i + 1) % m = S2 := ⟨_, rfl⟩
          obtain ⟨V, hV⟩ : ∃ V, Ser.co l r = V := ⟨_, rfl⟩
          obtain ⟨K, hK9⟩ : ∃ K, p ^ i = K := ⟨_, rfl⟩
          obtain ⟨N, hNN⟩ : ∃ N, Nmr.num p (Ser.co l) i % m = N := ⟨_, rfl⟩
          obtain ⟨Q, hQQ⟩ : ∃ Q, (p : Int) ^ r % m = Q := ⟨_, rfl⟩
          rw [hK9, hV] at hst
          obtain ⟨T, hTT⟩ : ∃ T, V ^ K % m = T := ⟨_, rfl⟩
          have hT := HMO.out (V ^ K)
          rw [hTT] at hT hst
          rw [hS9] at hS hst
          rw [hS2] at hst
          rw [hNN] at hN1 hst hc1
          rw [hQQ] at hQ hst
          rw [hV] at hc2 hxr
          rw [hK9] at hpi
          rw [hK9, hS9]
          have hO := HMO.out (Q * N)
          have b1 := HMU.out Q N hQ hN1
          have hQN : (Q * N) % m = Q * N % m := rfl
          obtain ⟨O, hOO⟩ : ∃ O, Q * N % m = O := ⟨_, rfl⟩
          rw [hOO] at hO hst
          have b2 := HMU.out O T hO hT
          have HP1 := Lib.hid (fun W0 (x : Int) (hx : x = (r : Int)) => by have := HPW.out (p : Int) r W0 (by omega) (by omega); rw [hQQ, ← hx] at this; exact this)
          have HP2 := Lib.hid (fun W0 => by have := HPW.out V K W0 hxr (by omega); rw [hTT] at this; exact this)
          have HS2 := Lib.hid hS2
          have HK9 := Lib.hid hK9
          have HST2 := Lib.hid hst
          have HOO := Lib.hid hOO
          have hkp : 0 ≤ (K : Int) * (p : Int) ∧ (K : Int) * (p : Int) ≤ 2401 := by
            refine ⟨Int.mul_nonneg (by omega) (by omega), ?_⟩
            have := Int.mul_le_mul (show (K : Int) ≤ 343 by omega) (show (p : Int) ≤ 7 by omega) (by omega) (by omega)
            omega
          have HKP := Lib.hid (show (K : Int) * (p : Int) = ((p ^ (i + 1) : Nat) : Int) by rw [Nat.pow_succ, HK9.out, Int.natCast_mul])
          have HTM := Lib.hid (show (IntKind.i64.wrap (Q * N)).tmod m = O by rw [show IntKind.i64.wrap (Q * N) = Q * N by rw [IntKind.wrap_i64]; omega, Int.tmod_eq_emod_of_nonneg b1.1]; exact HOO.out)
          have HWK := Lib.hid (show IntKind.i64.wrap (k : Int) = k by rw [IntKind.wrap_i64]; omega)
          have HWR := Lib.hid (show IntKind.i64.wrap ((k : Int) - (i : Int)) = r by rw [IntKind.wrap_i64]; omega)
          have i3 : (0 : Int) ≤ (r : Int) := by omega
          have i4 : (r : Int) < (n : Int) := by omega
          clear hst hS9 hS2 hV hK9 hNN hQQ hTT hOO hl1 HPW HMO HMU HP HST HX HR hxr hQN
          go_wp2_with fail
          go_quiet ((go_at_call 121; exact Calls.quiet_of_same ((HP1.out _ _ (by rw [HWK.out, HWR.out])).mono fun _ _ h => ⟨h.1, h.2.symm⟩)))
          obtain ⟨Z, hZ⟩ : ∃ Z, wr.drewN nq = Z := ⟨_, rfl⟩
          have hbz : Below wr.heap.size wr Z := by rw [← hZ]; exact below_drewN (Below.refl _ _) _
          have hc2' := (hbz.cell (p := ⟨g2, o2 + r, none⟩) hg2).trans hc2
          have hc3 : Z.cell? ⟨g2, o2 + (k + 1 - i - 1), none⟩ = some (.int .i64 V) := by rw [show k + 1 - i - 1 = r by omega]; exact hc2'
          have HBZ := Lib.hid (below_step HBX.out hbz)
          rw [HTM.out, hZ]
          clear hZ hc1 hc2 hc2' hbz hbx HTM HWK HWR
          go_wp2_with (go_at_call 121; with_reducible refine Calls.mono (HP2.out _) ?_; rintro e w' ⟨rfl, rfl⟩)
          rw [HST2.out]
          go_roundw
          case rel => exact ⟨HBZ.out, i + 1, by omega, by go_num, by rw [HKP.out], by rw [HS2.out]⟩
          case measure => simp only [intOf]; omega
        · obtain rfl : i = k + 1 := by omega
          have i2 : ¬ (((k + 1 : Nat) : Int) < (k : Int) + 1) := by omega
          have hst := (Nmr.numR_succ m p (Ser.co l) (k + 1)).symm
          have hlen := Nmr.numR_length m p (Ser.co l) (k + 1)
          have hlen2 := Nmr.numR_length m p (Ser.co l) (k + 1 + 1)
          rw [nsum_end]
          have ho := HO.out.keep hbx
          obtain ⟨L1, hL1⟩ : ∃ L1, Nmr.numR m p (Ser.co l) (k + 1) = L1 := ⟨_, rfl⟩
          obtain ⟨L2, hL2⟩ : ∃ L2, Nmr.numR m p (Ser.co l) (k + 1 + 1) = L2 := ⟨_, rfl⟩
          obtain ⟨E, hE⟩ : ∃ E, Nmr.num p (Ser.co l) (k + 1) % m = E := ⟨_, rfl⟩
          rw [hL1, hE] at hst
          rw [hL2] at hst hlen2
          rw [hL1] at hlen ho
          rw [hE]
          have HL2 := Lib.hid hL2
          have HST2 := Lib.hid hst
          have HLEN := Lib.hid hlen
          have HLEN2 := Lib.hid hlen2
          have HO2 := Lib.hid ho
          have HB2 := Lib.hid (below_step HB.out hbx)
          have hsz : w.heap.size ≤ wr.heap.size := HB2.out.size
          clear hL1 hL2 hE hst hlen hlen2 ho hbx HX HR HPW HMO HMU HP HST
          go_wp2_with (at_builtin; refine wp_push _ _ _ (by rfl) (by rfl) Tryz.underlying26 w.heap.size _ _ (by rfl) HO2.out E (by rfl) (by rw [HLEN.out]; omega) hsz ?_; intro v' wz hoz hbz)
          rw [HST2.out] at hoz
          obtain ⟨A5, c5, hv5, -⟩ := hoz.form
          subst hv5
          rw [HLEN2.out] at hoz ⊢
          have hbz2 := HB2.out.trans hbz
          go_wp2
          go_roundw
          case rel => exact ⟨k + 1, A5, c5, by omega, by go_num, rfl, by rw [HL2.out]; exact hoz, hbz2⟩
          case measure => simp only [intOf]; omega
    · obtain rfl : k = n := by omega
      have i1 : ¬ ((k : Int) + 1 ≤ (k : Int)) := by omega
      go_wp2
      go_ret
      exact ⟨_, rfl, HO.out, HB.out⟩
end Go.Proofs.YtfhdgcndiljjcabGreat

