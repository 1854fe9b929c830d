/- The innermost scope that binds just this identifier: the program's binder (layer 5). -/
import Derived.Test.YteolfkkabhileaaMScSee
import Derived.Test.YteolfkkabhileaaMScOut
import Derived.Test.YteolfkkabhileaaM0
section
namespace Go.Proofs.Yteolfkkabhileaa.Sc
open Go.ChangeShapes Go.WideShapes Go.ChangeAt Go.RowKit Go.Shelf
set_option linter.unusedVariables false
set_option linter.unusedSimpArgs false

/-- What the walk reads: the receiver's box, the identifier's, the table's cells, its map, its rows. -/
def BCtx (tb g c bm : Nat) (T : Tab) (x : Idn) (b : Nat) (W : World) : Prop :=
  W.cell? ⟨b, 0, none⟩ = some (.pointer (some ⟨tb, 0, none⟩)) ∧ Bk W (b + 1) x.s (pad x.m) ∧ W.cell? ⟨tb, 0, none⟩ = some (.slice (some ⟨g, 0, none⟩) T.rows.length c) ∧ W.cell? ⟨tb, 2, none⟩ = some (.map (some bm)) ∧ FirstAt W bm T ∧
    ∀ k, k < T.rows.length → W.cell? ⟨g, k * 19, none⟩ = some (.int .i64 (T.par k : Int)) ∧ Ld.At W g (k * 19 + 1) (idL (T.id k)) ∧ W.cell? ⟨g, k * 19 + 18, none⟩ = some (.int .i64 (T.what k))
theorem BCtx.bel {tb g c bm : Nat} {T : Tab} {x : Idn} {b B : Nat} {W W' : World} (h : BCtx tb g c bm T x b W) (hb : Below B W W') (h0 : b + 1 < B) (h1 : tb < B) (h2 : g < B) (h3 : bm < B) : BCtx tb g c bm T x b W' := by
  obtain ⟨cb, ci, cs, cm, cf, cr⟩ := h
  refine ⟨(hb.cell (p := ⟨b, 0, none⟩) (by show b < B; omega)).trans cb, (hb.block _ h0).trans ci, (hb.cell (p := ⟨tb, 0, none⟩) h1).trans cs, (hb.cell (p := ⟨tb, 2, none⟩) h1).trans cm, cf.same (hb.block _ h3), fun k hk => ?_⟩
  obtain ⟨r1, r2, r3⟩ := cr k hk
  exact ⟨(hb.cell (p := ⟨g, k * 19, none⟩) h2).trans r1, r2.same (fun o u hu => (hb.cell (p := ⟨g, o, none⟩) h2).trans hu), (hb.cell (p := ⟨g, k * 19 + 18, none⟩) h2).trans r3⟩
theorem three_new (w : World) (c1 c2 c3 : Array Value) (t1 t2 t3 : TypeId) :
    Da.Blk (((w.alloc (.cells c1 t1)).alloc (.cells c2 t2)).alloc (.cells c3 t3)) w.heap.size t1 c1 ∧ Da.Blk (((w.alloc (.cells c1 t1)).alloc (.cells c2 t2)).alloc (.cells c3 t3)) (w.heap.size + 1) t2 c2 ∧ Da.Blk (((w.alloc (.cells c1 t1)).alloc (.cells c2 t2)).alloc (.cells c3 t3)) (w.heap.size + 2) t3 c3 ∧ (((w.alloc (.cells c1 t1)).alloc (.cells c2 t2)).alloc (.cells c3 t3)).heap.size = w.heap.size + 3 := by
  obtain ⟨h1, h2⟩ := two_new w c1 c2 t1 t2
  refine ⟨?_, ?_, ?_, by simp⟩
  · show _[_]? = _
    rw [Below.heap_alloc _ _ _ (by simp; omega)]; exact h1
  · show _[_]? = _
    rw [Below.heap_alloc _ _ _ (by simp)]; exact h2
  · have := heap_alloc_new ((w.alloc (.cells c1 t1)).alloc (.cells c2 t2)) (.cells c3 t3)
    rw [World.size_alloc, World.size_alloc] at this
    exact this
theorem bel_drew0 (W : World) (B : Nat) : Below B W W.drew := ⟨rfl, rfl, rfl, Nat.le_refl _, fun _ _ => rfl⟩
def BI (T : Tab) (x : Idn) (X : World) (pre : List (Sco T)) (W : World) : Prop := (∀ i ∈ pre, T.id i.1 ≠ x) ∧ Below X.heap.size X W
def BX (T : Tab) (x : Idn) (X w : World) (r : Nat) (c : Code) (q : List (Sco T)) (W : World) : Prop :=
  ∃ (pre : List (Sco T)) (y : Sco T), q = pre ++ [y] ∧ (∀ i ∈ pre, T.id i.1 ≠ x) ∧
    ((c = .exit 0 ∧ y.1 < T.first x ∧ Below X.heap.size X W) ∨ (c = .ret ∧ T.id y.1 = x ∧ Boxed W r 3 (.int .i64 (y.1 : Int)) ∧ Below w.heap.size w W))
theorem BI.own {T : Tab} {x : Idn} {X : World} : OwnFrom X.heap.size (BI T x X) := fun pre A B row hs hg hr => ⟨hs.1, ownFrom_below (β := Unit) (Nat.le_refl _) (Nat.le_refl _) () A B row hs.2 hg hr⟩
theorem BX.own {T : Tab} {x : Idn} {X w : World} {r : Nat} (hw : w.heap.size ≤ X.heap.size) (c : Code) : OwnFrom X.heap.size (BX T x X w r c) := fun q A B row hs hg hr => by
  obtain ⟨pre, y, h1, h2, h3⟩ := hs
  refine ⟨pre, y, h1, h2, ?_⟩
  rcases h3 with ⟨h3, h4, h5⟩ | ⟨h3, h4, h5, h6⟩
  · exact .inl ⟨h3, h4, ownFrom_below (β := Unit) (Nat.le_refl _) (Nat.le_refl _) () A B row h5 hg hr⟩
  · exact .inr ⟨h3, h4, Own.from (boxed_own _ _ (fun _ : Unit => Value.int .i64 (y.1 : Int))) _ () A B row h5 hg hr, ownFrom_below (β := Unit) (Nat.le_refl _) hw () A B row h6 hg hr⟩
theorem bel_put {B : Nat} {W : World} {l : Nat} (o' : Obj) (hl : B ≤ l) : Below B W (W.putObj l o') := by
  have hg := grownBy_putObj' W l o'
  exact ⟨hg.os, hg.tape, hg.output, hg.size, fun k hk => World.putObj_heap_other (by omega)⟩
theorem cell_put {W : World} {D r : Nat} {v : Value} {o o' : Obj} (h : W.cell? ⟨r, 0, none⟩ = some v) (hD : W.heap[D]? = some o) (ho : o.isCells = false) : (W.putObj D o').cell? ⟨r, 0, none⟩ = some v := by
  obtain ⟨ob, h1, h2⟩ := Rg.cells_of_cell h
  have hne : r ≠ D := fun e => by subst e; rw [show W.heap[r]? = _ from h1] at hD; cases hD; rw [h2] at ho; cases ho
  exact (World.cell?_of_block (a := ⟨r, 0, none⟩) (w := W) (World.putObj_heap_other hne)).trans h
set_option maxRecDepth 100000 in
theorem binder_fin (w W : World) (tm : Array Value) (D v r : Nat) (h6 : tm.getD 6 undef = .pointer (some ⟨r, 0, none⟩)) (hb : W.cell? ⟨r, 0, none⟩ = some (.int .i64 (v : Int))) (hK : W.heap[D]? = some (.deferred (some []))) (hbel : Below w.heap.size w W) (hD : w.heap.size ≤ D) :
    bodyPostM Fence.wide 5 Try.prog Try.f49 (fun e w' => e = .returned (.int .i64 (v : Int)) ∧ Below w.heap.size w w') Exit.ret { tmps := tm, defers := [{ target := .collected D, args := #[] }] } W := by
  rw [Array.getD_eq_getD_getElem?] at h6
  refine ⟨by simp, .inl ⟨_, _, rfl, run_takeDeferred hK, ?_⟩⟩
  refine ⟨.int .i64 (v : Int), ?_, rfl, hbel.trans (belowK_b (w := w) (Nat.le_refl _) W D _ _ hD hK rfl rfl)⟩
  have c := cell_put (o' := .deferred none) hb hK rfl
  simp [results, Try.results49, go_sem, h6, c]
attribute [local go_sem] Oper.semAt_some in
set_option maxRecDepth 100000 in
set_option maxHeartbeats 8000000 in
theorem binder_any (tb : Nat) (T : Tab) (x : Idn) (s : Nat) (w : World) (vs vm : Value) (bm : Nat) (hx : Hid x.Ok) (h : TabAt w tb T vs vm bm) (hs : s < T.rows.length) :
    Calls Try.prog 49 #[.pointer (some ⟨tb, 0, none⟩), .int .i64 (s : Int), x.V] w fun e w' => e = .returned (.int .i64 (T.binder s x : Int)) ∧ Below w.heap.size w w' := by
  have hltT := h.lt tb (.inl rfl)
  have hltm := h.lt bm (.inr (.inr (.inr rfl)))
  obtain ⟨a, c, rfl⟩ := slice_of h.rows
  obtain ⟨g, rfl, hltg, hown, hrow⟩ := at_row h.rows h.ok.pos
  have HOK := Lib.hid h.ok
  have hids : ∀ k, k < T.rows.length → (T.id k).Ok := fun k hk => by
    unfold Tab.id
    rw [List.getD_eq_getElem?_getD, List.getElem?_eq_getElem hk]
    exact h.ids _ (List.getElem_mem hk)
  have cs0 : w.cell? ⟨tb, 0, none⟩ = some (.slice (some ⟨g, 0, none⟩) T.rows.length c) := (h.blk.cell 0).trans rfl
  have cm0 : w.cell? ⟨tb, 2, none⟩ = some (.map (some bm)) := (h.blk.cell 2).trans rfl
  have hfirst := h.first
  clear h hown
  refine (callsIn_wide (n := 5)).1 ?_
  refine callsIn_of_wp_marks Try.func49 rfl trivial ?_ rfl
  simp only [Try.ntmps49, List.size_toArray, List.length_cons, List.length_nil, Nat.reduceAdd, Nat.reduceSub, Array.replicate_succ, Array.replicate_zero, List.push_toArray, List.append_toArray, List.nil_append, List.cons_append]
  have HC := Lib.hid (And.intro cs0 (And.intro cm0 (And.intro hfirst (And.intro hrow hids))))
  clear cs0 cm0 hfirst hrow hids
  unfold Idn.V idA
  gi_wp2_with fail
  obtain ⟨n0, n1, n2, hsz⟩ := three_new w #[.pointer (some ⟨tb, 0, none⟩)] (A17 x.s (pad x.m)) #[.int .i64 0] 25 82 3
  obtain ⟨X, hX⟩ : ∃ X, X = ((w.alloc (.cells #[.pointer (some ⟨tb, 0, none⟩)] 25)).alloc (.cells (A17 x.s (pad x.m)) 82)).alloc (.cells #[.int .i64 0] 3) := ⟨_, rfl⟩
  have hbX : Below w.heap.size w X := by rw [hX]; exact (((Below.refl _ _).alloc (Nat.le_refl _) _).alloc (by simp) _).alloc (by simp; omega) _
  rw [← hX] at n0 n1 n2 hsz
  unfold A17 at hX
  rw [← hX]
  clear hX
  obtain ⟨cs0, cm0, hfirst, hrow, hids⟩ := HC.out
  have hB : BCtx tb g c bm T x w.heap.size X := by
    refine ⟨(n0.cell 0).trans rfl, n1, (hbX.cell (p := ⟨tb, 0, none⟩) (by show tb < _; omega)).trans cs0, (hbX.cell (p := ⟨tb, 2, none⟩) (by show tb < _; omega)).trans cm0, hfirst.same (hbX.block _ (by omega)), fun k hk => ?_⟩
    obtain ⟨r1, r2, r3⟩ := hrow k hk
    exact ⟨(hbX.cell (p := ⟨g, k * 19, none⟩) (by show g < _; omega)).trans r1, r2.same (fun o u hu => (hbX.cell (p := ⟨g, o, none⟩) (by show g < _; omega)).trans hu), (hbX.cell (p := ⟨g, k * 19 + 18, none⟩) (by show g < _; omega)).trans r3⟩
  have HIDS := Lib.hid hids
  have hT0 : BCtx tb g c bm T x w.heap.size X.drew := hB
  clear HC cs0 cm0 hfirst hrow hids n0 n1
  have hlt0 : w.heap.size + 1 < X.heap.size := by omega
  replace hltT : tb < X.heap.size := by omega
  replace hltg : g < X.heap.size := by omega
  replace hltm : bm < X.heap.size := by omega
  refine Oi.till_region (BCtx tb g c bm T x w.heap.size) 8 (by kernel_rfl) rfl ?_
  simp only [Array.replicate_succ, Array.replicate_zero, List.push_toArray, List.nil_append, List.cons_append]
  refine Oi.Till.take (i := 0) (v := .pointer (some ⟨tb, 0, none⟩)) 9 rfl rfl (by kernel_rfl) (by kernel_rfl) (by kernel_rfl) (.inl ⟨by rfl, ?_⟩) (fun _ => rfl) hT0 ?_
  · intro wx hSw
    obtain ⟨cb, ci, cs, cm, cf, cr⟩ := hSw
    go_simp
  simp only [Act.put, List.setIfInBounds_toArray, List.set_cons_zero, List.set_cons_succ]
  refine Oi.Till.take (i := 1) (v := .pointer (some ⟨tb, 0, none⟩)) 10 rfl rfl (by kernel_rfl) (by kernel_rfl) (by kernel_rfl) (.inl ⟨by rfl, ?_⟩) (fun _ => rfl) hT0 ?_
  · intro wx hSw
    obtain ⟨cb, ci, cs, cm, cf, cr⟩ := hSw
    go_simp
  simp only [Act.put, List.setIfInBounds_toArray, List.set_cons_zero, List.set_cons_succ]
  refine Oi.Till.take (i := 2) (v := .pointer (some ⟨tb, 2, none⟩)) 11 rfl rfl (by kernel_rfl) (by kernel_rfl) (by kernel_rfl) (.inl ⟨by rfl, ?_⟩) (fun _ => rfl) hT0 ?_
  · intro wx hSw
    obtain ⟨cb, ci, cs, cm, cf, cr⟩ := hSw
    go_simp
  simp only [Act.put, List.setIfInBounds_toArray, List.set_cons_zero, List.set_cons_succ]
  refine Oi.Till.take (i := 3) (v := .map (some bm)) 12 rfl rfl (by kernel_rfl) (by kernel_rfl) (by kernel_rfl) (.inl ⟨by rfl, ?_⟩) (fun _ => rfl) hT0 ?_
  · intro wx hSw
    obtain ⟨cb, ci, cs, cm, cf, cr⟩ := hSw
    go_simp
  simp only [Act.put, List.setIfInBounds_toArray, List.set_cons_zero, List.set_cons_succ]
  refine Oi.Till.take (i := 4) (v := x.V) 13 rfl rfl (by kernel_rfl) (by kernel_rfl) (by kernel_rfl) (.inl ⟨by rfl, ?_⟩) (fun _ => rfl) hT0 ?_
  · intro wx hSw
    obtain ⟨cb, ci, cs, cm, cf, cr⟩ := hSw
    exact Ld.exec_at 82 (.tmp 5) rfl (w.heap.size + 1) 0 rfl (idL x) _ (At.of_Bk ci) Try.underlying82 rfl info_idn
  simp only [Act.put, List.setIfInBounds_toArray, List.set_cons_zero, List.set_cons_succ]
  refine Oi.Till.take (i := 5) (v := .int .i64 (T.first x : Int)) 14 rfl rfl (by kernel_rfl) (by kernel_rfl) (by kernel_rfl) (.inl ⟨by rfl, ?_⟩) (fun _ => rfl) hT0 ?_
  · intro wx hSw
    obtain ⟨cb, ci, cs, cm, cf, cr⟩ := hSw
    have hl := look_first cf hx.out; simp [execOp, go_sem, hl]
  simp only [Act.put, List.setIfInBounds_toArray, List.set_cons_zero, List.set_cons_succ]
  refine Oi.Till.one (i := 6) (by kernel_rfl) rfl (fun K hK => ?_)
  rw [if_pos (by kernel_rfl)]
  go_simp
  have hT1 : BCtx tb g c bm T x w.heap.size (X.drew.alloc (.cells #[.int .i64 0] 3)) := hT0.bel ((Below.refl _ _).alloc (Nat.le_refl _) _) hlt0 hltT hltg hltm
  refine hK.out _ _ hT1 ?_
  clear hK K
  simp only [Act.put, List.setIfInBounds_toArray, List.set_cons_zero, List.set_cons_succ]
  refine Oi.Till.one (i := 7) (by kernel_rfl) rfl (fun K hK => ?_)
  rw [if_pos (by kernel_rfl)]
  go_simp
  have hY : Below X.heap.size X (X.alloc (.cells #[.int .i64 (T.first x : Int)] 3)).drew := ((Below.refl _ _).alloc (Nat.le_refl _) _).trans ⟨rfl, rfl, rfl, Nat.le_refl _, fun _ _ => rfl⟩
  have hT2 : BCtx tb g c bm T x w.heap.size (X.alloc (.cells #[.int .i64 (T.first x : Int)] 3)).drew := hB.bel hY hlt0 hltT hltg hltm
  refine hK.out _ _ hT2 ?_
  clear hK K
  simp only [Act.put, List.setIfInBounds_toArray, List.set_cons_zero, List.set_cons_succ]
  refine Oi.Till.done (by kernel_rfl) ?_
  have c7 : (X.alloc (.cells #[.int .i64 (T.first x : Int)] 3)).drew.cell? ⟨w.heap.size + 3, 0, none⟩ = some (.int .i64 (T.first x : Int)) := by
    have h := heap_alloc_new X (.cells #[.int .i64 (T.first x : Int)] 3)
    rw [hsz] at h
    rw [World.cell?, show ((X.alloc (.cells #[.int .i64 (T.first x : Int)] 3)).drew.heap)[w.heap.size + 3]? = _ from h]
    rfl
  have n3 : Da.Blk (X.alloc (.cells #[.int .i64 (T.first x : Int)] 3)).drew (w.heap.size + 2) 3 #[.int .i64 0] := (hY.block _ (by omega)).trans n2
  have hszY : (X.alloc (.cells #[.int .i64 (T.first x : Int)] 3)).drew.heap.size = w.heap.size + 4 := by show (X.alloc _).heap.size = _; simp [hsz]
  generalize (X.alloc (.cells #[.int .i64 (T.first x : Int)] 3)).drew = Y at *
  have hbY : Below w.heap.size w Y := hbX.trans (hY.mono (by omega))
  have c6 : Y.cell? ⟨w.heap.size + 1 + 1, 0, none⟩ = some (.int .i64 0) := (n3.cell 0).trans rfl
  have f6 : Y.frozen? ⟨w.heap.size + 1 + 1, 0, none⟩ = false := n3.frozen 0
  have HB2 := Lib.hid hT2
  have HbY := Lib.hid hbY
  have HN3 := Lib.hid n3
  clear hT0 hT1 hT2 hB hbX n2 hY n3 hbY
  by_cases hf : T.first x = 0
  · have d0 : ((T.first x : Int) == 0) = true := by rw [hf]; rfl
    have hz := Lib.hid (binder_zero HOK.out hs hf)
    clear hf
    gi_wp2_with fail
    have hF := (show Da.Blk (Y.setCell ⟨w.heap.size + 1 + 1, 0, none⟩ (.int .i64 0)) (w.heap.size + 1 + 1) 3 #[.int .i64 0] from heap_setCell_same Y _ 0 #[.int .i64 0] _ (.int .i64 0) HN3.out)
    have cF := (hF.cell 0).trans rfl
    refine ⟨.int .i64 0, ?_, ?_⟩
    · simp [results, Try.results49, go_sem, cF]
    · exact ⟨by rw [hz.out]; rfl, HbY.out.setCell (p := ⟨w.heap.size + 1 + 1, 0, none⟩) (by show w.heap.size ≤ w.heap.size + 1 + 1; omega) _⟩
  · have d0 : ((T.first x : Int) == 0) = false := by rw [beq_eq_false_iff_ne]; omega
    obtain ⟨cb, ci, cs, cm, cf, cr⟩ := HB2.out
    have HF := Lib.hid hf
    clear hf ci cf cr
    gi_wp2_with fail
    refine ⟨trivial, ?_⟩
    gi_at_call 42
    refine (callsIn_wide.2 (out_any _ _ _ _ _)).mono ?_
    rintro e Z ⟨rfl, hZ⟩
    simp only []
    have m1 := two_new Y #[.slice (some ⟨g, 0, none⟩) T.rows.length c] #[.int .i64 (s : Int)] 70 3
    rw [← hZ] at m1
    have hYZ : Below Y.heap.size Y Z := by rw [hZ]; exact bel_two _ _ _
    have hszZ : Z.heap.size = w.heap.size + 6 := by rw [hZ]; simp [hszY]
    obtain ⟨m1, m2⟩ := m1
    clear hZ
    have hB2 := HB2.out
    have BZ := hB2.bel hYZ (by omega) (by omega) (by omega) (by omega)
    have HBZ := Lib.hid BZ
    have HSL := Lib.hid ((m1.cell 0).trans rfl : Z.cell? ⟨Y.heap.size, 0, none⟩ = some (.slice (some ⟨g, 0, none⟩) T.rows.length c))
    have HSC := Lib.hid ((m2.cell 0).trans rfl : Z.cell? ⟨Y.heap.size + 1, 0, none⟩ = some (.int .i64 (s : Int)))
    have c7Z := (hYZ.cell (p := ⟨w.heap.size + 3, 0, none⟩) (by show w.heap.size + 3 < _; omega)).trans c7
    have n3Z : Da.Blk Z (w.heap.size + 1 + 1) 3 #[.int .i64 0] := (hYZ.block _ (by omega)).trans HN3.out
    have HC7 := Lib.hid c7Z
    have HN := Lib.hid n3Z
    have HbZ := Lib.hid (HbY.out.trans (hYZ.mono (by omega)))
    clear hB2 BZ m1 m2 c7 c7Z n3Z c6 f6 cb cs cm HB2 HN3 HbY hYZ d0
    gi_wp2_with fail
    have hZle : w.heap.size + 5 < Z.heap.size := by omega
    have hYle : Y.heap.size + 1 < Z.heap.size := by omega
    have HSY := Lib.hid hszY
    have HSZ := Lib.hid hszZ
    clear hszY hszZ
    refine wpIn_rangeFunc_ownH rfl (by omega) (gf := 52) (lb := #[.pointer (some ⟨Y.heap.size + 1, 0, none⟩), .pointer (some ⟨Y.heap.size, 0, none⟩)]) rfl trivial (enters_of Try.func52 (by kernel_rfl) rfl)
      (out_stops (5 - 1) Y.heap.size Z.heap.size (Y.heap.size + 1) (by omega) T HOK.out s hs Z (fun W W' => Below Z.heap.size W W') ?kp ?rd HSC.out (by omega))
      (fun h k => h.trans k) (fun W l o o' hl _ _ _ => bel_put o' hl) (Below.refl _ _) (fun _ => rfl)
      (BI T x Z) (BX T x Z w (w.heap.size + 1 + 1)) BI.own (BX.own (by omega)) ⟨by simp, Below.refl _ _⟩
      (fun y a' _ => a' = { tmps := #[.pointer (some ⟨tb, 0, none⟩), .int .i64 (s : Int), .agg #[.string ⟨x.s.toArray⟩, .int .i32 (pad x.m 0), .int .i32 (pad x.m 1), .int .i32 (pad x.m 2), .int .i32 (pad x.m 3), .int .i32 (pad x.m 4), .int .i32 (pad x.m 5), .int .i32 (pad x.m 6), .int .i32 (pad x.m 7), .int .i32 (pad x.m 8), .int .i32 (pad x.m 9), .int .i32 (pad x.m 10), .int .i32 (pad x.m 11), .int .i32 (pad x.m 12), .int .i32 (pad x.m 13), .int .i32 (pad x.m 14), .int .i32 (pad x.m 15)], .pointer (some ⟨w.heap.size, 0, none⟩), undef, .pointer (some ⟨w.heap.size + 1, 0, none⟩), .pointer (some ⟨w.heap.size + 1 + 1, 0, none⟩), .pointer (some ⟨w.heap.size + 3, 0, none⟩), .int .i64 (y.1 : Int), .pointer (some ⟨tb, 0, none⟩), .pointer (some ⟨tb, 0, none⟩), .pointer (some ⟨tb, 2, none⟩), .map (some bm), x.V, .int .i64 (T.first x : Int), .int .i64 (T.first x : Int), .bool false, .pointer (some ⟨tb, 0, none⟩), .pointer (some ⟨tb, 0, none⟩), .pointer (some ⟨tb, 0, none⟩), .slice (some ⟨g, 0, none⟩) T.rows.length c, .int .i64 (s : Int), .func (.func 52) #[] #[.pointer (some ⟨Y.heap.size + 1, 0, none⟩), .pointer (some ⟨Y.heap.size, 0, none⟩)], .int .i64 (y.1 : Int), undef, undef, undef, undef, undef, undef, undef, undef, undef, undef, undef, undef, undef, undef], defers := [] }) (fun _ _ _ _ _ _ hs _ _ => hs) ?assign ?body ?done ?stop
    case assign =>
      rintro l pre y W K hI hK
      gi_wp2_with fail
      exact hK _ _ (KeepsFrom.refl _ _) (Below.refl _ _) hI rfl
    case rd =>
      intro W h
      obtain ⟨cb, ci, cs, cm, cf, cr⟩ := HBZ.out.bel h (by omega) (by omega) (by omega) (by omega)
      exact ⟨g, c, ⟨by omega, by omega⟩, (h.cell (p := ⟨Y.heap.size, 0, none⟩) (by show Y.heap.size < _; omega)).trans HSL.out, fun k hk => (cr k hk).1⟩
    case kp => exact fun W W' h k => k.bel h
    case body =>
      rintro l pre ⟨y, hy0, hyl⟩ a' W hl ⟨r, hr⟩ ⟨hpre, hbel⟩ rfl hlt
      have HP := Lib.hid hpre
      have Hbel := Lib.hid hbel
      have c7 := (hbel.cell (p := ⟨w.heap.size + 3, 0, none⟩) (by show w.heap.size + 3 < _; omega)).trans HC7.out
      have hT0 : BCtx tb g c bm T x w.heap.size W.drew := HBZ.out.bel (hbel.trans ⟨rfl, rfl, rfl, Nat.le_refl _, fun _ _ => rfl⟩) (by omega) (by omega) (by omega) (by omega)
      clear hpre hbel hlt hr
      by_cases hlt : y < T.first x
      · have dl : decide ((y : Int) < (T.first x : Int)) = true := by simp; omega
        have HLT := Lib.hid hlt
        clear hlt hT0
        gi_wp2_with fail
        exact ⟨KeepsFrom.refl _ _, pre, ⟨y, hy0, hyl⟩, rfl, HP.out, .inl ⟨rfl, HLT.out, Hbel.out⟩⟩
      · have dl : decide (y < T.first x) = false := decide_eq_false hlt
        have nW : Da.Blk W.drew (w.heap.size + 1 + 1) 3 #[.int .i64 0] := (Hbel.out.block _ (by omega)).trans HN.out
        have HT0 := Lib.hid hT0
        have i0 : (0 : Int) ≤ (y : Int) := Int.natCast_nonneg _
        have i1 : (y : Int) < (T.rows.length : Int) := by omega
        clear hlt hT0
        gi_wp2_with fail
        have hT0 := HT0.out
        have hids := HIDS.out
        refine Oi.till_region (BCtx tb g c bm T x w.heap.size) 10 (by kernel_rfl) rfl ?_
        simp only [Array.replicate_succ, Array.replicate_zero, List.push_toArray, List.nil_append, List.cons_append]
        refine Oi.Till.take (i := 0) (v := .pointer (some ⟨tb, 0, none⟩)) 27 rfl rfl (by kernel_rfl) (by kernel_rfl) (by kernel_rfl) (.inl ⟨by rfl, ?_⟩) (fun _ => rfl) hT0 ?_
        · intro wx hSw
          obtain ⟨cb, ci, cs, cm, cf, cr⟩ := hSw
          go_simp
        simp only [Act.put, List.setIfInBounds_toArray, List.set_cons_zero, List.set_cons_succ]
        refine Oi.Till.take (i := 1) (v := .pointer (some ⟨tb, 0, none⟩)) 28 rfl rfl (by kernel_rfl) (by kernel_rfl) (by kernel_rfl) (.inl ⟨by rfl, ?_⟩) (fun _ => rfl) hT0 ?_
        · intro wx hSw
          obtain ⟨cb, ci, cs, cm, cf, cr⟩ := hSw
          go_simp
        simp only [Act.put, List.setIfInBounds_toArray, List.set_cons_zero, List.set_cons_succ]
        refine Oi.Till.take (i := 2) (v := .pointer (some ⟨tb, 0, none⟩)) 29 rfl rfl (by kernel_rfl) (by kernel_rfl) (by kernel_rfl) (.inl ⟨by rfl, ?_⟩) (fun _ => rfl) hT0 ?_
        · intro wx hSw
          obtain ⟨cb, ci, cs, cm, cf, cr⟩ := hSw
          go_simp
        simp only [Act.put, List.setIfInBounds_toArray, List.set_cons_zero, List.set_cons_succ]
        refine Oi.Till.take (i := 3) (v := .slice (some ⟨g, 0, none⟩) T.rows.length c) 30 rfl rfl (by kernel_rfl) (by kernel_rfl) (by kernel_rfl) (.inl ⟨by rfl, ?_⟩) (fun _ => rfl) hT0 ?_
        · intro wx hSw
          obtain ⟨cb, ci, cs, cm, cf, cr⟩ := hSw
          go_simp
        simp only [Act.put, List.setIfInBounds_toArray, List.set_cons_zero, List.set_cons_succ]
        refine Oi.Till.take (i := 4) (v := .int .i64 (y : Int)) 31 rfl rfl (by kernel_rfl) (by kernel_rfl) (by kernel_rfl) (.inl ⟨by rfl, ?_⟩) (fun _ => rfl) hT0 ?_
        · intro wx hSw
          obtain ⟨cb, ci, cs, cm, cf, cr⟩ := hSw
          go_simp
        simp only [Act.put, List.setIfInBounds_toArray, List.set_cons_zero, List.set_cons_succ]
        refine Oi.Till.take (i := 5) (v := .pointer (some ⟨g, y * 19, none⟩)) 32 rfl rfl (by kernel_rfl) (by kernel_rfl) (by kernel_rfl) (.inl ⟨by rfl, ?_⟩) (fun _ => rfl) hT0 ?_
        · intro wx hSw
          obtain ⟨cb, ci, cs, cm, cf, cr⟩ := hSw
          go_simp
        simp only [Act.put, List.setIfInBounds_toArray, List.set_cons_zero, List.set_cons_succ]
        refine Oi.Till.take (i := 6) (v := .pointer (some ⟨g, y * 19 + 1, none⟩)) 33 rfl rfl (by kernel_rfl) (by kernel_rfl) (by kernel_rfl) (.inl ⟨by rfl, ?_⟩) (fun _ => rfl) hT0 ?_
        · intro wx hSw
          obtain ⟨cb, ci, cs, cm, cf, cr⟩ := hSw
          go_simp
        simp only [Act.put, List.setIfInBounds_toArray, List.set_cons_zero, List.set_cons_succ]
        refine Oi.Till.take (i := 7) (v := (T.id y).V) 34 rfl rfl (by kernel_rfl) (by kernel_rfl) (by kernel_rfl) (.inl ⟨by rfl, ?_⟩) (fun _ => rfl) hT0 ?_
        · intro wx hSw
          obtain ⟨cb, ci, cs, cm, cf, cr⟩ := hSw
          exact Ld.exec_at 82 (.tmp 33) rfl g (y * 19 + 1) rfl (idL (T.id y)) _ ((cr y hyl).2.1) Try.underlying82 rfl info_idn
        simp only [Act.put, List.setIfInBounds_toArray, List.set_cons_zero, List.set_cons_succ]
        refine Oi.Till.take (i := 8) (v := x.V) 35 rfl rfl (by kernel_rfl) (by kernel_rfl) (by kernel_rfl) (.inl ⟨by rfl, ?_⟩) (fun _ => rfl) hT0 ?_
        · intro wx hSw
          obtain ⟨cb, ci, cs, cm, cf, cr⟩ := hSw
          exact Ld.exec_at 82 (.tmp 5) rfl (w.heap.size + 1) 0 rfl (idL x) _ (At.of_Bk ci) Try.underlying82 rfl info_idn
        simp only [Act.put, List.setIfInBounds_toArray, List.set_cons_zero, List.set_cons_succ]
        refine Oi.Till.take (i := 9) (v := .bool (decide (T.id y = x))) 36 rfl rfl (by kernel_rfl) (by kernel_rfl) (by kernel_rfl) (.inl ⟨by rfl, ?_⟩) (fun _ => rfl) hT0 ?_
        · intro wx hSw
          obtain ⟨cb, ci, cs, cm, cf, cr⟩ := hSw
          have he := eq_id (T.id y) x (hids y hyl) hx.out wx; have hgd := guard_id (.tmp 34) (.tmp 35) (T.id y) x wx; simp [execOp, go_sem, hgd, he]
        simp only [Act.put, List.setIfInBounds_toArray, List.set_cons_zero, List.set_cons_succ]
        refine Oi.Till.done (by kernel_rfl) ?_
        have c6 : W.drew.cell? ⟨w.heap.size + 1 + 1, 0, none⟩ = some (.int .i64 0) := (nW.cell 0).trans rfl
        have f6 : W.drew.frozen? ⟨w.heap.size + 1 + 1, 0, none⟩ = false := nW.frozen 0
        have HNW := Lib.hid nW
        clear hT0 hids nW c7
        by_cases hid : T.id y = x
        · have de : decide (T.id y = x) = true := decide_eq_true hid
          have HID := Lib.hid hid
          clear hid
          gi_wp2_with fail
          have hg := grownBy_setCell' W.drew (w.heap.size + 1 + 1) (.int .i64 (y : Int))
          have hg' : W.grownBy (W.drew.setCell ⟨w.heap.size + 1 + 1, 0, none⟩ (.int .i64 (y : Int))) (some (w.heap.size + 1 + 1)) := ⟨hg.os, hg.tape, hg.output, hg.size, hg.block⟩
          refine ⟨KeepsFrom.of_grownBy hg' (fun j e => by cases e; omega), pre, ⟨y, hy0, hyl⟩, rfl, HP.out, .inr ⟨rfl, HID.out, ?_, ?_⟩⟩
          · exact heap_setCell_same W.drew _ 0 #[.int .i64 0] _ (.int .i64 (y : Int)) HNW.out
          · exact HbZ.out.trans ((Hbel.out.mono (by omega)).trans ((Below.setCell (p := ⟨w.heap.size + 1 + 1, 0, none⟩) (bel_drew0 W w.heap.size) (by show w.heap.size ≤ w.heap.size + 1 + 1; omega) _)))
        · have de : decide (T.id y = x) = false := decide_eq_false hid
          have HID := Lib.hid hid
          clear hid
          gi_wp2_with fail
          refine ⟨⟨Nat.le_refl _, fun _ _ _ h _ => h⟩, bel_drew0 W _, fun i hi => ?_, Hbel.out.trans (bel_drew0 W _)⟩
          rcases List.mem_append.1 hi with h | h
          · exact HP.out i h
          · obtain rfl : i = ⟨y, hy0, hyl⟩ := by simpa using h
            exact HID.out
    case done =>
      rintro D xs W hD hS ⟨hpre, hbel⟩ hK
      have nW : Da.Blk W (w.heap.size + 1 + 1) 3 #[.int .i64 0] := (hbel.block _ (by omega)).trans HN.out
      have c6 : W.cell? ⟨w.heap.size + 1 + 1, 0, none⟩ = some (.int .i64 0) := (nW.cell 0).trans rfl
      have f6 : W.frozen? ⟨w.heap.size + 1 + 1, 0, none⟩ = false := nW.frozen 0
      have hz : T.binder s x = 0 := binder_full (fun i hi => by
        have hi' : i ∈ xs.map (·.1) := by rw [hS]; exact hi
        obtain ⟨j, hj, rfl⟩ := List.mem_map.1 hi'
        exact hpre j hj)
      have HZ := Lib.hid hz
      have HNW := Lib.hid nW
      have Hbel := Lib.hid hbel
      have HK := Lib.hid hK
      clear hz nW hbel hpre hS hK
      gi_wp2_with fail
      rw [HZ.out]
      exact binder_fin w _ _ D 0 _ rfl (((show Da.Blk (W.setCell ⟨w.heap.size + 1 + 1, 0, none⟩ (.int .i64 0)) (w.heap.size + 1 + 1) 3 #[.int .i64 0] from heap_setCell_same W _ 0 #[.int .i64 0] _ (.int .i64 0) HNW.out).cell 0).trans rfl) ((Below.heap_setCell _ _ _ _ (by show D ≠ w.heap.size + 1 + 1; omega)).trans HK.out) ((HbZ.out.trans (Hbel.out.mono (by omega))).setCell (p := ⟨w.heap.size + 1 + 1, 0, none⟩) (by show w.heap.size ≤ w.heap.size + 1 + 1; omega) _) (by omega)
    case stop =>
      rintro D cc q W hD hSp ⟨pre, y, rfl, hpre, hcase⟩ hK
      have hch : pre.map (·.1) ++ [y.1] <+: T.chain s := by simpa using hSp
      have hn : ∀ i ∈ pre.map (·.1), T.id i ≠ x := fun i hi => by
        obtain ⟨j, hj, rfl⟩ := List.mem_map.1 hi
        exact hpre j hj
      have HK := Lib.hid hK
      rcases hcase with ⟨rfl, hlt, hbel⟩ | ⟨rfl, hid, hbox, hbel⟩
      · have nW : Da.Blk W (w.heap.size + 1 + 1) 3 #[.int .i64 0] := (hbel.block _ (by omega)).trans HN.out
        have c6 : W.cell? ⟨w.heap.size + 1 + 1, 0, none⟩ = some (.int .i64 0) := (nW.cell 0).trans rfl
        have f6 : W.frozen? ⟨w.heap.size + 1 + 1, 0, none⟩ = false := nW.frozen 0
        have HZ := Lib.hid (binder_stop HOK.out hs hch hn hlt)
        have HNW := Lib.hid nW
        have Hbel := Lib.hid hbel
        clear nW hbel hpre hSp hK hlt hch hn
        gi_wp2_with fail
        rw [HZ.out]
        exact binder_fin w _ _ D 0 _ rfl (((show Da.Blk (W.setCell ⟨w.heap.size + 1 + 1, 0, none⟩ (.int .i64 0)) (w.heap.size + 1 + 1) 3 #[.int .i64 0] from heap_setCell_same W _ 0 #[.int .i64 0] _ (.int .i64 0) HNW.out).cell 0).trans rfl) ((Below.heap_setCell _ _ _ _ (by show D ≠ w.heap.size + 1 + 1; omega)).trans HK.out) ((HbZ.out.trans (Hbel.out.mono (by omega))).setCell (p := ⟨w.heap.size + 1 + 1, 0, none⟩) (by show w.heap.size ≤ w.heap.size + 1 + 1; omega) _) (by omega)
      · have HZ := Lib.hid (binder_hit hch hn hid)
        have Hbel := Lib.hid hbel
        have Hbox := Lib.hid hbox
        clear hbel hpre hSp hK hch hn hid hbox
        gi_wp2_with fail
        rw [HZ.out]
        exact binder_fin w _ _ D y.1 _ rfl Hbox.out.cell HK.out Hbel.out (by omega)
end Go.Proofs.Yteolfkkabhileaa.Sc
end
