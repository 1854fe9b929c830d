/- A scope more (layer 5): the program's Extend. -/
import Derived.Deep.Cut
import Derived.Test.YteolfkkabhileaaMScExtMath
import Derived.Test.YteolfkkabhileaaMScNew
import Derived.Test.YteolfkkabhileaaMScIdent4
import Derived.Test.YteolfkkabhileaaM0
section
namespace Go.Proofs.Yteolfkkabhileaa.Sc
open Go.ChangeShapes Go.WideShapes Go.ChangeAt Go.RowKit
set_option linter.unusedVariables false
set_option linter.unusedSimpArgs false

theorem info_bd : (Try.prog.info? 84).map (fun i => (i.zero, i.size, i.bytes)) = some (some (.agg rowZ), 19, 96) := by kernel_rfl
theorem built_row (s : Nat) (what : Int) (x : Idn) : Try.prog.built 84 [(0, .int .i64 (s : Int)), (1, x.V), (2, .int .i64 what)] = some (rowC ⟨s, x, what⟩).toArray := by kernel_rfl
set_option maxRecDepth 100000 in
theorem run_buildRow (w : World) (r : Row) : (Instr.buildSlice 70 1 #[(0, .agg (rowC r).toArray)]).run Try.prog w = .ok (.slice (some ⟨w.heap.size, 0, none⟩) 1 1) (w.alloc (.cells (rowC r).toArray 84)) := by kernel_rfl
theorem wp_buildrow {o : Oper} {a : Act} {w : World} {K : Act → World → Prop} {Q : Exit → Act → World → Prop} (x : Operand) (r : Row) (ho : o.op = .buildSlice 70 1 #[(0, x)]) (hx : a.eval x = .agg (rowC r).toArray)
    (h : K (a.put o.dst (.slice (some ⟨w.heap.size, 0, none⟩) 1 1)) (w.alloc (.cells (rowC r).toArray 84))) : o.wp Try.prog a w K Q := by
  unfold Oper.wp execOp
  simp only [ho, List.map_toArray, List.map_cons, List.map_nil, hx, Sem.run_bind, run_buildRow, Result.andThen_ok]
  exact h
theorem row_cells_new (w : World) (r : Row) : ∀ j u, (rowC r)[j]? = some u → (w.alloc (.cells (rowC r).toArray 84)).cell? ((⟨w.heap.size, 0, none⟩ : Addr).add j) = some u := fun j u hu => by
  rw [Ld.add_at, Nat.zero_add]
  have h := cell_of_row _ _ j _ _ _ (heap_alloc_new w (.cells (rowC r).toArray 84))
  rw [h]
  simpa using hu
theorem rowC_one (r : Row) : ∀ u ∈ rowC r, u.oneCell' = true := by
  intro u hu
  have : (rowC r).all (·.oneCell') = true := by unfold rowC A17; simp [Value.oneCell']
  exact List.all_eq_true.1 this u hu
theorem bel_alloc_drew (W : World) (o : Obj) : Below W.heap.size W (W.drew.alloc o) := by
  have h := (Below.refl W.drew.heap.size W.drew).alloc (Nat.le_refl _) o
  exact ⟨h.os, h.tape, h.output, h.size, h.block⟩
theorem one_new (w : World) (c : Array Value) (t : TypeId) : Da.Blk (w.alloc (.cells c t)) w.heap.size t c := heap_alloc_new w _
set_option maxRecDepth 100000 in
set_option maxHeartbeats 16000000 in
theorem ext_ok (tb bm s : Nat) (T : Tab) (what : Int) (d : Da.Dt) (v : Value) (B : Nat) (w : World) (vs vm : Value) (hd : Da.IsDt w (Da.Lo B) d v) (hB : B ≤ w.heap.size) (h : TabAt w tb T vs vm bm) (hs : s < T.rows.length) (hf : T.rows.length < 16384) (hwf : (Lit.int .i64 what).wf = true) (h5 : d.K = 5) (hc : Da.chk d = 0) :
    Calls Try.prog 15 #[.pointer (some ⟨tb, 0, none⟩), .int .i64 (s : Int), v, .int .i64 what] w fun e w' => e = .returned (.tuple #[.int .i64 (T.rows.length : Int), .int .i64 0]) ∧
      TabIn w' tb (T.ext s (idn d) what) (fun k => Own3 tb vs vm bm k ∨ w.heap.size ≤ k) ∧ Chg (Own3 tb vs vm bm) w w' := by
  obtain ⟨i0, hi, hz0, hz1, hz2⟩ := info_parts info_bd
  obtain ⟨z0, hzd⟩ : ∃ z0, Value.agg rowZ = z0 := ⟨_, rfl⟩
  have hzz : z0.cells.size = 19 := by rw [← hzd]; rfl
  rw [hzd] at hz0
  clear hzd
  have hltT := h.lt tb (.inl rfl)
  have HT := Lib.hid h
  obtain ⟨a, c, rfl⟩ := slice_of h.rows
  obtain ⟨g, rfl, hltg, hown, hrow⟩ := at_row h.rows h.ok.pos
  have HOWN := Lib.hid hown
  have hntg : tb ≠ g := fun e => h.apart.1 (by rw [hown, e])
  have HTB := Lib.hid (show w.cell? ⟨tb, 0, none⟩ = some (.slice (some ⟨g, 0, none⟩) T.rows.length c) from (h.blk.cell 0).trans rfl)
  have HD := Lib.hid hd
  obtain ⟨am, cm, al, cl, at_, ct, rfl, hrest⟩ := hd.open_
  have n1 := one_new w (six d am cm al cl at_ ct) 33
  have hbX : Below w.heap.size w (w.alloc (.cells (six d am cm al cl at_ ct) 33)) := (Below.refl _ _).alloc (Nat.le_refl _) _
  have HC : Hid (chkE T.rows.length (s : Int) = 0) := Lib.hid (by unfold chkE; rw [if_neg (by omega), if_neg (by rintro (h | h) <;> omega)])
  have H5 := Lib.hid (And.intro h5 hc)
  have hx : Hid (idn d).Ok := Lib.hid (sym_facts h5 hc).1
  have HS := Lib.hid (And.intro hs (And.intro hf hwf))
  have d16 : ((T.rows.length : Int) == 16384) = false := by rw [beq_eq_false_iff_ne]; omega
  clear hd h hs hf hwf h5 hc hrest hown hrow
  go_enter Try.func15, Try.ntmps15
  go_upto_region 1 with (fail)
  generalize hX : (World.alloc w _) = X
  replace n1 : Da.Blk X w.heap.size 33 (six d am cm al cl at_ ct) := by rw [← hX]; exact n1
  replace hbX : Below w.heap.size w X := by rw [← hX]; exact hbX
  have hXs : X.heap.size = w.heap.size + 1 := by rw [← hX]; simp
  clear hX
  have HN1 := Lib.hid n1
  have HBX := Lib.hid hbX
  have HXS := Lib.hid hXs
  clear n1 hbX hXs
  go_wp2_with fail
  refine (check_any tb _ T.rows.length c _ _ ((HBX.out.cell (p := ⟨tb, 0, none⟩) hltT).trans HTB.out)).mono ?_
  rintro e w2 ⟨rfl, rfl⟩
  rw [HC.out]
  have e0 : X.cell? ⟨w.heap.size, 0, none⟩ = some (.int .i64 d.K) := (HN1.out.cell 0).trans rfl
  have e1 : X.cell? ⟨w.heap.size, 1, none⟩ = some (.int .i64 d.N) := (HN1.out.cell 1).trans rfl
  have e2 : X.cell? ⟨w.heap.size, 2, none⟩ = some (.string d.S) := (HN1.out.cell 2).trans rfl
  have e3 : X.cell? ⟨w.heap.size, 3, none⟩ = some (.slice am d.M.length cm) := (HN1.out.cell 3).trans rfl
  have e4 : X.cell? ⟨w.heap.size, 4, none⟩ = some (.slice al d.L.length cl) := (HN1.out.cell 4).trans rfl
  have e5 : X.cell? ⟨w.heap.size, 5, none⟩ = some (.slice at_ d.T.length ct) := (HN1.out.cell 5).trans rfl
  go_wp2_with fail
  refine (identify_good d _ B _ (HD.out.below (HBX.out.mono hB)) (by have := HXS.out; omega) H5.out.1 H5.out.2).mono ?_
  rintro e w3 ⟨rfl, hb3⟩
  have HB3 := Lib.hid (HBX.out.trans (hb3.mono HBX.out.size))
  have hlt3 : w.heap.size < w3.heap.size := by have := hb3.size; have := HXS.out; omega
  clear hb3 e0 e1 e2 e3 e4 e5 HN1 HBX HXS
  obtain ⟨x, hxd⟩ : ∃ x, idn d = x := ⟨_, rfl⟩
  rw [hxd] at hx ⊢
  have HXD := Lib.hid hxd
  clear hxd
  go_upto_region 5 with (refine wpList_store_row rfl 82 (.tmp 11) (.tmp 23) rfl w3.heap.size (A17 x.s (pad x.m)) rfl rfl 82 (A17 [] (fun _ => 0)) (heap_alloc_new w3 _) info_id rfl (A17_one _ _) ?_)
  generalize hX4 : (World.setRow (World.alloc w3 _) w3.heap.size (A17 x.s (pad x.m))) = W4
  have hb4 : Below w3.heap.size w3 W4 := by rw [← hX4]; exact bel_row ((Below.refl _ _).alloc (Nat.le_refl _) _) _ _ (Nat.le_refl _)
  have hi4 : Bk W4 w3.heap.size x.s (pad x.m) := by rw [← hX4]; exact (show Bk (w3.alloc _) w3.heap.size [] (fun _ => 0) from heap_alloc_new w3 _).row
  have hbw : Below w.heap.size w W4 := HB3.out.trans (hb4.mono HB3.out.size)
  have HT4 := Lib.hid (HT.out.bel hbw)
  have c4 : W4.cell? ⟨tb, 0, none⟩ = some (.slice (some ⟨g, 0, none⟩) T.rows.length c) := (hbw.cell (p := ⟨tb, 0, none⟩) hltT).trans HTB.out
  have HBW := Lib.hid hbw
  have hltI : w3.heap.size < W4.heap.size := (Array.getElem?_eq_some_iff.1 hi4).1
  have hnig : w3.heap.size ≠ g := by omega
  replace hltT : tb < W4.heap.size := by omega
  have hT0 : (fun W : World => W.cell? ⟨tb, 0, none⟩ = some (.slice (some ⟨g, 0, none⟩) T.rows.length c) ∧ Bk W w3.heap.size x.s (pad x.m)) W4.drew := ⟨c4, hi4⟩
  have HT0 := Lib.hid hT0
  clear hX4 hb4 hi4 hbw hT0
  go_upto_region 10 with (fail)
  have hT0 := HT0.out
  have N2 := Lib.hid (rowC_one ⟨s, x, what⟩)
  have N3 : Hid (T.rows.length + 1 ≤ maxLen ∧ (T.rows.length + 1) * 96 ≤ 140737488355328) := Lib.hid (by have := HS.out.2.1; unfold maxLen; omega)
  refine Od.till_region 13 (fun W : World => W.cell? ⟨tb, 0, none⟩ = some (.slice (some ⟨g, 0, none⟩) T.rows.length c) ∧ Bk W w3.heap.size x.s (pad x.m)) (fun _ : World => True) 14 (by kernel_rfl) rfl ?_
  simp only [Array.replicate_succ, Array.replicate_zero, List.push_toArray, List.nil_append, List.cons_append]
  refine Od.Till.takeT (i := 0) (d := 34) (v := .pointer (some ⟨tb, 0, none⟩)) rfl rfl (by kernel_rfl) (by kernel_rfl) (by kernel_rfl) (by kernel_rfl) (fun _ _ _ h => h) (.inl ⟨by rfl, ?_⟩) hT0 trivial ?_
  · intro wx hSw
    clear hSw
    go_simp
  simp only [Act.put, List.setIfInBounds_toArray, List.set_cons_zero, List.set_cons_succ]
  refine Od.Till.takeT (i := 1) (d := 35) (v := .pointer (some ⟨tb, 0, none⟩)) rfl rfl (by kernel_rfl) (by kernel_rfl) (by kernel_rfl) (by kernel_rfl) (fun _ _ _ h => h) (.inl ⟨by rfl, ?_⟩) hT0 trivial ?_
  · intro wx hSw
    clear hSw
    go_simp
  simp only [Act.put, List.setIfInBounds_toArray, List.set_cons_zero, List.set_cons_succ]
  refine Od.Till.takeT (i := 2) (d := 36) (v := .pointer (some ⟨tb, 0, none⟩)) rfl rfl (by kernel_rfl) (by kernel_rfl) (by kernel_rfl) (by kernel_rfl) (fun _ _ _ h => h) (.inl ⟨by rfl, ?_⟩) hT0 trivial ?_
  · intro wx hSw
    clear hSw
    go_simp
  simp only [Act.put, List.setIfInBounds_toArray, List.set_cons_zero, List.set_cons_succ]
  refine Od.Till.takeT (i := 3) (d := 37) (v := .pointer (some ⟨tb, 0, none⟩)) rfl rfl (by kernel_rfl) (by kernel_rfl) (by kernel_rfl) (by kernel_rfl) (fun _ _ _ h => h) (.inl ⟨by rfl, ?_⟩) hT0 trivial ?_
  · intro wx hSw
    clear hSw
    go_simp
  simp only [Act.put, List.setIfInBounds_toArray, List.set_cons_zero, List.set_cons_succ]
  refine Od.Till.take (i := 4) (v := .slice (some ⟨g, 0, none⟩) T.rows.length c) 38 rfl rfl (by kernel_rfl) (by kernel_rfl) (by kernel_rfl) (by kernel_rfl) (fun _ _ _ h => h) (.inl ⟨by rfl, ?_⟩) hT0 trivial ?_
  · intro wx hSw
    obtain ⟨q1, q2⟩ := hSw
    go_simp
  simp only [Act.put, List.setIfInBounds_toArray, List.set_cons_zero, List.set_cons_succ]
  refine Od.Till.takeT (i := 5) (d := 39) (v := .int .i64 (s : Int)) rfl rfl (by kernel_rfl) (by kernel_rfl) (by kernel_rfl) (by kernel_rfl) (fun _ _ _ h => h) (.inl ⟨by rfl, ?_⟩) hT0 trivial ?_
  · intro wx hSw
    clear hSw
    go_simp
  simp only [Act.put, List.setIfInBounds_toArray, List.set_cons_zero, List.set_cons_succ]
  refine Od.Till.take (i := 6) (v := x.V) 40 rfl rfl (by kernel_rfl) (by kernel_rfl) (by kernel_rfl) (by kernel_rfl) (fun _ _ _ h => h) (.inl ⟨by rfl, ?_⟩) hT0 trivial ?_
  · intro wx hSw
    obtain ⟨q1, q2⟩ := hSw
    exact Ld.exec_at 82 (.tmp 11) rfl w3.heap.size 0 rfl (idL x) _ (At.of_Bk q2) Try.underlying82 rfl info_idn
  simp only [Act.put, List.setIfInBounds_toArray, List.set_cons_zero, List.set_cons_succ]
  refine Od.Till.takeT (i := 7) (d := 41) (v := .int .i64 what) rfl rfl (by kernel_rfl) (by kernel_rfl) (by kernel_rfl) (by kernel_rfl) (fun _ _ _ h => h) (.inl ⟨by rfl, ?_⟩) hT0 trivial ?_
  · intro wx hSw
    clear hSw
    go_simp
  simp only [Act.put, List.setIfInBounds_toArray, List.set_cons_zero, List.set_cons_succ]
  refine Od.Till.takeT (i := 8) (d := 42) (v := .agg (rowC ⟨s, x, what⟩).toArray) rfl rfl (by kernel_rfl) (by kernel_rfl) (by kernel_rfl) (by kernel_rfl) (fun _ _ _ h => h) (.inl ⟨by rfl, ?_⟩) hT0 trivial ?_
  · intro wx hSw
    clear hSw
    refine Ld.exec_build 84 #[(0, .tmp 39), (1, .tmp 40), (2, .tmp 41)] rfl _ ?_; simp only [List.map_toArray, List.map_cons, List.map_nil]; exact built_row s what x
  simp only [Act.put, List.setIfInBounds_toArray, List.set_cons_zero, List.set_cons_succ]
  refine Od.Till.one (i := 9) (by kernel_rfl) rfl (fun K hK => ?_)
  rw [if_pos (by kernel_rfl)]
  refine wp_buildrow (.tmp 42) ⟨s, x, what⟩ rfl rfl ?_
  have hw5 : Below W4.heap.size W4 (World.alloc W4.drew (.cells (rowC ⟨s, x, what⟩).toArray 84)) := bel_alloc_drew W4 _
  have hcell5 : ∀ j u, (rowC ⟨s, x, what⟩)[j]? = some u → (World.alloc W4.drew (.cells (rowC ⟨s, x, what⟩).toArray 84)).cell? ((⟨W4.heap.size, 0, none⟩ : Addr).add j) = some u := row_cells_new W4.drew ⟨s, x, what⟩
  have hrw5 : (World.alloc W4.drew (.cells (rowC ⟨s, x, what⟩).toArray 84)).ownsRow 0 84 19 (.slice (some ⟨g, 0, none⟩) T.rows.length c) T.rows.length (rowsC T.rows) := ownsRow_same HT4.out.rows (fun k hk => hw5.block k (HT4.out.rows.lt k hk).2)
  generalize (World.alloc W4.drew (.cells (rowC ⟨s, x, what⟩).toArray 84)) = W5 at *
  have hT1 : (fun W : World => W.cell? ⟨tb, 0, none⟩ = some (.slice (some ⟨g, 0, none⟩) T.rows.length c) ∧ Bk W w3.heap.size x.s (pad x.m)) W5 := ⟨(hw5.cell (p := ⟨tb, 0, none⟩) hltT).trans hT0.1, (hw5.block _ hltI).trans hT0.2⟩
  refine hK.out _ _ ⟨fun _ => hT1, trivial⟩ ?_
  clear hK K
  simp only [Act.put, List.setIfInBounds_toArray, List.set_cons_zero, List.set_cons_succ]
  refine Od.Till.one (i := 10) (by kernel_rfl) rfl (fun K hK => ?_)
  rw [if_pos (by kernel_rfl)]
  refine wp_append_at W5 (.tmp 38) (.tmp 43) 70 rfl 0 84 i0 z0 19 96 Try.underlying70 hi hz0 hz1 hz2 hzz (by decide) (.slice (some ⟨g, 0, none⟩) T.rows.length c) T.rows.length (rowsC T.rows) rfl hrw5 ⟨W4.heap.size, 0, none⟩ 1 1 (rowC ⟨s, x, what⟩) rfl rfl hcell5 N2.out N3.out.1 N3.out.2 (Nat.zero_le _) ?_
  intro v6 W6 hown6 hg6 hat6
  obtain ⟨va, vc, rfl⟩ := slice_of hown6
  have hk6 : ∀ k, k < W4.heap.size → k ≠ g → W6.heap[k]? = W4.heap[k]? := fun k hk hne => (hg6.block k (Nat.lt_of_lt_of_le hk hw5.size) (fun e => by rw [HOWN.out] at e; injection e with e; exact hne e)).trans (hw5.block k hk)
  have hT2 : (fun W : World => W.cell? ⟨tb, 0, none⟩ = some (.slice (some ⟨g, 0, none⟩) T.rows.length c) ∧ Bk W w3.heap.size x.s (pad x.m)) W6 := ⟨(World.cell?_of_block (a := ⟨tb, 0, none⟩) (w := W4) (hk6 tb hltT hntg)).trans hT0.1, (hk6 _ hltI hnig).trans hT0.2⟩
  have k1 := hT2.1
  have k2 : W6.frozen? ⟨tb, 0, none⟩ = false := ((World.frozen?_of_block (a := ⟨tb, 0, none⟩) (w := W4) (hk6 tb hltT hntg))).trans (HT4.out.blk.frozen 0)
  have HE6 := Lib.hid (And.intro hown6 (And.intro hg6 hat6))
  have HW5 := Lib.hid hw5
  clear hown6 hg6 hat6 hk6 hw5 hrw5 hcell5
  refine hK.out _ _ ⟨fun _ => hT2, trivial⟩ ?_
  clear hK K
  simp only [Act.put, List.setIfInBounds_toArray, List.set_cons_zero, List.set_cons_succ]
  refine Od.Till.takeT (i := 11) (d := 45) (v := .pointer (some ⟨tb, 0, none⟩)) rfl rfl (by kernel_rfl) (by kernel_rfl) (by kernel_rfl) (by kernel_rfl) (fun _ _ _ h => h) (.inl ⟨by rfl, ?_⟩) hT2 trivial ?_
  · intro wx hSw
    clear hSw
    go_simp
  simp only [Act.put, List.setIfInBounds_toArray, List.set_cons_zero, List.set_cons_succ]
  refine Od.Till.takeT (i := 12) (d := 46) (v := .pointer (some ⟨tb, 0, none⟩)) rfl rfl (by kernel_rfl) (by kernel_rfl) (by kernel_rfl) (by kernel_rfl) (fun _ _ _ h => h) (.inl ⟨by rfl, ?_⟩) hT2 trivial ?_
  · intro wx hSw
    clear hSw
    go_simp
  simp only [Act.put, List.setIfInBounds_toArray, List.set_cons_zero, List.set_cons_succ]
  refine Od.Till.one (i := 13) (by kernel_rfl) rfl (fun K hK => ?_)
  rw [if_pos (by kernel_rfl)]
  go_simp
  refine hK.out _ _ ⟨(fun h => nomatch (show true = false from h)), trivial⟩ ?_
  clear hK K
  simp only [Act.put, List.setIfInBounds_toArray, List.set_cons_zero, List.set_cons_succ]
  refine Od.Till.done (by kernel_rfl) ?_
  obtain ⟨hown6, hg6, hat6⟩ := HE6.out
  obtain ⟨hm7, hf7, hc7, ho7⟩ := ext_mid HT4.out HW5.out hown6 hg6 hat6
  have hi7 : Bk (W6.setCell ⟨tb, 0, none⟩ (.slice va (T.rows.length + 1) vc)) w3.heap.size x.s (pad x.m) := (Below.heap_setCell _ _ _ _ (by show w3.heap.size ≠ tb; have := HT.out.lt tb (.inl rfl); omega)).trans hT2.2
  generalize W6.setCell ⟨tb, 0, none⟩ (.slice va (T.rows.length + 1) vc) = W7 at *
  have HM7 := Lib.hid hm7
  have HF7 := Lib.hid hf7
  have HC7 := Lib.hid (And.intro hc7 ho7)
  have hU0 : (fun W : World => FirstAt W bm T ∧ Bk W w3.heap.size x.s (pad x.m) ∧ W.cell? ⟨tb, 2, none⟩ = some (.map (some bm))) W7.drew := ⟨hf7, hi7, (hm7.blk.cell 2).trans rfl⟩
  have HI7 := Lib.hid hi7
  clear hT0 hT1 hT2 k1 k2 HE6 HW5 hown6 hg6 hat6 hm7 hf7 hc7 ho7 hi7 c4
  have HU0 := Lib.hid hU0
  have hpos := HT.out.ok.pos
  have hown0 : ∀ k, Own3 tb (.slice va (T.rows.length + 1) vc) vm bm k → Own3 tb (.slice (some ⟨g, 0, none⟩) T.rows.length c) vm bm k ∨ w.heap.size ≤ k := fun k hk => by
    rcases HC7.out.2 k hk with h | h
    · exact .inl h
    · have := HBW.out.size; exact .inr (by omega)
  have hchg0 : Chg (Own3 tb (.slice (some ⟨g, 0, none⟩) T.rows.length c) vm bm) w W7 := (Chg.of_below _ HBW.out).trans HC7.out.1 (fun b hb => .inl hb)
  have HOC := Lib.hid (And.intro hown0 hchg0)
  clear hU0 hown0 hchg0
  by_cases h0 : T.first x = 0
  · have dz : ((T.first x : Int) == 0) = true := by rw [h0]; rfl
    have H0 := Lib.hid h0
    clear h0
    go_wp2_with fail
    have hU0 := HU0.out
    refine Od.till_region 7 (fun _ : World => True) (fun W : World => FirstAt W bm T ∧ Bk W w3.heap.size x.s (pad x.m) ∧ W.cell? ⟨tb, 2, none⟩ = some (.map (some bm))) 7 (by kernel_rfl) rfl ?_
    simp only [Array.replicate_succ, Array.replicate_zero, List.push_toArray, List.nil_append, List.cons_append]
    refine Od.Till.takeT (i := 0) (d := 47) (v := .pointer (some ⟨tb, 0, none⟩)) rfl rfl (by kernel_rfl) (by kernel_rfl) (by kernel_rfl) (by kernel_rfl) (fun _ _ _ h => h) (.inl ⟨by rfl, ?_⟩) trivial hU0 ?_
    · intro wx hSw
      obtain ⟨q1, q2, q3⟩ := hSw
      go_simp
    simp only [Act.put, List.setIfInBounds_toArray, List.set_cons_zero, List.set_cons_succ]
    refine Od.Till.takeT (i := 1) (d := 48) (v := .pointer (some ⟨tb, 0, none⟩)) rfl rfl (by kernel_rfl) (by kernel_rfl) (by kernel_rfl) (by kernel_rfl) (fun _ _ _ h => h) (.inl ⟨by rfl, ?_⟩) trivial hU0 ?_
    · intro wx hSw
      obtain ⟨q1, q2, q3⟩ := hSw
      go_simp
    simp only [Act.put, List.setIfInBounds_toArray, List.set_cons_zero, List.set_cons_succ]
    refine Od.Till.takeT (i := 2) (d := 49) (v := .pointer (some ⟨tb, 2, none⟩)) rfl rfl (by kernel_rfl) (by kernel_rfl) (by kernel_rfl) (by kernel_rfl) (fun _ _ _ h => h) (.inl ⟨by rfl, ?_⟩) trivial hU0 ?_
    · intro wx hSw
      obtain ⟨q1, q2, q3⟩ := hSw
      go_simp
    simp only [Act.put, List.setIfInBounds_toArray, List.set_cons_zero, List.set_cons_succ]
    refine Od.Till.takeT (i := 3) (d := 50) (v := .map (some bm)) rfl rfl (by kernel_rfl) (by kernel_rfl) (by kernel_rfl) (by kernel_rfl) (fun _ _ _ h => h) (.inl ⟨by rfl, ?_⟩) trivial hU0 ?_
    · intro wx hSw
      obtain ⟨q1, q2, q3⟩ := hSw
      go_simp
    simp only [Act.put, List.setIfInBounds_toArray, List.set_cons_zero, List.set_cons_succ]
    refine Od.Till.takeT (i := 4) (d := 51) (v := x.V) rfl rfl (by kernel_rfl) (by kernel_rfl) (by kernel_rfl) (by kernel_rfl) (fun _ _ _ h => h) (.inl ⟨by rfl, ?_⟩) trivial hU0 ?_
    · intro wx hSw
      obtain ⟨q1, q2, q3⟩ := hSw
      exact Ld.exec_at 82 (.tmp 11) rfl w3.heap.size 0 rfl (idL x) _ (At.of_Bk q2) Try.underlying82 rfl info_idn
    simp only [Act.put, List.setIfInBounds_toArray, List.set_cons_zero, List.set_cons_succ]
    refine Od.Till.takeT (i := 5) (d := 52) (v := .int .i64 (T.first x : Int)) rfl rfl (by kernel_rfl) (by kernel_rfl) (by kernel_rfl) (by kernel_rfl) (fun _ _ _ h => h) (.inl ⟨by rfl, ?_⟩) trivial hU0 ?_
    · intro wx hSw
      obtain ⟨q1, q2, q3⟩ := hSw
      have hl := look_first q1 hx.out; simp [execOp, go_sem, hl]
    simp only [Act.put, List.setIfInBounds_toArray, List.set_cons_zero, List.set_cons_succ]
    refine Od.Till.takeT (i := 6) (d := 53) (v := .bool ((T.first x : Int) == 0)) rfl rfl (by kernel_rfl) (by kernel_rfl) (by kernel_rfl) (by kernel_rfl) (fun _ _ _ h => h) (.inl ⟨by rfl, ?_⟩) trivial hU0 ?_
    · intro wx hSw
      obtain ⟨q1, q2, q3⟩ := hSw
      go_simp
    simp only [Act.put, List.setIfInBounds_toArray, List.set_cons_zero, List.set_cons_succ]
    refine Od.Till.done (by kernel_rfl) ?_
    clear hU0
    go_wp2_with fail
    have hV0 : (fun W : World => Bk W w3.heap.size x.s (pad x.m) ∧ W.cell? ⟨tb, 2, none⟩ = some (.map (some bm))) W7.drew.drew := ⟨HU0.out.2.1, HU0.out.2.2⟩
    have hF7 : Hid (FirstAt W7.drew.drew bm T) := Lib.hid (HF7.out.same rfl)
    have N4 : Hid (T.rows.length < maxLen) := Lib.hid (by have := HS.out.2.1; unfold maxLen; omega)
    have N5 : Hid ((Lit.int .i64 (T.rows.length : Int)).wf = true) := Lib.hid (by have := HS.out.2.1; simp [Lit.wf, IntKind.min, IntKind.max, IntKind.bits, IntKind.signed]; omega)
    refine Od.till_region 6 (fun W : World => Bk W w3.heap.size x.s (pad x.m) ∧ W.cell? ⟨tb, 2, none⟩ = some (.map (some bm))) (fun _ : World => True) 7 (by kernel_rfl) rfl ?_
    simp only [Array.replicate_succ, Array.replicate_zero, List.push_toArray, List.nil_append, List.cons_append]
    refine Od.Till.takeT (i := 0) (d := 54) (v := .pointer (some ⟨tb, 0, none⟩)) rfl rfl (by kernel_rfl) (by kernel_rfl) (by kernel_rfl) (by kernel_rfl) (fun _ _ _ h => h) (.inl ⟨by rfl, ?_⟩) hV0 trivial ?_
    · intro wx hSw
      clear hSw
      go_simp
    simp only [Act.put, List.setIfInBounds_toArray, List.set_cons_zero, List.set_cons_succ]
    refine Od.Till.takeT (i := 1) (d := 55) (v := .pointer (some ⟨tb, 0, none⟩)) rfl rfl (by kernel_rfl) (by kernel_rfl) (by kernel_rfl) (by kernel_rfl) (fun _ _ _ h => h) (.inl ⟨by rfl, ?_⟩) hV0 trivial ?_
    · intro wx hSw
      clear hSw
      go_simp
    simp only [Act.put, List.setIfInBounds_toArray, List.set_cons_zero, List.set_cons_succ]
    refine Od.Till.takeT (i := 2) (d := 56) (v := .pointer (some ⟨tb, 2, none⟩)) rfl rfl (by kernel_rfl) (by kernel_rfl) (by kernel_rfl) (by kernel_rfl) (fun _ _ _ h => h) (.inl ⟨by rfl, ?_⟩) hV0 trivial ?_
    · intro wx hSw
      clear hSw
      go_simp
    simp only [Act.put, List.setIfInBounds_toArray, List.set_cons_zero, List.set_cons_succ]
    refine Od.Till.take (i := 3) (v := .map (some bm)) 57 rfl rfl (by kernel_rfl) (by kernel_rfl) (by kernel_rfl) (by kernel_rfl) (fun _ _ _ h => h) (.inl ⟨by rfl, ?_⟩) hV0 trivial ?_
    · intro wx hSw
      obtain ⟨q2, q3⟩ := hSw
      go_simp
    simp only [Act.put, List.setIfInBounds_toArray, List.set_cons_zero, List.set_cons_succ]
    refine Od.Till.take (i := 4) (v := x.V) 58 rfl rfl (by kernel_rfl) (by kernel_rfl) (by kernel_rfl) (by kernel_rfl) (fun _ _ _ h => h) (.inl ⟨by rfl, ?_⟩) hV0 trivial ?_
    · intro wx hSw
      obtain ⟨q2, q3⟩ := hSw
      exact Ld.exec_at 82 (.tmp 11) rfl w3.heap.size 0 rfl (idL x) _ (At.of_Bk q2) Try.underlying82 rfl info_idn
    simp only [Act.put, List.setIfInBounds_toArray, List.set_cons_zero, List.set_cons_succ]
    refine Od.Till.takeT (i := 5) (d := 59) (v := .int .i64 (T.rows.length : Int)) rfl rfl (by kernel_rfl) (by kernel_rfl) (by kernel_rfl) (by kernel_rfl) (fun _ _ _ h => h) (.inl ⟨by rfl, ?_⟩) hV0 trivial ?_
    · intro wx hSw
      clear hSw
      go_simp
    simp only [Act.put, List.setIfInBounds_toArray, List.set_cons_zero, List.set_cons_succ]
    refine Od.Till.one (i := 6) (by kernel_rfl) rfl (fun K hK => ?_)
    rw [if_pos (by kernel_rfl)]
    obtain ⟨kl, hkl⟩ := key_any x hx.out
    obtain ⟨DD, hown7, hD7, hat7⟩ := hF7.out
    obtain ⟨W8, hrun8, hown8, hg8⟩ := hown7.update keyed Try.underlying71 N4.out hkl (plainElem_int Try.underlying3 N5.out)
    have HP8 := Lib.hid (And.intro hD7 (And.intro hat7 (And.intro hown8 (And.intro hg8 hkl))))
    unfold Oper.wp
    simp [execOp, go_sem, hrun8, Result.andThen]
    clear hown7 hD7 hat7 hown8 hg8 hkl hrun8
    refine hK.out _ _ ⟨(fun h => nomatch (show true = false from h)), trivial⟩ ?_
    clear hK K
    simp only [Act.put, List.setIfInBounds_toArray, List.set_cons_zero, List.set_cons_succ]
    refine Od.Till.done (by kernel_rfl) ?_
    clear hV0
    go_wp2_with fail
    go_ret2
    obtain ⟨hD7, hat7, hown8, hg8, hkl⟩ := HP8.out
    have hg8' : W7.grownBy W8 (some bm) := ⟨hg8.os, hg8.tape, hg8.output, hg8.size, hg8.block⟩
    have hmap : ∃ es clock, W7.heap[bm]? = some (.map es clock) := by
      obtain ⟨_, ⟨es, clock, hb, _⟩, _⟩ := HF7.out
      exact ⟨es, clock, hb⟩
    rw [HXD.out]
    exact ⟨rfl, ⟨_, _, bm, (HM7.out.put hmap hg8').done HT.out.ok HT.out.ids HT.out.whats HS.out.1 HS.out.2.1 hx.out HS.out.2.2 (ext_first_put hD7 hat7 hown8 hpos hx.out hkl H0.out), HOC.out.1⟩,
      HOC.out.2.trans (Chg.of_grown hg8') (fun b hb => by injection hb with hb; exact .inl (.inr (.inr (.inr hb))))⟩
  · have dz : ((T.first x : Int) == 0) = false := by rw [beq_eq_false_iff_ne]; omega
    have H0 := Lib.hid h0
    clear h0
    go_wp2_with fail
    have hU0 := HU0.out
    refine Od.till_region 7 (fun _ : World => True) (fun W : World => FirstAt W bm T ∧ Bk W w3.heap.size x.s (pad x.m) ∧ W.cell? ⟨tb, 2, none⟩ = some (.map (some bm))) 7 (by kernel_rfl) rfl ?_
    simp only [Array.replicate_succ, Array.replicate_zero, List.push_toArray, List.nil_append, List.cons_append]
    refine Od.Till.takeT (i := 0) (d := 47) (v := .pointer (some ⟨tb, 0, none⟩)) rfl rfl (by kernel_rfl) (by kernel_rfl) (by kernel_rfl) (by kernel_rfl) (fun _ _ _ h => h) (.inl ⟨by rfl, ?_⟩) trivial hU0 ?_
    · intro wx hSw
      obtain ⟨q1, q2, q3⟩ := hSw
      go_simp
    simp only [Act.put, List.setIfInBounds_toArray, List.set_cons_zero, List.set_cons_succ]
    refine Od.Till.takeT (i := 1) (d := 48) (v := .pointer (some ⟨tb, 0, none⟩)) rfl rfl (by kernel_rfl) (by kernel_rfl) (by kernel_rfl) (by kernel_rfl) (fun _ _ _ h => h) (.inl ⟨by rfl, ?_⟩) trivial hU0 ?_
    · intro wx hSw
      obtain ⟨q1, q2, q3⟩ := hSw
      go_simp
    simp only [Act.put, List.setIfInBounds_toArray, List.set_cons_zero, List.set_cons_succ]
    refine Od.Till.takeT (i := 2) (d := 49) (v := .pointer (some ⟨tb, 2, none⟩)) rfl rfl (by kernel_rfl) (by kernel_rfl) (by kernel_rfl) (by kernel_rfl) (fun _ _ _ h => h) (.inl ⟨by rfl, ?_⟩) trivial hU0 ?_
    · intro wx hSw
      obtain ⟨q1, q2, q3⟩ := hSw
      go_simp
    simp only [Act.put, List.setIfInBounds_toArray, List.set_cons_zero, List.set_cons_succ]
    refine Od.Till.takeT (i := 3) (d := 50) (v := .map (some bm)) rfl rfl (by kernel_rfl) (by kernel_rfl) (by kernel_rfl) (by kernel_rfl) (fun _ _ _ h => h) (.inl ⟨by rfl, ?_⟩) trivial hU0 ?_
    · intro wx hSw
      obtain ⟨q1, q2, q3⟩ := hSw
      go_simp
    simp only [Act.put, List.setIfInBounds_toArray, List.set_cons_zero, List.set_cons_succ]
    refine Od.Till.takeT (i := 4) (d := 51) (v := x.V) rfl rfl (by kernel_rfl) (by kernel_rfl) (by kernel_rfl) (by kernel_rfl) (fun _ _ _ h => h) (.inl ⟨by rfl, ?_⟩) trivial hU0 ?_
    · intro wx hSw
      obtain ⟨q1, q2, q3⟩ := hSw
      exact Ld.exec_at 82 (.tmp 11) rfl w3.heap.size 0 rfl (idL x) _ (At.of_Bk q2) Try.underlying82 rfl info_idn
    simp only [Act.put, List.setIfInBounds_toArray, List.set_cons_zero, List.set_cons_succ]
    refine Od.Till.takeT (i := 5) (d := 52) (v := .int .i64 (T.first x : Int)) rfl rfl (by kernel_rfl) (by kernel_rfl) (by kernel_rfl) (by kernel_rfl) (fun _ _ _ h => h) (.inl ⟨by rfl, ?_⟩) trivial hU0 ?_
    · intro wx hSw
      obtain ⟨q1, q2, q3⟩ := hSw
      have hl := look_first q1 hx.out; simp [execOp, go_sem, hl]
    simp only [Act.put, List.setIfInBounds_toArray, List.set_cons_zero, List.set_cons_succ]
    refine Od.Till.takeT (i := 6) (d := 53) (v := .bool ((T.first x : Int) == 0)) rfl rfl (by kernel_rfl) (by kernel_rfl) (by kernel_rfl) (by kernel_rfl) (fun _ _ _ h => h) (.inl ⟨by rfl, ?_⟩) trivial hU0 ?_
    · intro wx hSw
      obtain ⟨q1, q2, q3⟩ := hSw
      go_simp
    simp only [Act.put, List.setIfInBounds_toArray, List.set_cons_zero, List.set_cons_succ]
    refine Od.Till.done (by kernel_rfl) ?_
    clear hU0
    go_wp2_with fail
    go_ret2
    have hm : Mid W7.drew tb T ⟨s, x, what⟩ (.slice va (T.rows.length + 1) vc) vm bm := ⟨HM7.out.blk, ownsRow_same HM7.out.rows (fun _ _ => rfl), ownsRow_same HM7.out.marks (fun _ _ => rfl)⟩
    rw [HXD.out]
    exact ⟨rfl, ⟨_, _, bm, hm.done HT.out.ok HT.out.ids HT.out.whats HS.out.1 HS.out.2.1 hx.out HS.out.2.2 ((ext_first_keep HF7.out hpos hx.out H0.out).same rfl), HOC.out.1⟩,
      HOC.out.2.trans (Chg.of_below (fun _ => False) (bel_drew0 W7 _)) (fun b hb => hb.elim)⟩
end Go.Proofs.Yteolfkkabhileaa.Sc
end
