/- What an identifier means in a scope: the program's resolve (layer 5). -/
import Derived.Deep.LoopGhost
import Derived.Deep.Cut
import Derived.IntWalk
import Derived.Test.YteolfkkabhileaaMScBinder
import Derived.Test.YteolfkkabhileaaMScUnmark
import Derived.Test.YteolfkkabhileaaM0
section
namespace Go.Proofs.Yteolfkkabhileaa.Sc
open Go.ChangeShapes Go.WideShapes Go.ChangeAt Go.RowKit
set_option linter.unusedVariables false
set_option linter.unusedSimpArgs false

theorem load_id {ops : Array Oper} {rest : List Oper} {o : Oper} {a : Act} {w : World} {Q : Exit → Act → World → Prop} (x : Operand) (g off : Nat) (y : Idn) (hgd : o.guard = none) (ho : o.op = .load 82 x)
    (hx : a.eval x = .pointer (some ⟨g, off, none⟩)) (hat : Ld.At w g off (idL y)) (h : wpList Try.prog ops Q rest (a.put o.dst y.V) w) : wpList Try.prog ops Q (o :: rest) a w :=
  Ld.wpList_at hgd 82 x ho g off hx (idL y) _ hat Try.underlying82 rfl info_idn h
def Seen.V (z : Seen) : Value := .agg #[.int .i64 (z.scope : Int), .int .i64 z.what, .string ⟨z.name.toArray⟩]
theorem binder_lt {T : Tab} (h : T.Ok) {s : Nat} {x : Idn} (hs : s < T.rows.length) (hb : T.binder s x ≠ 0) : T.binder s x < T.rows.length := by
  unfold Tab.binder at hb ⊢
  rcases hf : (T.chain s).find? (fun i => T.id i == x) with _ | j
  · rw [hf] at hb; exact absurd rfl hb
  · exact (chain_lt h s hs j (List.mem_of_find?_eq_some hf)).2.2
theorem seen_hit {T : Tab} {s : Nat} {x : Idn} (hb : T.binder s x ≠ 0) : T.seen s x = ⟨T.binder s x, T.what (T.binder s x), []⟩ := by
  unfold Tab.seen
  rcases x with ⟨t, m⟩
  simp only at hb ⊢
  cases hr : m.reverse with
  | nil => 
    obtain rfl : m = [] := by simpa using hr
    rw [Tab.seenR, if_neg hb]
  | cons k r =>
    have hm : m = (k :: r).reverse := by rw [← hr, List.reverse_reverse]
    subst hm
    rw [Tab.seenR, if_neg hb]
theorem seen_free {T : Tab} {s : Nat} {x : Idn} (hb : T.binder s x = 0) (hm : x.m = []) : T.seen s x = ⟨0, 0, x.s⟩ := by
  unfold Tab.seen
  rcases x with ⟨t, m⟩
  simp only at hb hm ⊢
  subst hm
  rw [List.reverse_nil, Tab.seenR, if_pos hb]
theorem seen_less {T : Tab} {s : Nat} {x : Idn} (hb : T.binder s x = 0) (hm : x.m ≠ []) : T.seen s x = T.seen (T.marks.getD (x.last.toNat - 1) 0) x.less := by
  unfold Tab.seen Idn.less Idn.last
  rcases x with ⟨t, m⟩
  simp only at hb hm ⊢
  obtain ⟨r, k, rfl⟩ : ∃ r k, m = r ++ [k] := ⟨m.dropLast, m.getLast hm, (List.dropLast_concat_getLast hm).symm⟩
  rw [List.reverse_append, List.reverse_singleton, List.singleton_append, Tab.seenR, if_pos (by rw [List.reverse_cons, List.reverse_reverse]; exact hb), List.dropLast_concat, List.getLastD_concat]
theorem cell_row_ne (W : World) (c : Array Value) {g b : Nat} (h : b ≠ g) (o : Nat) : (W.setRow g c).cell? ⟨b, o, none⟩ = W.cell? ⟨b, o, none⟩ := World.cell?_of_block (a := ⟨b, o, none⟩) (setRow_other W g b c h)
theorem marks_at {w : World} {a : Option Addr} {c : Nat} {l : List Nat} (h : w.ownsRow 0 3 1 (.slice a l.length c) l.length (marksC l)) (hl : 0 < l.length) :
    ∃ g, a = some ⟨g, 0, none⟩ ∧ g < w.heap.size ∧ ∀ k, k < l.length → w.cell? ⟨g, k, none⟩ = some (.int .i64 ((l.getD k 0 : Nat) : Int)) := by
  obtain ⟨g, e, hlt, _, hc⟩ := row_cells h hl
  refine ⟨g, e, hlt, fun k hk => hc k _ ?_⟩
  unfold marksC
  rw [List.getElem?_map, List.getD_eq_getElem?_getD, List.getElem?_eq_getElem hk]
  rfl
/-- The marks of an identifier were made. -/
def Made (T : Tab) (x : Idn) : Prop := ∀ k ∈ x.m, k ≤ (T.marks.length : Int)
theorem last_mem {x : Idn} (h : x.m ≠ []) : x.last ∈ x.m := by
  unfold Idn.last
  rw [← List.dropLast_concat_getLast h, List.getLastD_concat]
  simp
theorem info_seen : (Try.prog.info? 49).map (·.size) = some 3 := by kernel_rfl
def seenC (z : Seen) : Array Value := #[.int .i64 (z.scope : Int), .int .i64 z.what, .string ⟨z.name.toArray⟩]
theorem seenC_one (z : Seen) : (seenC z).all (·.oneCell') = true := by unfold seenC; simp [Value.oneCell']
theorem res_fin (w W : World) (tm : Array Value) (z : Seen) (r : Nat) (h6 : tm.getD 6 undef = .pointer (some ⟨r, 0, none⟩)) (hb : Da.Blk W r 49 (seenC z)) (hbel : Below w.heap.size w W) :
    bodyPost Try.prog Try.f37 (fun e w' => e = .returned z.V ∧ Below w.heap.size w w') Exit.ret { tmps := tm, defers := [] } W :=
  bodyPost_ret (results_cell_row rfl tm W r _ (seenC z) _ _ h6 hb Try.underlying49 rfl info_seen) rfl ⟨rfl, hbel⟩
def ResAt (w : World) (T : Tab) (x : Idn) (s : Nat) (k : Nat) (i : Value) (wr : World) : Prop :=
  ∃ (y : Idn) (c : Nat), i = .int .i64 (c : Int) ∧ c < T.rows.length ∧ y.Ok ∧ Made T y ∧ k = y.m.length ∧ Hid (T.seen c y = T.seen s x) ∧ Bk wr w.heap.size y.s (pad y.m) ∧ Da.Blk wr (w.heap.size + 1) 49 #[.int .i64 0, .int .i64 0, .string ⟨#[]⟩] ∧ Below w.heap.size w wr
set_option maxRecDepth 100000 in
set_option maxHeartbeats 8000000 in
theorem resolve_any (tb : Nat) (T : Tab) (x : Idn) (s : Nat) (w : World) (vs vm : Value) (bm : Nat) (hx : x.Ok) (hmd : Made T x) (h : TabAt w tb T vs vm bm) (hs : s < T.rows.length) :
    Calls Try.prog 37 #[.pointer (some ⟨tb, 0, none⟩), .int .i64 (s : Int), x.V] w fun e w' => e = .returned (T.seen s x).V ∧ Below w.heap.size w w' := by
  have hltT := h.lt tb (.inl rfl)
  obtain ⟨a, c, rfl⟩ := slice_of h.rows
  obtain ⟨am, cm, rfl⟩ := slice_of h.marks
  obtain ⟨g, rfl, hltg, hown, hrow⟩ := at_row h.rows h.ok.pos
  have HOK := Lib.hid h.ok
  have HT := Lib.hid h
  have HROW := Lib.hid hrow
  have cs0 : w.cell? ⟨tb, 0, none⟩ = some (.slice (some ⟨g, 0, none⟩) T.rows.length c) := (h.blk.cell 0).trans rfl
  have cm0 : w.cell? ⟨tb, 1, none⟩ = some (.slice am T.marks.length cm) := (h.blk.cell 1).trans rfl
  have HC := Lib.hid (And.intro cs0 cm0)
  have HX := Lib.hid hx
  have HMD := Lib.hid hmd
  have HS := Lib.hid hs
  clear h hown hrow cs0 cm0 hx hmd hs
  unfold Idn.V idA
  go_enter Try.func37, Try.ntmps37
  go_wp2_with fail
  obtain ⟨n1, n2⟩ := two_new w (A17 x.s (pad x.m)) #[.int .i64 0, .int .i64 0, .string ⟨#[]⟩] 82 49
  have HN := Lib.hid (And.intro n1 (And.intro n2 (bel_two w (.cells (A17 x.s (pad x.m)) 82) (.cells #[.int .i64 0, .int .i64 0, .string ⟨#[]⟩] 49))))
  clear n1 n2
  go_loopg [1] x.m.length (fun k i wr => ResAt w T x s k i wr)
  case atStart => exact ⟨x, s, rfl, HS.out, HX.out, HMD.out, rfl, Lib.hid rfl, HN.out.1, HN.out.2.1, HN.out.2.2⟩
  case round =>
    clear HN HX HMD HS
    obtain ⟨y, cu, rfl, hcl, hy, hmd, rfl, hseen, hby, hsn, hbel⟩ := hrel
    have HY := Lib.hid hy
    have HMY := Lib.hid hmd
    have HBY := Lib.hid hby
    have HSN := Lib.hid hsn
    have Hbel := Lib.hid hbel
    have hbl : w.heap.size < wr.heap.size := (Array.getElem?_eq_some_iff.1 hby).1
    have HTW := Lib.hid (HT.out.bel hbel)
    clear hy hmd hby hsn hbel
    go_wp2_with (refine load_id (.tmp 5) w.heap.size 0 y rfl rfl rfl (At.of_Bk HBY.out) ?_)
    refine (binder_any tb T y cu _ _ _ bm HY HTW.out hcl).mono ?_
    rintro e w2 ⟨rfl, hb2⟩
    replace HBY := Lib.hid (HBY.out.keep hb2)
    replace HSN := Lib.hid (show Da.Blk w2 (w.heap.size + 1) 49 #[.int .i64 0, .int .i64 0, .string ⟨#[]⟩] from (hb2.block _ (Array.getElem?_eq_some_iff.1 HSN.out).1).trans HSN.out)
    replace Hbel := Lib.hid (Hbel.out.trans (hb2.mono Hbel.out.size))
    replace hbl : w.heap.size < w2.heap.size := Nat.lt_of_lt_of_le hbl hb2.size
    clear hb2 HTW
    have cs0 : w2.cell? ⟨tb, 0, none⟩ = some (.slice (some ⟨g, 0, none⟩) T.rows.length c) := (Hbel.out.cell (p := ⟨tb, 0, none⟩) hltT).trans HC.out.1
    have cm0 : w2.cell? ⟨tb, 1, none⟩ = some (.slice am T.marks.length cm) := (Hbel.out.cell (p := ⟨tb, 1, none⟩) hltT).trans HC.out.2
    by_cases hb0 : T.binder cu y = 0
    · have d0 : ((T.binder cu y : Int) != 0) = false := by rw [hb0]; rfl
      have HB0 := Lib.hid hb0
      clear hb0 cs0
      go_wp2_with (refine load_id (.tmp 5) w.heap.size 0 y rfl rfl rfl (At.of_Bk HBY.out) ?_)
      refine (unmark_any y HY _).mono ?_
      rintro e w3 ⟨rfl, hb3⟩
      replace HBY := Lib.hid (HBY.out.keep hb3)
      replace HSN := Lib.hid (show Da.Blk w3 (w.heap.size + 1) 49 #[.int .i64 0, .int .i64 0, .string ⟨#[]⟩] from (hb3.block _ (Array.getElem?_eq_some_iff.1 HSN.out).1).trans HSN.out)
      replace Hbel := Lib.hid (Hbel.out.trans (hb3.mono Hbel.out.size))
      have cm3 : w3.cell? ⟨tb, 1, none⟩ = some (.slice am T.marks.length cm) := (Hbel.out.cell (p := ⟨tb, 1, none⟩) hltT).trans HC.out.2
      have hlt3 : w.heap.size + 1 < w3.heap.size := (Array.getElem?_eq_some_iff.1 HSN.out).1
      clear hb3 cm0 hbl
      generalize hz : y.less = z
      have HZ := Lib.hid hz
      generalize hlm : y.last = lm
      have HLM := Lib.hid hlm
      clear hz hlm
      have hlm : Hid (lm = y.last) := Lib.hid HLM.out.symm
      by_cases hm : y.m = []
      · have hl0 : lm = 0 := by rw [← HLM.out]; unfold Idn.last; rw [hm]; rfl
        have d1 : (lm == 0) = true := by rw [hl0]; rfl
        have HSE := Lib.hid (hseen.out.symm.trans (seen_free HB0.out hm))
        clear hl0 hm
        go_upto_region 5 with (refine wpList_store_row rfl 82 (.tmp 8) (.tmp 29) rfl w3.heap.size (A17 z.s (pad z.m)) rfl rfl 82 (A17 [] (fun _ => 0)) (heap_alloc_new w3 _) info_id rfl (A17_one _ _) ?_)
        generalize hX : (World.setRow (World.alloc w3 _) w3.heap.size (A17 z.s (pad z.m))) = W4
        have hb4 : Below w3.heap.size w3 W4 := by rw [← hX]; exact bel_row ((Below.refl _ _).alloc (Nat.le_refl _) _) _ _ (Nat.le_refl _)
        replace HBY := Lib.hid (HBY.out.keep hb4)
        replace HSN := Lib.hid (show Da.Blk W4 (w.heap.size + 1) 49 #[.int .i64 0, .int .i64 0, .string ⟨#[]⟩] from (hb4.block _ hlt3).trans HSN.out)
        replace Hbel := Lib.hid (Hbel.out.trans (hb4.mono Hbel.out.size))
        have ct : W4.cell? ⟨w.heap.size, 0, none⟩ = some (.string ⟨y.s.toArray⟩) := (HBY.out.cell 0).trans rfl
        clear hX hb4
        go_wp2_with (refine wpList_store_row rfl 49 (.tmp 6) (.tmp 35) rfl (w.heap.size + 1) (seenC ⟨0, 0, y.s⟩) rfl rfl 49 _ HSN.out info_seen rfl (seenC_one _) ?_)
        rw [HSE.out]
        exact res_fin w _ _ ⟨0, 0, y.s⟩ (w.heap.size + 1) rfl (setRow_heap _ _ _ _ _ _ HSN.out) (bel_row Hbel.out (w.heap.size + 1) _ (by omega))
      · have hlast := last_mem hm
        rw [HLM.out] at hlast
        have h1 := HY.mark lm hlast
        have h2 := HMY.out lm hlast
        have d1 : (lm == 0) = false := by rw [beq_eq_false_iff_ne]; omega
        have HSE := Lib.hid (hseen.out.symm.trans (seen_less HB0.out hm))
        have hlen : z.m.length + 1 = y.m.length := by rw [← HZ.out]; unfold Idn.less; rw [List.length_dropLast]; have := List.length_pos_iff.2 hm; omega
        clear hm
        obtain ⟨gm, rfl, hltg2, hmk⟩ := marks_at HT.out.marks (by omega)
        have hmk1 := (Hbel.out.cell (p := ⟨gm, lm.toNat - 1, none⟩) hltg2).trans (hmk _ (by omega))
        obtain ⟨pm, hpm⟩ : ∃ pm, T.marks.getD (lm.toNat - 1) 0 = pm := ⟨_, rfl⟩
        rw [hpm] at hmk1
        have HPM := Lib.hid hpm
        have HMK1 := Lib.hid hmk1
        have hpl : pm < T.rows.length := by
          rw [← hpm, List.getD_eq_getElem?_getD, List.getElem?_eq_getElem (show lm.toNat - 1 < T.marks.length by omega)]
          exact HOK.out.mark _ (List.getElem_mem _)
        clear hpm hmk1 hmk hlast
        go_upto_region 5 with (refine wpList_store_row rfl 82 (.tmp 8) (.tmp 29) rfl w3.heap.size (A17 z.s (pad z.m)) rfl rfl 82 (A17 [] (fun _ => 0)) (heap_alloc_new w3 _) info_id rfl (A17_one _ _) ?_)
        generalize hX : (World.setRow (World.alloc w3 _) w3.heap.size (A17 z.s (pad z.m))) = W5
        have hb4 : Below w3.heap.size w3 W5 := by rw [← hX]; exact bel_row ((Below.refl _ _).alloc (Nat.le_refl _) _) _ _ (Nat.le_refl _)
        have hzb : Bk W5 w3.heap.size z.s (pad z.m) := by rw [← hX]; exact (show Bk (w3.alloc _) w3.heap.size [] (fun _ => 0) from heap_alloc_new w3 _).row
        have HBYd := HBY.out.keep hb4
        replace HSN := Lib.hid (show Da.Blk W5 (w.heap.size + 1) 49 #[.int .i64 0, .int .i64 0, .string ⟨#[]⟩] from (hb4.block _ hlt3).trans HSN.out)
        have hbw := Hbel.out.size
        have cm5 : W5.cell? ⟨tb, 1, none⟩ = some (.slice (some ⟨gm, 0, none⟩) T.marks.length cm) := (hb4.cell (p := ⟨tb, 1, none⟩) (by show tb < _; omega)).trans cm3
        have ck5 : W5.cell? ⟨gm, lm.toNat - 1, none⟩ = some (.int .i64 (pm : Int)) := (hb4.cell (p := ⟨gm, _, none⟩) (by show gm < _; omega)).trans HMK1.out
        replace HBY := Lib.hid HBYd
        replace Hbel := Lib.hid (Hbel.out.trans (hb4.mono Hbel.out.size))
        have hnb : w3.heap.size ≠ w.heap.size := by omega
        have hT0 : (fun W : World => Bk W w3.heap.size z.s (pad z.m) ∧ W.cell? ⟨tb, 1, none⟩ = some (.slice (some ⟨gm, 0, none⟩) T.marks.length cm) ∧ W.cell? ⟨gm, lm.toNat - 1, none⟩ = some (.int .i64 (pm : Int)) ∧ True) W5.drew := ⟨hzb, cm5, ck5, trivial⟩
        have hwr := IntWalk.i64_in (lm - 1) (by omega)
        have j0 : (0 : Int) ≤ lm - 1 := by omega
        have j1 : lm - 1 < (T.marks.length : Int) := by omega
        have HT0 := Lib.hid hT0
        clear hX hb4 hzb cm5 ck5 HBYd cm3 hT0
        go_wp2_with fail
        have hT0 := HT0.out
        refine Od.till_region 11 (fun _ : World => True) (fun W : World => Bk W w3.heap.size z.s (pad z.m) ∧ W.cell? ⟨tb, 1, none⟩ = some (.slice (some ⟨gm, 0, none⟩) T.marks.length cm) ∧ W.cell? ⟨gm, lm.toNat - 1, none⟩ = some (.int .i64 (pm : Int)) ∧ True) 11 (by kernel_rfl) rfl ?_
        simp only [Array.replicate_succ, Array.replicate_zero, List.push_toArray, List.nil_append, List.cons_append]
        refine Od.Till.takeT (i := 0) (d := 36) (v := z.V) rfl rfl (by kernel_rfl) (by kernel_rfl) (by kernel_rfl) (by kernel_rfl) (fun _ _ _ h => h) (.inl ⟨by rfl, ?_⟩) trivial hT0 ?_
        · intro wx hSw
          obtain ⟨q1, q2, q3, q4⟩ := hSw
          exact Ld.exec_at 82 (.tmp 8) rfl w3.heap.size 0 rfl (idL z) _ (At.of_Bk q1) Try.underlying82 rfl info_idn
        simp only [Act.put, List.setIfInBounds_toArray, List.set_cons_zero, List.set_cons_succ]
        refine Od.Till.takeT (i := 1) (d := 37) (v := .pointer (some ⟨tb, 0, none⟩)) rfl rfl (by kernel_rfl) (by kernel_rfl) (by kernel_rfl) (by kernel_rfl) (fun _ _ _ h => h) (.inl ⟨by rfl, ?_⟩) trivial hT0 ?_
        · intro wx hSw
          obtain ⟨q1, q2, q3, q4⟩ := hSw
          go_simp
        simp only [Act.put, List.setIfInBounds_toArray, List.set_cons_zero, List.set_cons_succ]
        refine Od.Till.takeT (i := 2) (d := 38) (v := .pointer (some ⟨tb, 0, none⟩)) rfl rfl (by kernel_rfl) (by kernel_rfl) (by kernel_rfl) (by kernel_rfl) (fun _ _ _ h => h) (.inl ⟨by rfl, ?_⟩) trivial hT0 ?_
        · intro wx hSw
          obtain ⟨q1, q2, q3, q4⟩ := hSw
          go_simp
        simp only [Act.put, List.setIfInBounds_toArray, List.set_cons_zero, List.set_cons_succ]
        refine Od.Till.takeT (i := 3) (d := 39) (v := .pointer (some ⟨tb, 1, none⟩)) rfl rfl (by kernel_rfl) (by kernel_rfl) (by kernel_rfl) (by kernel_rfl) (fun _ _ _ h => h) (.inl ⟨by rfl, ?_⟩) trivial hT0 ?_
        · intro wx hSw
          obtain ⟨q1, q2, q3, q4⟩ := hSw
          go_simp
        simp only [Act.put, List.setIfInBounds_toArray, List.set_cons_zero, List.set_cons_succ]
        refine Od.Till.takeT (i := 4) (d := 40) (v := .slice (some ⟨gm, 0, none⟩) T.marks.length cm) rfl rfl (by kernel_rfl) (by kernel_rfl) (by kernel_rfl) (by kernel_rfl) (fun _ _ _ h => h) (.inl ⟨by rfl, ?_⟩) trivial hT0 ?_
        · intro wx hSw
          obtain ⟨q1, q2, q3, q4⟩ := hSw
          go_simp
        simp only [Act.put, List.setIfInBounds_toArray, List.set_cons_zero, List.set_cons_succ]
        refine Od.Till.takeT (i := 5) (d := 41) (v := .int .i64 lm) rfl rfl (by kernel_rfl) (by kernel_rfl) (by kernel_rfl) (by kernel_rfl) (fun _ _ _ h => h) (.inl ⟨by rfl, ?_⟩) trivial hT0 ?_
        · intro wx hSw
          obtain ⟨q1, q2, q3, q4⟩ := hSw
          go_simp
        simp only [Act.put, List.setIfInBounds_toArray, List.set_cons_zero, List.set_cons_succ]
        refine Od.Till.takeT (i := 6) (d := 42) (v := .int .i64 (lm - 1)) rfl rfl (by kernel_rfl) (by kernel_rfl) (by kernel_rfl) (by kernel_rfl) (fun _ _ _ h => h) (.inl ⟨by rfl, ?_⟩) trivial hT0 ?_
        · intro wx hSw
          obtain ⟨q1, q2, q3, q4⟩ := hSw
          go_simp
        simp only [Act.put, List.setIfInBounds_toArray, List.set_cons_zero, List.set_cons_succ]
        refine Od.Till.takeT (i := 7) (d := 43) (v := .pointer (some ⟨gm, lm.toNat - 1, none⟩)) rfl rfl (by kernel_rfl) (by kernel_rfl) (by kernel_rfl) (by kernel_rfl) (fun _ _ _ h => h) (.inl ⟨by rfl, ?_⟩) trivial hT0 ?_
        · intro wx hSw
          obtain ⟨q1, q2, q3, q4⟩ := hSw
          go_simp
        simp only [Act.put, List.setIfInBounds_toArray, List.set_cons_zero, List.set_cons_succ]
        refine Od.Till.takeT (i := 8) (d := 44) (v := .int .i64 (pm : Int)) rfl rfl (by kernel_rfl) (by kernel_rfl) (by kernel_rfl) (by kernel_rfl) (fun _ _ _ h => h) (.inl ⟨by rfl, ?_⟩) trivial hT0 ?_
        · intro wx hSw
          obtain ⟨q1, q2, q3, q4⟩ := hSw
          go_simp
        simp only [Act.put, List.setIfInBounds_toArray, List.set_cons_zero, List.set_cons_succ]
        refine Od.Till.one (i := 9) (by kernel_rfl) rfl (fun K hK => ?_)
        rw [if_pos (by kernel_rfl)]
        refine wp_store_row 82 (.tmp 5) (.tmp 36) rfl w.heap.size (A17 z.s (pad z.m)) rfl rfl 82 (A17 y.s (pad y.m)) HBY.out info_id rfl (A17_one _ _) ?_
        have hT1 : (fun W : World => Bk W w3.heap.size z.s (pad z.m) ∧ W.cell? ⟨tb, 1, none⟩ = some (.slice (some ⟨gm, 0, none⟩) T.marks.length cm) ∧ W.cell? ⟨gm, lm.toNat - 1, none⟩ = some (.int .i64 (pm : Int)) ∧ True) (W5.drew.setRow w.heap.size (A17 z.s (pad z.m))) := by
          obtain ⟨q1, q2, q3, q4⟩ := hT0
          exact ⟨q1.row_ne _ hnb, (cell_row_ne _ _ (show tb ≠ w.heap.size by omega) _).trans q2, (cell_row_ne _ _ (show gm ≠ w.heap.size by omega) _).trans q3, trivial⟩
        refine hK.out _ _ ⟨fun _ => trivial, hT1⟩ ?_
        clear hK K
        simp only [Act.put, List.setIfInBounds_toArray, List.set_cons_zero, List.set_cons_succ]
        refine Od.Till.takeT (i := 10) (d := 1) (v := .int .i64 (pm : Int)) rfl rfl (by kernel_rfl) (by kernel_rfl) (by kernel_rfl) (by kernel_rfl) (fun _ _ _ h => h) (.inl ⟨by rfl, ?_⟩) trivial hT1 ?_
        · intro wx hSw
          obtain ⟨q1, q2, q3, q4⟩ := hSw
          go_simp
        simp only [Act.put, List.setIfInBounds_toArray, List.set_cons_zero, List.set_cons_succ]
        refine Od.Till.done (by kernel_rfl) ?_
        have HT1 := Lib.hid hT1
        clear hT0 hT1
        go_wp2_with fail
        have hzok : z.Ok := by rw [← HZ.out]; exact HY.less
        have hzmd : Made T z := fun k hk => by
          rw [← HZ.out] at hk
          exact HMY.out k (List.dropLast_subset _ hk)
        go_roundg z.m.length
        case measure => omega
        case rel =>
          refine ⟨z, pm, rfl, hpl, hzok, hzmd, rfl, Lib.hid ?_, HBY.out.row, ?_, bel_row (Hbel.out.trans (bel_drew0 _ _)) _ _ (Nat.le_refl _)⟩
          · rw [HSE.out, hlm.out.symm, HZ.out, ← HPM.out]
          · show _[_]? = _
            rw [setRow_other _ _ _ _ (by omega)]
            exact HSN.out
    · have hbd := binder_lt HOK.out hcl hb0
      have d0 : ((T.binder cu y : Int) != 0) = true := by rw [bne_iff_ne]; omega
      have HSE := Lib.hid (hseen.out.symm.trans (seen_hit hb0))
      have cw : w2.cell? ⟨g, T.binder cu y * 19 + 18, none⟩ = some (.int .i64 (T.what (T.binder cu y))) := (Hbel.out.cell (p := ⟨g, _, none⟩) hltg).trans (HROW.out _ hbd).2.2
      have i0 : (0 : Int) ≤ (T.binder cu y : Int) := Int.natCast_nonneg _
      have i1 : (T.binder cu y : Int) < (T.rows.length : Int) := by omega
      clear hb0 cm0 hbd
      go_wp2_with (refine wpList_store_row rfl 49 (.tmp 6) (.tmp 25) rfl (w.heap.size + 1) (seenC ⟨T.binder cu y, T.what (T.binder cu y), []⟩) rfl rfl 49 _ HSN.out info_seen rfl (seenC_one _) ?_)
      rw [HSE.out]
      exact res_fin w _ _ ⟨T.binder cu y, T.what (T.binder cu y), []⟩ (w.heap.size + 1) rfl (setRow_heap _ _ _ _ _ _ HSN.out) (bel_row Hbel.out (w.heap.size + 1) _ (by omega))
end Go.Proofs.Yteolfkkabhileaa.Sc
end
