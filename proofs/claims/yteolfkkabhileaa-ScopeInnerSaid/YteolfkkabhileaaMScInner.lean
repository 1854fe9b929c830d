/- P5.4: a scope inside another: the walk. -/
import Derived.Test.YteolfkkabhileaaMG1
import Derived.Test.YteolfkkabhileaaMG0
import Derived.Test.YteolfkkabhileaaDatRSame
section
namespace Go.Proofs.Yteolfkkabhileaa.Sc
open Go.ChangeShapes Go.WideShapes Go.ChangeAt Go.RowKit
set_option linter.unusedVariables false
set_option linter.unusedSimpArgs false

/-- The boxes of the two data. -/
def BxIn (w : World) (D0 D1 : List Value) (W : World) : Prop :=
  Below w.heap.size w W ∧ Da.Blk W w.heap.size 33 D0.toArray ∧ Da.Blk W (w.heap.size + 1) 33 D1.toArray
theorem BxIn.bel {w W W' : World} {D0 D1 : List Value} (h : BxIn w D0 D1 W) (hb : Below W.heap.size W W') : BxIn w D0 D1 W' := by
  obtain ⟨h1, h2, h3⟩ := h
  exact ⟨h1.trans (hb.mono h1.size), (hb.block _ (Array.getElem?_eq_some_iff.1 h2).1).trans h2, (hb.block _ (Array.getElem?_eq_some_iff.1 h3).1).trans h3⟩
theorem BxIn.chg {w W W' : World} {D0 D1 : List Value} (h : BxIn w D0 D1 W) (hb : Below (w.heap.size + 2) W W') : BxIn w D0 D1 W' := by
  obtain ⟨h1, h2, h3⟩ := h
  exact ⟨h1.trans (hb.mono (by omega)), (hb.block _ (by omega)).trans h2, (hb.block _ (by omega)).trans h3⟩
theorem BxIn.lt {w W : World} {D0 D1 : List Value} (h : BxIn w D0 D1 W) : w.heap.size + 2 ≤ W.heap.size := Nat.lt_of_succ_le (Array.getElem?_eq_some_iff.1 h.2.2).1
theorem BxIn.at0 {w W : World} {D0 D1 : List Value} (h : BxIn w D0 D1 W) : Ld.At W w.heap.size 0 D0 := Ld.At.of_blk h.2.1
theorem BxIn.at1 {w W : World} {D0 D1 : List Value} (h : BxIn w D0 D1 W) : Ld.At W (w.heap.size + 1) 0 D1 := Ld.At.of_blk h.2.2
def putOp (d0 d1 : Da.Dt) : Opn := ⟨0, 0, 0, d0, d1, 0⟩
theorem built_put (d0 d1 : Da.Dt) (x0 x1 : Sx) : Try.prog.built 35 [(3, .agg (sixL d0 x0).toArray), (4, .agg (sixL d1 x1).toArray)] = some (opL (putOp d0 d1) x0 x1).toArray := by kernel_rfl
theorem run_bslPut (w : World) (d0 d1 : Da.Dt) (x0 x1 : Sx) : (Instr.buildSlice 22 1 #[(0, .agg (opL (putOp d0 d1) x0 x1).toArray)]).run Try.prog w = .ok (.slice (some ⟨w.heap.size, 0, none⟩) 1 1) (w.alloc (.cells (opL (putOp d0 d1) x0 x1).toArray 35)) := by kernel_rfl
theorem wp_bslPut {o : Oper} {a : Act} {w : World} {K : Act → World → Prop} {Q : Exit → Act → World → Prop} (y : Operand) (d0 d1 : Da.Dt) (x0 x1 : Sx) (ho : o.op = .buildSlice 22 1 #[(0, y)]) (hy : a.eval y = .agg (opL (putOp d0 d1) x0 x1).toArray)
    (h : K (a.put o.dst (.slice (some ⟨w.heap.size, 0, none⟩) 1 1)) (w.alloc (.cells (opL (putOp d0 d1) x0 x1).toArray 35))) : o.wp Try.prog a w K Q := by
  unfold Oper.wp execOp
  simp only [ho, List.map_toArray, List.map_cons, List.map_nil, hy, Sem.run_bind, run_bslPut, Result.andThen_ok]
  exact h
theorem wp_first {o : Oper} {a : Act} {w : World} {K : Act → World → Prop} {Q : Exit → Act → World → Prop} (N : Nat) (x : Operand) (ho : o.op = .call { callee := .builtin .append, args := #[.const (.slice none 0 0), x], argTypes := #[22, 22] })
    (src : Option Addr) (m c : Nat) (xs : List Value) (hx : a.eval x = .slice src m c) (hsn : src = none → m = 0 ∧ c = 0) (hl : xs.length = m * 16) (hcell : ∀ b, src = some b → ∀ j u, xs[j]? = some u → w.cell? (b.add j) = some u) (h1 : ∀ u ∈ xs, u.oneCell' = true) (hm : m ≤ 100) (hN : N ≤ w.heap.size)
    (h : ∀ v' w', w'.ownsRow N 35 16 v' m xs → w.grownBy w' none → K (a.put o.dst v') w') : o.wp Try.prog a w K Q := by
  obtain ⟨i0, hi, hz0, hz1, hz2⟩ := info_parts info_opz
  cases src with
  | none =>
    obtain ⟨rfl, rfl⟩ := hsn rfl
    have hxs : xs = [] := List.eq_nil_of_length_eq_zero (by rw [hl, Nat.zero_mul])
    subst hxs
    have hrun := run_append_owned_none (P := Try.prog) (w := w) N 22 o.type 35 i0 16 Try.underlying22 hi (.slice none 0 0) 0 [] (World.ownsRow_nil _ _ _ _)
    have h' := h _ _ (World.ownsRow_nil _ _ _ _) ⟨rfl, rfl, rfl, Nat.le_refl _, fun _ _ _ => rfl⟩
    have he : a.eval (.const (.slice none 0 0)) = .slice none 0 0 := rfl
    unfold Oper.wp
    simp [execOp, ho, resolve, invoke, builtin, he, hx, hrun, Result.andThen]
    exact h'
  | some b =>
    refine wp_append_at w (.const (.slice none 0 0)) x _ ho N 35 i0 _ 16 240 Try.underlying22 hi hz0 hz1 hz2 rfl (by decide) (.slice none 0 0) 0 [] rfl (World.ownsRow_nil _ _ _ _) b m c xs hx hl (hcell b rfl) h1 (by unfold maxLen; omega) (by omega) hN ?_
    intro v' w' hown hg _
    refine h v' w' (by rwa [Nat.zero_add, List.nil_append] at hown) hg
set_option maxRecDepth 100000 in
set_option maxHeartbeats 32000000 in
theorem inner_walk (l : List Opn) (a : Option Addr) (c : Nat) (s what : Int) (d0 d1 : Da.Dt) (x0 x1 : Sx) (w : World) (hc : l.length ≤ c) (hcm : c ≤ maxLen) (han : a = none → c = 0) (ho : IsOps w (Da.Lo w.heap.size) a l)
    (hd0 : Da.IsDt w (Da.Lo w.heap.size) d0 (.agg (sixL d0 x0).toArray)) (hd1 : Da.IsDt w (Da.Lo w.heap.size) d1 (.agg (sixL d1 x1).toArray)) (hwf : (Lit.int .i64 what).wf = true) :
    Calls Try.prog 4 #[.slice a l.length c, .int .i64 s, .agg (sixL d0 x0).toArray, .agg (sixL d1 x1).toArray, .int .i64 what] w fun e w' => e = .returned (.bool true) ∧ Below w.heap.size w w' := by
  obtain ⟨z0, hi, hz0, hz1, hz2⟩ := info_parts info_opz
  obtain ⟨zz, hzd⟩ : ∃ zz, Value.agg opZ = zz := ⟨_, rfl⟩
  have hzz : zz.cells.size = 16 := by rw [← hzd]; rfl
  rw [hzd] at hz0
  clear hzd
  obtain ⟨m, hm⟩ : ∃ m, min l.length 50 = m := ⟨_, rfl⟩
  have hmi : min (l.length : Int) 50 = (m : Int) := by omega
  have hm50 : m ≤ 50 := by omega
  have hml : m ≤ l.length := by omega
  have hrun : ∀ w, (Instr.slice 22 (.slice a l.length c) none (some (.int .i64 (m : Int))) none).run Try.prog w = .ok (.slice a m c) w := run_pre a _ c _ (by omega)
  obtain ⟨L1, hL1⟩ : ∃ L1, l.take m = L1 := ⟨_, rfl⟩
  have hlm : L1.length = m := by rw [← hL1, List.length_take]; omega
  have HLM := Lib.hid hlm
  have hsrc : ∃ cs, OpsD w (Da.Lo w.heap.size) cs L1 ∧ (m = 0 ∨ ∃ b off, a = some ⟨b, off, none⟩ ∧ b < w.heap.size ∧ ∀ j u, cs.flatten[j]? = some u → w.cell? ⟨b, off + j, none⟩ = some u) := by
    rw [← hL1]
    by_cases h0 : m = 0
    · rw [h0, List.take_zero]; exact ⟨[], .nil, .inl rfl⟩
    · obtain ⟨g, off, rfl, hlo, _⟩ := ho 0 _ (List.getElem?_eq_getElem (show 0 < l.length by omega))
      obtain ⟨cs, h1, h2⟩ := ops_cells (w := w) (Q := Da.Lo w.heap.size) (b := g) (off := off) (l.take m) 0 (fun i o hi => by
        have hi' : l[i]? = some o := by
          rw [List.getElem?_take] at hi
          split at hi
          · exact hi
          · cases hi
        obtain ⟨g', off', h3, _, h4⟩ := ho i o hi'
        injection h3 with h3
        injection h3 with h3 h5
        subst h3 h5
        rw [Nat.zero_add]; exact h4)
      exact ⟨cs, h1, .inr ⟨g, off, rfl, hlo, fun j u hu => by have := h2 j u hu; rwa [Nat.zero_mul, Nat.add_zero] at this⟩⟩
  obtain ⟨cs, hcs, hsrc⟩ := hsrc
  have HCS := Lib.hid hcs
  have HSRC := Lib.hid hsrc
  have HD := Lib.hid (And.intro hd0 hd1)
  have HC := Lib.hid (And.intro hc (And.intro hcm han))
  have HWF := Lib.hid hwf
  obtain ⟨D0, hD0⟩ : ∃ D0, sixL d0 x0 = D0 := ⟨_, rfl⟩
  obtain ⟨D1, hD1⟩ : ∃ D1, sixL d1 x1 = D1 := ⟨_, rfl⟩
  have HDD := Lib.hid (And.intro hD0 hD1)
  rw [hD0, hD1]
  obtain ⟨n1, n2⟩ := two_new w D0.toArray D1.toArray 33 33
  have hbX := bel_two w (.cells D0.toArray 33) (.cells D1.toArray 33)
  clear hm hcs hsrc ho hd0 hd1 hc hcm han hlm hwf hL1 hD0 hD1
  go_enter Try.func4, Try.ntmps4
  go_upto_region 1 with (fail)
  have hT0 : BxIn w D0 D1 (World.alloc (World.alloc w (.cells D0.toArray 33)) (.cells D1.toArray 33)).drew := ⟨hbX.trans (bel_drew0 _ _), n1, n2⟩
  have hsX : (World.alloc (World.alloc w (.cells D0.toArray 33)) (.cells D1.toArray 33)).drew.heap.size = w.heap.size + 2 := by show (World.alloc (World.alloc w _) _).heap.size = _; simp
  clear n1 n2 hbX
  refine Od.till_region 17 (fun _ : World => True) (BxIn w D0 D1) 17 (by kernel_rfl) rfl ?_
  generalize (World.alloc (World.alloc w _) _).drew = X at hT0 hsX ⊢
  simp only [Array.replicate_succ, Array.replicate_zero, List.push_toArray, List.nil_append, List.cons_append]
  have k1 : cs.flatten.length = m * 16 := by rw [HCS.out.flat, HLM.out]
  have k2 : a = none → m = 0 ∧ c = 0 := fun e => by
    have h1 := HC.out.2.2 e
    have h2 := HC.out.1
    omega
  have k3 : ∀ W, Below w.heap.size w W → ∀ b, a = some b → ∀ j u, cs.flatten[j]? = some u → W.cell? (b.add j) = some u := fun W hW b hb j u hu => by
    rcases HSRC.out with h0 | ⟨b', off, h1, hlt, h2⟩
    · rw [List.getElem?_eq_none (by rw [k1, h0]; omega)] at hu; cases hu
    · rw [h1] at hb
      injection hb with hb
      subst hb
      rw [Ld.add_at]
      have h3 := h2 j u hu
      exact (hW.cell (p := ⟨b', off + j, none⟩) hlt).trans h3
  have K1 := Lib.hid (And.intro k1 (And.intro k2 k3))
  have N2 : Hid (∀ u ∈ opL (putOp d0 d1) x0 x1, u.oneCell' = true) := Lib.hid (fun u hu => by
    have h := opL_one (putOp d0 d1) x0 x1
    rw [List.all_toArray, List.all_eq_true] at h
    exact h u hu)
  have N3 : Hid (L1.length + 1 ≤ maxLen ∧ (L1.length + 1) * 240 ≤ 140737488355328) := Lib.hid (by rw [HLM.out]; unfold maxLen; omega)
  clear k1 k2 k3
  refine Od.Till.takeT (i := 0) (d := 23) (v := .slice a l.length c) rfl rfl (by kernel_rfl) (by kernel_rfl) (by kernel_rfl) (by kernel_rfl) (fun _ _ _ h => h) (.inl ⟨by rfl, ?_⟩) trivial hT0 ?_
  · intro wx hSw
    clear hSw
    go_simp
  simp only [Act.put, List.setIfInBounds_toArray, List.set_cons_zero, List.set_cons_succ]
  refine Od.Till.takeT (i := 1) (d := 24) (v := .slice a l.length c) rfl rfl (by kernel_rfl) (by kernel_rfl) (by kernel_rfl) (by kernel_rfl) (fun _ _ _ h => h) (.inl ⟨by rfl, ?_⟩) trivial hT0 ?_
  · intro wx hSw
    clear hSw
    go_simp
  simp only [Act.put, List.setIfInBounds_toArray, List.set_cons_zero, List.set_cons_succ]
  refine Od.Till.takeT (i := 2) (d := 25) (v := .int .i64 (l.length : Int)) rfl rfl (by kernel_rfl) (by kernel_rfl) (by kernel_rfl) (by kernel_rfl) (fun _ _ _ h => h) (.inl ⟨by rfl, ?_⟩) trivial hT0 ?_
  · intro wx hSw
    clear hSw
    go_simp
  simp only [Act.put, List.setIfInBounds_toArray, List.set_cons_zero, List.set_cons_succ]
  refine Od.Till.takeT (i := 3) (d := 26) (v := .int .i64 (m : Int)) rfl rfl (by kernel_rfl) (by kernel_rfl) (by kernel_rfl) (by kernel_rfl) (fun _ _ _ h => h) (.inl ⟨by rfl, ?_⟩) trivial hT0 ?_
  · intro wx hSw
    clear hSw
    go_simp
  simp only [Act.put, List.setIfInBounds_toArray, List.set_cons_zero, List.set_cons_succ]
  refine Od.Till.takeT (i := 4) (d := 27) (v := .slice a m c) rfl rfl (by kernel_rfl) (by kernel_rfl) (by kernel_rfl) (by kernel_rfl) (fun _ _ _ h => h) (.inl ⟨by rfl, ?_⟩) trivial hT0 ?_
  · intro wx hSw
    clear hSw
    go_simp
  simp only [Act.put, List.setIfInBounds_toArray, List.set_cons_zero, List.set_cons_succ]
  refine Od.Till.takeT (i := 6) (d := 29) (v := .agg D0.toArray) rfl rfl (by kernel_rfl) (by kernel_rfl) (by kernel_rfl) (by kernel_rfl) (fun _ _ _ h => h) (.inl ⟨by rfl, ?_⟩) trivial hT0 ?_
  · intro wx hSw
    refine Ld.exec_at 33 (.tmp 7) rfl w.heap.size 0 rfl D0 _ hSw.at0 Try.underlying33 rfl (by rw [← HDD.out.1]; exact info_dat6)
  simp only [Act.put, List.setIfInBounds_toArray, List.set_cons_zero, List.set_cons_succ]
  refine Od.Till.takeT (i := 7) (d := 30) (v := .agg D1.toArray) rfl rfl (by kernel_rfl) (by kernel_rfl) (by kernel_rfl) (by kernel_rfl) (fun _ _ _ h => h) (.inl ⟨by rfl, ?_⟩) trivial hT0 ?_
  · intro wx hSw
    refine Ld.exec_at 33 (.tmp 8) rfl (w.heap.size + 1) 0 rfl D1 _ hSw.at1 Try.underlying33 rfl (by rw [← HDD.out.2]; exact info_dat6)
  simp only [Act.put, List.setIfInBounds_toArray, List.set_cons_zero, List.set_cons_succ]
  refine Od.Till.takeT (i := 8) (d := 31) (v := .agg (opL (putOp d0 d1) x0 x1).toArray) rfl rfl (by kernel_rfl) (by kernel_rfl) (by kernel_rfl) (by kernel_rfl) (fun _ _ _ h => h) (.inl ⟨by rfl, ?_⟩) trivial hT0 ?_
  · intro wx hSw
    clear hSw
    refine Ld.exec_build 35 #[(3, .tmp 29), (4, .tmp 30)] rfl _ ?_; simp only [List.map_toArray, List.map_cons, List.map_nil]; rw [← HDD.out.1, ← HDD.out.2]; exact built_put d0 d1 x0 x1
  simp only [Act.put, List.setIfInBounds_toArray, List.set_cons_zero, List.set_cons_succ]
  refine Od.Till.either (i := 5) (j := 9) (by kernel_rfl) rfl rfl (fun K hK => ?_) (fun K hK => ?_)
  · rw [if_pos (by kernel_rfl)]
    refine wp_first (w.heap.size + 2) (.tmp 27) rfl a m c cs.flatten rfl K1.out.2.1 K1.out.1 (K1.out.2.2 X hT0.1) HCS.out.one (Nat.le_trans hm50 (of_decide_eq_true rfl)) hT0.lt ?_
    intro v1 w1 hown1 hg1
    obtain ⟨va, vc, rfl⟩ := slice_of hown1
    have hb1 : Below (w.heap.size + 2) X w1 := ⟨hg1.os, hg1.tape, hg1.output, hg1.size, fun g hg => hg1.block g (by rw [hsX]; exact hg) (fun e => by cases e)⟩
    have hT1 := hT0.chg hb1
    have ROW1 : Hid (RowOps w1 (w.heap.size + 2) w.heap.size (.slice va m vc) L1) := Lib.hid ⟨cs, by rw [HLM.out]; exact hown1, HCS.out.low hT1.1⟩
    refine hK.out _ _ ⟨fun _ => trivial, hT1⟩ ?_
    clear hK K hown1 hg1 hb1
    simp only [Act.put, List.setIfInBounds_toArray, List.set_cons_zero, List.set_cons_succ]
    refine Od.Till.one (i := 9) (by kernel_rfl) rfl (fun K hK => ?_)
    rw [if_pos (by kernel_rfl)]
    refine wp_bslPut (.tmp 31) d0 d1 x0 x1 rfl rfl ?_
    have hbA : Below w1.heap.size w1 (w1.alloc (.cells (opL (putOp d0 d1) x0 x1).toArray 35)) := (Below.refl _ _).alloc (Nat.le_refl _) _
    have PC2 : Hid (∀ j u, (opL (putOp d0 d1) x0 x1)[j]? = some u → (w1.alloc (.cells (opL (putOp d0 d1) x0 x1).toArray 35)).cell? ((⟨w1.heap.size, 0, none⟩ : Addr).add j) = some u) := Lib.hid (fun j u hu => by
      rw [Ld.add_at, Nat.zero_add, cell_of_row _ _ _ _ _ _ (heap_alloc_new w1 _)]
      simpa using hu)
    have hT2 := hT1.bel hbA
    have ROW2 := Lib.hid (ROW1.out.bel (Nat.le_trans (Nat.le_add_right _ 2) hT1.lt) hbA)
    obtain ⟨p, hp⟩ : ∃ p, w1.heap.size = p := ⟨_, rfl⟩
    rw [hp] at PC2 ⊢
    clear hp hbA
    generalize (w1.alloc (.cells (opL (putOp d0 d1) x0 x1).toArray 35)) = w2 at PC2 hT2 ROW2 ⊢
    refine hK.out _ _ ⟨fun _ => trivial, hT2⟩ ?_
    clear hK K hT1 ROW1
    simp only [Act.put, List.setIfInBounds_toArray, List.set_cons_zero, List.set_cons_succ]
    refine Od.Till.one (i := 10) (by kernel_rfl) rfl (fun K hK => ?_)
    rw [if_pos (by kernel_rfl)]
    obtain ⟨cs2, hown2, hcs2⟩ := ROW2.out
    have HCS2 := Lib.hid hcs2
    refine wp_append_at w2 (.tmp 28) (.tmp 32) 22 rfl (w.heap.size + 2) 35 z0 zz 16 240 Try.underlying22 hi hz0 hz1 hz2 hzz (by decide) (.slice va m vc) L1.length cs2.flatten rfl hown2 ⟨p, 0, none⟩ 1 1 (opL (putOp d0 d1) x0 x1) rfl rfl PC2.out N2.out N3.out.1 N3.out.2 hT2.lt ?_
    intro v3 w3 hown3 hg3 _
    obtain ⟨va3, vc3, rfl⟩ := slice_of hown3
    have hb3 : Below (w.heap.size + 2) w2 w3 := below_grown hown2 hg3 (Nat.le_refl _) hT2.lt
    have hT3 := hT2.chg hb3
    have ROW3 : Hid (RowOps w3 (w.heap.size + 2) w.heap.size (.slice va3 (L1.length + 1) vc3) (L1 ++ [putOp d0 d1])) := Lib.hid (RowOps.snoc (v := .slice va m vc) HCS2.out ⟨x0, x1, rfl, HD.out.1.below hT2.1, HD.out.2.below hT2.1, (show (Lit.int .i64 0).wf = true by decide)⟩ (hb3.mono (Nat.le_add_right _ 2)) hown3)
    refine hK.out _ _ ⟨fun _ => trivial, hT3⟩ ?_
    clear hK K hown3 hg3 hb3 hown2 hcs2
    simp only [Act.put, List.setIfInBounds_toArray, List.set_cons_zero, List.set_cons_succ]
    refine Od.Till.one (i := 11) (by kernel_rfl) rfl (fun K hK => ?_)
    rw [if_pos (by kernel_rfl)]
    go_simp
    obtain ⟨U, hU⟩ : ∃ U, L1 ++ [putOp d0 d1] = U := ⟨_, rfl⟩
    have hUl : U.length = L1.length + 1 := by rw [← hU, List.length_append]; rfl
    rw [hU, ← hUl] at ROW3
    rw [← hUl]
    have hiu := ROW3.out.isOps (Nat.le_trans (Nat.le_add_right _ 2) hT3.lt)
    obtain ⟨hcap1, hcap2⟩ := row_cap ROW3.out.choose_spec.1
    have HIU := Lib.hid hiu
    have HUL := Lib.hid (And.intro hUl hU)
    have HCAP := Lib.hid (And.intro hcap1 hcap2)
    clear hiu hcap1 hcap2 hUl hU
    refine (small_any U va3 vc3 w3.heap.size w3 HCAP.out.1 HCAP.out.2 (Nat.le_refl _) HIU.out).mono ?_
    intro e w4 hsm
    obtain ⟨hb4, s4, b4, rfl, hs4⟩ := hsm.form
    have hT4 := hT3.bel hb4
    have HB4 := Lib.hid hb4
    have HS4 := Lib.hid hs4
    clear hsm hb4 hs4
    refine hK.out _ _ ⟨fun _ => trivial, hT4⟩ ?_
    clear hK K hT3
    simp only [Act.put, List.setIfInBounds_toArray, List.set_cons_zero, List.set_cons_succ]
    refine Od.Till.takeT (i := 12) (d := 22) (v := .tuple #[s4, .bool b4]) rfl rfl (by kernel_rfl) (by kernel_rfl) (by kernel_rfl) (by kernel_rfl) (fun _ _ _ h => h) (.inl ⟨by rfl, ?_⟩) trivial hT4 ?_
    · intro wx hSw
      clear hSw
      go_simp
    simp only [Act.put, List.setIfInBounds_toArray, List.set_cons_zero, List.set_cons_succ]
    refine Od.Till.takeT (i := 13) (d := 35) (v := s4) rfl rfl (by kernel_rfl) (by kernel_rfl) (by kernel_rfl) (by kernel_rfl) (fun _ _ _ h => h) (.inl ⟨by rfl, ?_⟩) trivial hT4 ?_
    · intro wx hSw
      clear hSw
      go_simp
    simp only [Act.put, List.setIfInBounds_toArray, List.set_cons_zero, List.set_cons_succ]
    refine Od.Till.takeT (i := 14) (d := 36) (v := .bool b4) rfl rfl (by kernel_rfl) (by kernel_rfl) (by kernel_rfl) (by kernel_rfl) (fun _ _ _ h => h) (.inl ⟨by rfl, ?_⟩) trivial hT4 ?_
    · intro wx hSw
      clear hSw
      go_simp
    simp only [Act.put, List.setIfInBounds_toArray, List.set_cons_zero, List.set_cons_succ]
    refine Od.Till.takeT (i := 15) (d := 11) (v := s4) rfl rfl (by kernel_rfl) (by kernel_rfl) (by kernel_rfl) (by kernel_rfl) (fun _ _ _ h => h) (.inl ⟨by rfl, ?_⟩) trivial hT4 ?_
    · intro wx hSw
      clear hSw
      go_simp
    simp only [Act.put, List.setIfInBounds_toArray, List.set_cons_zero, List.set_cons_succ]
    refine Od.Till.takeT (i := 16) (d := 12) (v := .bool b4) rfl rfl (by kernel_rfl) (by kernel_rfl) (by kernel_rfl) (by kernel_rfl) (fun _ _ _ h => h) (.inl ⟨by rfl, ?_⟩) trivial hT4 ?_
    · intro wx hSw
      clear hSw
      go_simp
    simp only [Act.put, List.setIfInBounds_toArray, List.set_cons_zero, List.set_cons_succ]
    refine Od.Till.done (by kernel_rfl) ?_
    have HXw4 := Lib.hid hT4
    have HDv : Hid (Da.IsDt w (Da.Lo w.heap.size) d0 (.agg D0.toArray) ∧ Da.IsDt w (Da.Lo w.heap.size) d1 (.agg D1.toArray)) := Lib.hid (by rw [← HDD.out.1, ← HDD.out.2]; exact HD.out)
    have HINF : Hid ((Try.prog.info? 33).map (·.size) = some D0.length ∧ (Try.prog.info? 33).map (·.size) = some D1.length) := Lib.hid (by rw [← HDD.out.1, ← HDD.out.2]; exact ⟨info_dat6, info_dat6⟩)
    clear hT4 hT0 hrun
    go_wp2_with fail
    refine (awake_any w4).mono ?_
    rintro e w5 ⟨rfl, hb5⟩
    have HXw5 := Lib.hid (HXw4.out.bel hb5)
    have HB5 := Lib.hid (HB4.out.trans (hb5.mono HB4.out.size))
    clear hb5
    cases b4 with
    | false =>
      go_wp2_with fail
      refine (awake_any w5).mono ?_
      rintro e w6 ⟨rfl, hb6⟩
      have HXw6 := Lib.hid (HXw5.out.bel hb6)
      clear hb6
      go_wp2_with fail
      go_ret
      exact ⟨rfl, HXw6.out.1⟩
    | true =>
      have hs4 := HS4.out rfl
      rw [show min U.length 60 = U.length by rw [HUL.out.1, HLM.out]; omega] at hs4
      subst hs4
      have hu1 : 1 ≤ U.length := by rw [HUL.out.1]; omega
      have hu51 : U.length ≤ 51 := by rw [HUL.out.1, HLM.out]; omega
      have hr4 : ∀ w, (Instr.slice 22 (.slice va3 U.length vc3) none (some (.int .i64 ((U.length : Int) - 1))) none).run Try.prog w = .ok (.slice va3 L1.length vc3) w := fun w => by
        rw [show ((U.length : Int) - 1) = (L1.length : Int) by rw [HUL.out.1]; omega]
        exact run_pre va3 _ vc3 L1.length (by have := HCAP.out.1; have := HUL.out.1; omega) w
      go_wp2_with fail
      have hops : IsOps w5 (Da.Lo w3.heap.size) va3 L1 := fun i o hi => (HIU.out.below HB5.out) i o (by rw [← HUL.out.2, List.getElem?_append_left (List.getElem?_eq_some_iff.1 hi).1]; exact hi)
      refine (made_acts L1 va3 vc3 w3.heap.size w5 HB5.out.size (by rw [HLM.out]; unfold maxLen; omega) hops).mono ?_
      rintro e w6 ⟨tb, rfl, ht6, hb6⟩
      have HXw6 := Lib.hid (HXw5.out.bel hb6)
      have HT6 := Lib.hid (ht6.more (fun b hb => show w.heap.size + 2 ≤ b from Nat.le_trans HXw5.out.lt hb))
      clear hops ht6 hb6 HIU HB5 HB4 HS4 hr4 hu1 hu51
      generalize hTT : actsT Tab.new L1 = T at HT6
      clear hTT
      have HOK := Lib.hid HT6.out.ok
      go_wp2_with (refine load_list (.tmp 8) 33 (w.heap.size + 1) 0 D1 _ rfl rfl rfl HXw6.out.at1 Try.underlying33 rfl HINF.out.2 ?_)
      refine (find_all tb T _ s d1 _ w.heap.size w6 (HDv.out.2.below HXw6.out.1) HXw6.out.1.size HT6.out).mono ?_
      rintro e w7 ⟨rfl, hb7⟩
      have HXw7 := Lib.hid (HXw6.out.bel hb7)
      have HTw7 : Hid (TabIn w7 tb T (fun b => w.heap.size + 2 ≤ b ∧ b < w7.heap.size)) := Lib.hid (by
        obtain ⟨vs, vm, bm, h1, h2⟩ := HT6.out.bel hb7
        exact ⟨vs, vm, bm, h1, fun k hk => ⟨h2 k hk, h1.lt k hk⟩⟩)
      clear hb7
      generalize hz7 : findZ T s d1 = z7
      generalize he7 : findE T s d1 = e7
      have HQ7 := Lib.hid (And.intro he7 hz7)
      clear hz7 he7
      go_upto_region 8 with (refine wpList_store_row rfl 49 (.tmp 14) (.tmp 57) rfl w7.heap.size (seenC z7) rfl rfl 49 (seenC Seen.zero) (heap_alloc_new w7 _) info_seen rfl (seenC_one _) ?_)
      generalize hXw8 : (World.setRow (World.alloc w7 _) w7.heap.size (seenC z7)) = w8
      have hbw8 : Below w7.heap.size w7 w8 := by rw [← hXw8]; exact bel_row ((Below.refl _ _).alloc (Nat.le_refl _) _) _ _ (Nat.le_refl _)
      have hzw8 : Da.Blk w8 w7.heap.size 49 (seenC z7) := by rw [← hXw8]; exact setRow_heap _ _ (seenC Seen.zero) _ _ _ (heap_alloc_new w7 _)
      have HYw8 := Lib.hid hzw8
      have HXw8 := Lib.hid (HXw7.out.bel hbw8)
      have HTw8 := Lib.hid (HTw7.out.bel hbw8)
      clear hXw8 hbw8 hzw8
      go_wp2_with (refine load_list (.tmp 7) 33 w.heap.size 0 D0 _ rfl rfl rfl HXw8.out.at0 Try.underlying33 rfl HINF.out.1 ?_)
      refine (ext_all tb T _ s what d0 _ w.heap.size w8 (HDv.out.1.below HXw8.out.1) HXw8.out.1.size HTw8.out HWF.out).mono ?_
      rintro e w9 ⟨rfl, h9, hc9⟩
      have HTw9 : Hid (TabIn w9 tb (extT T s d0 what) (fun k => w.heap.size + 2 ≤ k)) := Lib.hid (h9.more (fun k hk => by
        rcases hk with h | h
        · exact h.1
        · exact Nat.le_trans HXw8.out.lt h))
      have HXw9 := Lib.hid (HXw8.out.chg (hc9.to_below HXw8.out.lt (fun j hj => hj.1)))
      have HYw9 := Lib.hid (show Da.Blk w9 w7.heap.size 49 (seenC z7) from (hc9.block _ (Array.getElem?_eq_some_iff.1 HYw8.out).1 (fun h => Nat.lt_irrefl _ h.2)).trans HYw8.out)
      clear h9 hc9
      by_cases hf : extE T s d0 = 0
      · rw [hf]
        have HF := Lib.hid hf
        clear hf
        generalize hT2 : extT T s d0 what = T' at HTw9
        generalize hnn : extN T s d0 = nn
        have HNN := Lib.hid (And.intro hT2 hnn)
        clear hT2 hnn
        have e3 : w9.cell? ⟨w.heap.size, 3, none⟩ = some (.slice x0.m d0.M.length x0.cm) := (HXw9.out.2.1.cell 3).trans (by rw [← HDD.out.1]; rfl)
        rcases Nat.eq_zero_or_pos d0.M.length with h0 | hpos
        · have HMK : Hid (markOk T.marks.length d0.M = true) := Lib.hid (by rw [List.eq_nil_of_length_eq_zero h0]; rfl)
          rw [h0] at e3
          clear h0
          go_upto_region 12 with (fail)
          clear e3
          go_wp2_with (refine load_list (.tmp 7) 33 w.heap.size 0 D0 _ rfl rfl rfl HXw9.out.at0 Try.underlying33 rfl HINF.out.1 ?_)
          refine (find_all tb T' _ (nn : Int) d0 _ w.heap.size w9 (HDv.out.1.below HXw9.out.1) HXw9.out.1.size HTw9.out).mono ?_
          rintro e w12 ⟨rfl, hb12⟩
          have HXw12 := Lib.hid (HXw9.out.bel hb12)
          have HTw12 := Lib.hid (HTw9.out.bel hb12)
          have HYw12 := Lib.hid (show Da.Blk w12 w7.heap.size 49 (seenC z7) from (hb12.block _ (Array.getElem?_eq_some_iff.1 HYw9.out).1).trans HYw9.out)
          clear hb12
          have hself := inner_self (v := what) HOK.out HF.out HMK.out
          rw [HNN.out.1, HNN.out.2] at hself
          rw [hself.1, hself.2]
          clear hself
          obtain ⟨zN, hzN⟩ : ∃ zN : Seen, ⟨nn, what, []⟩ = zN := ⟨_, rfl⟩
          rw [hzN]
          have HZN := Lib.hid hzN
          clear hzN
          go_upto_region 13 with (refine wpList_store_row rfl 49 (.tmp 18) (.tmp 85) rfl w12.heap.size (seenC zN) rfl rfl 49 (seenC Seen.zero) (heap_alloc_new w12 _) info_seen rfl (seenC_one _) ?_)
          generalize hXw13 : (World.setRow (World.alloc w12 _) w12.heap.size (seenC zN)) = w13
          have hbw13 : Below w12.heap.size w12 w13 := by rw [← hXw13]; exact bel_row ((Below.refl _ _).alloc (Nat.le_refl _) _) _ _ (Nat.le_refl _)
          have hzw13 : Da.Blk w13 w12.heap.size 49 (seenC zN) := by rw [← hXw13]; exact setRow_heap _ _ (seenC Seen.zero) _ _ _ (heap_alloc_new w12 _)
          have HWw13 := Lib.hid hzw13
          have HXw13 := Lib.hid (HXw12.out.bel hbw13)
          have HTw13 := Lib.hid (HTw12.out.bel hbw13)
          have HYw13 := Lib.hid (show Da.Blk w13 w7.heap.size 49 (seenC z7) from (hbw13.block _ (Array.getElem?_eq_some_iff.1 HYw12.out).1).trans HYw12.out)
          clear hXw13 hbw13 hzw13
          have q0 : w13.cell? ⟨w12.heap.size, 0, none⟩ = some (.int .i64 (nn : Int)) := (HWw13.out.cell 0).trans (by rw [← HZN.out]; rfl)
          have q1 : w13.cell? ⟨w12.heap.size, 1, none⟩ = some (.int .i64 what) := (HWw13.out.cell 1).trans (by rw [← HZN.out]; rfl)
          have q2 : w13.cell? ⟨w12.heap.size, 2, none⟩ = some (.string ⟨#[]⟩) := (HWw13.out.cell 2).trans (by rw [← HZN.out]; rfl)
          have hnq : ∀ w, (binOp BinOp.neq 49 (.agg #[.int .i64 (nn : Int), .int .i64 what, .string ⟨#[]⟩]) (.agg #[.int .i64 (nn : Int), .int .i64 what, .string ⟨#[]⟩])).run Try.prog w = .ok (.bool false) w := fun w => by have h := neq_seen ⟨nn, what, []⟩ ⟨nn, what, []⟩ w; rwa [(Seen.same_iff _ _).2 rfl] at h
          have hgd : ∀ w, (eqGuard BinOp.neq 49 (.tmp 90) (.tmp 93) (.agg #[.int .i64 (nn : Int), .int .i64 what, .string ⟨#[]⟩]) (.agg #[.int .i64 (nn : Int), .int .i64 what, .string ⟨#[]⟩])).run Try.prog w = .ok () w := guard_seen _ _ _ ⟨nn, what, []⟩ ⟨nn, what, []⟩
          go_upto_region 15 with (fail)
          clear q0 q1 q2 hnq hgd
          go_wp2_with (refine load_list (.tmp 8) 33 (w.heap.size + 1) 0 D1 _ rfl rfl rfl HXw13.out.at1 Try.underlying33 rfl HINF.out.2 ?_)
          refine (find_all tb T' _ (nn : Int) d1 _ w.heap.size w13 (HDv.out.2.below HXw13.out.1) HXw13.out.1.size HTw13.out).mono ?_
          rintro e w20 ⟨rfl, hb20⟩
          have HXw20 := Lib.hid (HXw13.out.bel hb20)
          have HTw20 := Lib.hid (HTw13.out.bel hb20)
          have HYw20 := Lib.hid (show Da.Blk w20 w7.heap.size 49 (seenC z7) from (hb20.block _ (Array.getElem?_eq_some_iff.1 HYw13.out).1).trans HYw13.out)
          clear hb20
          generalize hzq : findZ T' (nn : Int) d1 = zq
          generalize heq : findE T' (nn : Int) d1 = eq
          have HQQ := Lib.hid (And.intro hzq heq)
          clear hzq heq
          go_upto_region 16 with (refine wpList_store_row rfl 49 (.tmp 20) (.tmp 101) rfl w20.heap.size (seenC zq) rfl rfl 49 (seenC Seen.zero) (heap_alloc_new w20 _) info_seen rfl (seenC_one _) ?_)
          generalize hXw21 : (World.setRow (World.alloc w20 _) w20.heap.size (seenC zq)) = w21
          have hbw21 : Below w20.heap.size w20 w21 := by rw [← hXw21]; exact bel_row ((Below.refl _ _).alloc (Nat.le_refl _) _) _ _ (Nat.le_refl _)
          have hzw21 : Da.Blk w21 w20.heap.size 49 (seenC zq) := by rw [← hXw21]; exact setRow_heap _ _ (seenC Seen.zero) _ _ _ (heap_alloc_new w20 _)
          have HZw21 := Lib.hid hzw21
          have HXw21 := Lib.hid (HXw20.out.bel hbw21)
          have HTw21 := Lib.hid (HTw20.out.bel hbw21)
          have HYw21 := Lib.hid (show Da.Blk w21 w7.heap.size 49 (seenC z7) from (hbw21.block _ (Array.getElem?_eq_some_iff.1 HYw20.out).1).trans HYw20.out)
          clear hXw21 hbw21 hzw21
          go_wp2_with (first | (refine load_list (.tmp 7) 33 w.heap.size 0 D0 _ rfl rfl rfl HXw21.out.at0 Try.underlying33 rfl HINF.out.1 ?_) | (refine load_list (.tmp 8) 33 (w.heap.size + 1) 0 D1 _ rfl rfl rfl HXw21.out.at1 Try.underlying33 rfl HINF.out.2 ?_))
          refine (Da.rsame_any d0 d1 _ _ w.heap.size w21 (HDv.out.1.below HXw21.out.1) (HDv.out.2.below HXw21.out.1) HXw21.out.1.size).mono ?_
          rintro e w22 ⟨rfl, hb22⟩
          have HXw22 := Lib.hid (HXw21.out.bel hb22)
          have HYw22 := Lib.hid (show Da.Blk w22 w7.heap.size 49 (seenC z7) from (hb22.block _ (Array.getElem?_eq_some_iff.1 HYw21.out).1).trans HYw21.out)
          have HZw22 := Lib.hid (show Da.Blk w22 w20.heap.size 49 (seenC zq) from (hb22.block _ (Array.getElem?_eq_some_iff.1 HZw21.out).1).trans HZw21.out)
          clear hb22
          generalize hbs : ((Da.chk d0 == 0) && Da.eqD d0 d1) = bs
          have HBS := Lib.hid hbs
          clear hbs
          cases bs with
          | true =>
            by_cases hq : eq = 0
            · subst hq
              have hzn : (zq.scope : Int) = (nn : Int) := by
                have h1 := sym_is HBS.out
                have h2 := HQQ.out
                rw [← h1, ← HNN.out.1, ← HNN.out.2] at h2
                have h3 := inner_same HOK.out HF.out h2.2
                rw [← h2.1, h3, HNN.out.2]
              have q0 : w22.cell? ⟨w20.heap.size, 0, none⟩ = some (.int .i64 (nn : Int)) := (HZw22.out.cell 0).trans (by rw [← hzn]; rfl)
              clear hzn
              go_wp2_with fail
              go_ret
              exact ⟨rfl, HXw22.out.1⟩
            · have d1' : (eq != 0) = true := by rw [bne_iff_ne]; exact hq
              have d2' : (eq == 0) = false := by rw [beq_eq_false_iff_ne]; exact hq
              clear hq
              go_wp2_with fail
              go_ret
              exact ⟨rfl, HXw22.out.1⟩
          | false =>
            have hio := inner_other (v := what) HOK.out HF.out (sym_ne (extE_zero HOK.out HF.out).choose_spec.2.2.1 HBS.out)
            rw [HNN.out.1, HNN.out.2, HQQ.out.1, HQQ.out.2, HQ7.out.1, HQ7.out.2] at hio
            obtain ⟨rfl, rfl⟩ := hio
            have q0 : w22.cell? ⟨w20.heap.size, 0, none⟩ = some (.int .i64 (zq.scope : Int)) := (HZw22.out.cell 0).trans rfl
            have q1 : w22.cell? ⟨w20.heap.size, 1, none⟩ = some (.int .i64 zq.what) := (HZw22.out.cell 1).trans rfl
            have q2 : w22.cell? ⟨w20.heap.size, 2, none⟩ = some (.string ⟨zq.name.toArray⟩) := (HZw22.out.cell 2).trans rfl
            have p0 : w22.cell? ⟨w7.heap.size, 0, none⟩ = some (.int .i64 (zq.scope : Int)) := (HYw22.out.cell 0).trans rfl
            have p1 : w22.cell? ⟨w7.heap.size, 1, none⟩ = some (.int .i64 zq.what) := (HYw22.out.cell 1).trans rfl
            have p2 : w22.cell? ⟨w7.heap.size, 2, none⟩ = some (.string ⟨zq.name.toArray⟩) := (HYw22.out.cell 2).trans rfl
            have hes : ∀ w, (binOp BinOp.eql 49 (.agg #[.int .i64 (zq.scope : Int), .int .i64 zq.what, .string ⟨zq.name.toArray⟩]) (.agg #[.int .i64 (zq.scope : Int), .int .i64 zq.what, .string ⟨zq.name.toArray⟩])).run Try.prog w = .ok (.bool true) w := fun w => by have h := eq_seen zq zq w; rwa [(Seen.same_iff zq zq).2 rfl] at h
            have hgd : ∀ w, (eqGuard BinOp.eql 49 (.tmp 118) (.tmp 119) (.agg #[.int .i64 (zq.scope : Int), .int .i64 zq.what, .string ⟨zq.name.toArray⟩]) (.agg #[.int .i64 (zq.scope : Int), .int .i64 zq.what, .string ⟨zq.name.toArray⟩])).run Try.prog w = .ok () w := guard_seen _ _ _ zq zq
            go_wp2_with fail
            go_ret
            exact ⟨rfl, HXw22.out.1⟩
        · have d11 : ((d0.M.length : Int) == 0) = false := by rw [beq_eq_false_iff_ne]; omega
          have d12 : (d0.M.length == 0) = false := by rw [beq_eq_false_iff_ne]; omega
          have e0 : w9.cell? ⟨w.heap.size, 0, none⟩ = some (.int .i64 d0.K) := (HXw9.out.2.1.cell 0).trans (by rw [← HDD.out.1]; rfl)
          have e1 : w9.cell? ⟨w.heap.size, 1, none⟩ = some (.int .i64 d0.N) := (HXw9.out.2.1.cell 1).trans (by rw [← HDD.out.1]; rfl)
          have e2 : w9.cell? ⟨w.heap.size, 2, none⟩ = some (.string d0.S) := (HXw9.out.2.1.cell 2).trans (by rw [← HDD.out.1]; rfl)
          have e4 : w9.cell? ⟨w.heap.size, 4, none⟩ = some (.slice x0.l d0.L.length x0.cl) := (HXw9.out.2.1.cell 4).trans (by rw [← HDD.out.1]; rfl)
          have e5 : w9.cell? ⟨w.heap.size, 5, none⟩ = some (.slice x0.t d0.T.length x0.ct) := (HXw9.out.2.1.cell 5).trans (by rw [← HDD.out.1]; rfl)
          go_wp2_with fail
          clear e0 e1 e2 e3 e4 e5 d11 d12 hpos
          refine (marked_any tb T' _ d0 _ w.heap.size w9 HXw9.out.1.size (HD.out.1.below HXw9.out.1) HTw9.out).mono ?_
          rintro e w10 ⟨rfl, hb10⟩
          have HXw10 := Lib.hid (HXw9.out.bel hb10)
          have HTw10 := Lib.hid (HTw9.out.bel hb10)
          have HYw10 := Lib.hid (show Da.Blk w10 w7.heap.size 49 (seenC z7) from (hb10.block _ (Array.getElem?_eq_some_iff.1 HYw9.out).1).trans HYw9.out)
          clear hb10
          generalize hmk : markOk T'.marks.length d0.M = bm
          have HMK0 := Lib.hid hmk
          clear hmk
          cases bm with
          | false =>
            go_wp2_with (refine load_list (.tmp 8) 33 (w.heap.size + 1) 0 D1 _ rfl rfl rfl HXw10.out.at1 Try.underlying33 rfl HINF.out.2 ?_)
            refine (find_all tb T' _ (nn : Int) d1 _ w.heap.size w10 (HDv.out.2.below HXw10.out.1) HXw10.out.1.size HTw10.out).mono ?_
            rintro e w20 ⟨rfl, hb20⟩
            have HXw20 := Lib.hid (HXw10.out.bel hb20)
            have HTw20 := Lib.hid (HTw10.out.bel hb20)
            have HYw20 := Lib.hid (show Da.Blk w20 w7.heap.size 49 (seenC z7) from (hb20.block _ (Array.getElem?_eq_some_iff.1 HYw10.out).1).trans HYw10.out)
            clear hb20
            generalize hzq : findZ T' (nn : Int) d1 = zq
            generalize heq : findE T' (nn : Int) d1 = eq
            have HQQ := Lib.hid (And.intro hzq heq)
            clear hzq heq
            go_upto_region 16 with (refine wpList_store_row rfl 49 (.tmp 20) (.tmp 101) rfl w20.heap.size (seenC zq) rfl rfl 49 (seenC Seen.zero) (heap_alloc_new w20 _) info_seen rfl (seenC_one _) ?_)
            generalize hXw21 : (World.setRow (World.alloc w20 _) w20.heap.size (seenC zq)) = w21
            have hbw21 : Below w20.heap.size w20 w21 := by rw [← hXw21]; exact bel_row ((Below.refl _ _).alloc (Nat.le_refl _) _) _ _ (Nat.le_refl _)
            have hzw21 : Da.Blk w21 w20.heap.size 49 (seenC zq) := by rw [← hXw21]; exact setRow_heap _ _ (seenC Seen.zero) _ _ _ (heap_alloc_new w20 _)
            have HZw21 := Lib.hid hzw21
            have HXw21 := Lib.hid (HXw20.out.bel hbw21)
            have HTw21 := Lib.hid (HTw20.out.bel hbw21)
            have HYw21 := Lib.hid (show Da.Blk w21 w7.heap.size 49 (seenC z7) from (hbw21.block _ (Array.getElem?_eq_some_iff.1 HYw20.out).1).trans HYw20.out)
            clear hXw21 hbw21 hzw21
            go_wp2_with (first | (refine load_list (.tmp 7) 33 w.heap.size 0 D0 _ rfl rfl rfl HXw21.out.at0 Try.underlying33 rfl HINF.out.1 ?_) | (refine load_list (.tmp 8) 33 (w.heap.size + 1) 0 D1 _ rfl rfl rfl HXw21.out.at1 Try.underlying33 rfl HINF.out.2 ?_))
            refine (Da.rsame_any d0 d1 _ _ w.heap.size w21 (HDv.out.1.below HXw21.out.1) (HDv.out.2.below HXw21.out.1) HXw21.out.1.size).mono ?_
            rintro e w22 ⟨rfl, hb22⟩
            have HXw22 := Lib.hid (HXw21.out.bel hb22)
            have HYw22 := Lib.hid (show Da.Blk w22 w7.heap.size 49 (seenC z7) from (hb22.block _ (Array.getElem?_eq_some_iff.1 HYw21.out).1).trans HYw21.out)
            have HZw22 := Lib.hid (show Da.Blk w22 w20.heap.size 49 (seenC zq) from (hb22.block _ (Array.getElem?_eq_some_iff.1 HZw21.out).1).trans HZw21.out)
            clear hb22
            generalize hbs : ((Da.chk d0 == 0) && Da.eqD d0 d1) = bs
            have HBS := Lib.hid hbs
            clear hbs
            cases bs with
            | true =>
              by_cases hq : eq = 0
              · subst hq
                have hzn : (zq.scope : Int) = (nn : Int) := by
                  have h1 := sym_is HBS.out
                  have h2 := HQQ.out
                  rw [← h1, ← HNN.out.1, ← HNN.out.2] at h2
                  have h3 := inner_same HOK.out HF.out h2.2
                  rw [← h2.1, h3, HNN.out.2]
                have q0 : w22.cell? ⟨w20.heap.size, 0, none⟩ = some (.int .i64 (nn : Int)) := (HZw22.out.cell 0).trans (by rw [← hzn]; rfl)
                clear hzn
                go_wp2_with fail
                go_ret
                exact ⟨rfl, HXw22.out.1⟩
              · have d1' : (eq != 0) = true := by rw [bne_iff_ne]; exact hq
                have d2' : (eq == 0) = false := by rw [beq_eq_false_iff_ne]; exact hq
                clear hq
                go_wp2_with fail
                go_ret
                exact ⟨rfl, HXw22.out.1⟩
            | false =>
              have hio := inner_other (v := what) HOK.out HF.out (sym_ne (extE_zero HOK.out HF.out).choose_spec.2.2.1 HBS.out)
              rw [HNN.out.1, HNN.out.2, HQQ.out.1, HQQ.out.2, HQ7.out.1, HQ7.out.2] at hio
              obtain ⟨rfl, rfl⟩ := hio
              have q0 : w22.cell? ⟨w20.heap.size, 0, none⟩ = some (.int .i64 (zq.scope : Int)) := (HZw22.out.cell 0).trans rfl
              have q1 : w22.cell? ⟨w20.heap.size, 1, none⟩ = some (.int .i64 zq.what) := (HZw22.out.cell 1).trans rfl
              have q2 : w22.cell? ⟨w20.heap.size, 2, none⟩ = some (.string ⟨zq.name.toArray⟩) := (HZw22.out.cell 2).trans rfl
              have p0 : w22.cell? ⟨w7.heap.size, 0, none⟩ = some (.int .i64 (zq.scope : Int)) := (HYw22.out.cell 0).trans rfl
              have p1 : w22.cell? ⟨w7.heap.size, 1, none⟩ = some (.int .i64 zq.what) := (HYw22.out.cell 1).trans rfl
              have p2 : w22.cell? ⟨w7.heap.size, 2, none⟩ = some (.string ⟨zq.name.toArray⟩) := (HYw22.out.cell 2).trans rfl
              have hes : ∀ w, (binOp BinOp.eql 49 (.agg #[.int .i64 (zq.scope : Int), .int .i64 zq.what, .string ⟨zq.name.toArray⟩]) (.agg #[.int .i64 (zq.scope : Int), .int .i64 zq.what, .string ⟨zq.name.toArray⟩])).run Try.prog w = .ok (.bool true) w := fun w => by have h := eq_seen zq zq w; rwa [(Seen.same_iff zq zq).2 rfl] at h
              have hgd : ∀ w, (eqGuard BinOp.eql 49 (.tmp 118) (.tmp 119) (.agg #[.int .i64 (zq.scope : Int), .int .i64 zq.what, .string ⟨zq.name.toArray⟩]) (.agg #[.int .i64 (zq.scope : Int), .int .i64 zq.what, .string ⟨zq.name.toArray⟩])).run Try.prog w = .ok () w := guard_seen _ _ _ zq zq
              go_wp2_with fail
              go_ret
              exact ⟨rfl, HXw22.out.1⟩
          | true =>
            have HMK : Hid (markOk T.marks.length d0.M = true) := Lib.hid (by have h := HMK0.out; rw [← HNN.out.1, ext_marks] at h; exact h)
            go_wp2_with (refine load_list (.tmp 7) 33 w.heap.size 0 D0 _ rfl rfl rfl HXw10.out.at0 Try.underlying33 rfl HINF.out.1 ?_)
            refine (find_all tb T' _ (nn : Int) d0 _ w.heap.size w10 (HDv.out.1.below HXw10.out.1) HXw10.out.1.size HTw10.out).mono ?_
            rintro e w12 ⟨rfl, hb12⟩
            have HXw12 := Lib.hid (HXw10.out.bel hb12)
            have HTw12 := Lib.hid (HTw10.out.bel hb12)
            have HYw12 := Lib.hid (show Da.Blk w12 w7.heap.size 49 (seenC z7) from (hb12.block _ (Array.getElem?_eq_some_iff.1 HYw10.out).1).trans HYw10.out)
            clear hb12
            have hself := inner_self (v := what) HOK.out HF.out HMK.out
            rw [HNN.out.1, HNN.out.2] at hself
            rw [hself.1, hself.2]
            clear hself
            obtain ⟨zN, hzN⟩ : ∃ zN : Seen, ⟨nn, what, []⟩ = zN := ⟨_, rfl⟩
            rw [hzN]
            have HZN := Lib.hid hzN
            clear hzN
            go_upto_region 13 with (refine wpList_store_row rfl 49 (.tmp 18) (.tmp 85) rfl w12.heap.size (seenC zN) rfl rfl 49 (seenC Seen.zero) (heap_alloc_new w12 _) info_seen rfl (seenC_one _) ?_)
            generalize hXw13 : (World.setRow (World.alloc w12 _) w12.heap.size (seenC zN)) = w13
            have hbw13 : Below w12.heap.size w12 w13 := by rw [← hXw13]; exact bel_row ((Below.refl _ _).alloc (Nat.le_refl _) _) _ _ (Nat.le_refl _)
            have hzw13 : Da.Blk w13 w12.heap.size 49 (seenC zN) := by rw [← hXw13]; exact setRow_heap _ _ (seenC Seen.zero) _ _ _ (heap_alloc_new w12 _)
            have HWw13 := Lib.hid hzw13
            have HXw13 := Lib.hid (HXw12.out.bel hbw13)
            have HTw13 := Lib.hid (HTw12.out.bel hbw13)
            have HYw13 := Lib.hid (show Da.Blk w13 w7.heap.size 49 (seenC z7) from (hbw13.block _ (Array.getElem?_eq_some_iff.1 HYw12.out).1).trans HYw12.out)
            clear hXw13 hbw13 hzw13
            have q0 : w13.cell? ⟨w12.heap.size, 0, none⟩ = some (.int .i64 (nn : Int)) := (HWw13.out.cell 0).trans (by rw [← HZN.out]; rfl)
            have q1 : w13.cell? ⟨w12.heap.size, 1, none⟩ = some (.int .i64 what) := (HWw13.out.cell 1).trans (by rw [← HZN.out]; rfl)
            have q2 : w13.cell? ⟨w12.heap.size, 2, none⟩ = some (.string ⟨#[]⟩) := (HWw13.out.cell 2).trans (by rw [← HZN.out]; rfl)
            have hnq : ∀ w, (binOp BinOp.neq 49 (.agg #[.int .i64 (nn : Int), .int .i64 what, .string ⟨#[]⟩]) (.agg #[.int .i64 (nn : Int), .int .i64 what, .string ⟨#[]⟩])).run Try.prog w = .ok (.bool false) w := fun w => by have h := neq_seen ⟨nn, what, []⟩ ⟨nn, what, []⟩ w; rwa [(Seen.same_iff _ _).2 rfl] at h
            have hgd : ∀ w, (eqGuard BinOp.neq 49 (.tmp 90) (.tmp 93) (.agg #[.int .i64 (nn : Int), .int .i64 what, .string ⟨#[]⟩]) (.agg #[.int .i64 (nn : Int), .int .i64 what, .string ⟨#[]⟩])).run Try.prog w = .ok () w := guard_seen _ _ _ ⟨nn, what, []⟩ ⟨nn, what, []⟩
            go_upto_region 15 with (fail)
            clear q0 q1 q2 hnq hgd
            go_wp2_with (refine load_list (.tmp 8) 33 (w.heap.size + 1) 0 D1 _ rfl rfl rfl HXw13.out.at1 Try.underlying33 rfl HINF.out.2 ?_)
            refine (find_all tb T' _ (nn : Int) d1 _ w.heap.size w13 (HDv.out.2.below HXw13.out.1) HXw13.out.1.size HTw13.out).mono ?_
            rintro e w20 ⟨rfl, hb20⟩
            have HXw20 := Lib.hid (HXw13.out.bel hb20)
            have HTw20 := Lib.hid (HTw13.out.bel hb20)
            have HYw20 := Lib.hid (show Da.Blk w20 w7.heap.size 49 (seenC z7) from (hb20.block _ (Array.getElem?_eq_some_iff.1 HYw13.out).1).trans HYw13.out)
            clear hb20
            generalize hzq : findZ T' (nn : Int) d1 = zq
            generalize heq : findE T' (nn : Int) d1 = eq
            have HQQ := Lib.hid (And.intro hzq heq)
            clear hzq heq
            go_upto_region 16 with (refine wpList_store_row rfl 49 (.tmp 20) (.tmp 101) rfl w20.heap.size (seenC zq) rfl rfl 49 (seenC Seen.zero) (heap_alloc_new w20 _) info_seen rfl (seenC_one _) ?_)
            generalize hXw21 : (World.setRow (World.alloc w20 _) w20.heap.size (seenC zq)) = w21
            have hbw21 : Below w20.heap.size w20 w21 := by rw [← hXw21]; exact bel_row ((Below.refl _ _).alloc (Nat.le_refl _) _) _ _ (Nat.le_refl _)
            have hzw21 : Da.Blk w21 w20.heap.size 49 (seenC zq) := by rw [← hXw21]; exact setRow_heap _ _ (seenC Seen.zero) _ _ _ (heap_alloc_new w20 _)
            have HZw21 := Lib.hid hzw21
            have HXw21 := Lib.hid (HXw20.out.bel hbw21)
            have HTw21 := Lib.hid (HTw20.out.bel hbw21)
            have HYw21 := Lib.hid (show Da.Blk w21 w7.heap.size 49 (seenC z7) from (hbw21.block _ (Array.getElem?_eq_some_iff.1 HYw20.out).1).trans HYw20.out)
            clear hXw21 hbw21 hzw21
            go_wp2_with (first | (refine load_list (.tmp 7) 33 w.heap.size 0 D0 _ rfl rfl rfl HXw21.out.at0 Try.underlying33 rfl HINF.out.1 ?_) | (refine load_list (.tmp 8) 33 (w.heap.size + 1) 0 D1 _ rfl rfl rfl HXw21.out.at1 Try.underlying33 rfl HINF.out.2 ?_))
            refine (Da.rsame_any d0 d1 _ _ w.heap.size w21 (HDv.out.1.below HXw21.out.1) (HDv.out.2.below HXw21.out.1) HXw21.out.1.size).mono ?_
            rintro e w22 ⟨rfl, hb22⟩
            have HXw22 := Lib.hid (HXw21.out.bel hb22)
            have HYw22 := Lib.hid (show Da.Blk w22 w7.heap.size 49 (seenC z7) from (hb22.block _ (Array.getElem?_eq_some_iff.1 HYw21.out).1).trans HYw21.out)
            have HZw22 := Lib.hid (show Da.Blk w22 w20.heap.size 49 (seenC zq) from (hb22.block _ (Array.getElem?_eq_some_iff.1 HZw21.out).1).trans HZw21.out)
            clear hb22
            generalize hbs : ((Da.chk d0 == 0) && Da.eqD d0 d1) = bs
            have HBS := Lib.hid hbs
            clear hbs
            cases bs with
            | true =>
              by_cases hq : eq = 0
              · subst hq
                have hzn : (zq.scope : Int) = (nn : Int) := by
                  have h1 := sym_is HBS.out
                  have h2 := HQQ.out
                  rw [← h1, ← HNN.out.1, ← HNN.out.2] at h2
                  have h3 := inner_same HOK.out HF.out h2.2
                  rw [← h2.1, h3, HNN.out.2]
                have q0 : w22.cell? ⟨w20.heap.size, 0, none⟩ = some (.int .i64 (nn : Int)) := (HZw22.out.cell 0).trans (by rw [← hzn]; rfl)
                clear hzn
                go_wp2_with fail
                go_ret
                exact ⟨rfl, HXw22.out.1⟩
              · have d1' : (eq != 0) = true := by rw [bne_iff_ne]; exact hq
                have d2' : (eq == 0) = false := by rw [beq_eq_false_iff_ne]; exact hq
                clear hq
                go_wp2_with fail
                go_ret
                exact ⟨rfl, HXw22.out.1⟩
            | false =>
              have hio := inner_other (v := what) HOK.out HF.out (sym_ne (extE_zero HOK.out HF.out).choose_spec.2.2.1 HBS.out)
              rw [HNN.out.1, HNN.out.2, HQQ.out.1, HQQ.out.2, HQ7.out.1, HQ7.out.2] at hio
              obtain ⟨rfl, rfl⟩ := hio
              have q0 : w22.cell? ⟨w20.heap.size, 0, none⟩ = some (.int .i64 (zq.scope : Int)) := (HZw22.out.cell 0).trans rfl
              have q1 : w22.cell? ⟨w20.heap.size, 1, none⟩ = some (.int .i64 zq.what) := (HZw22.out.cell 1).trans rfl
              have q2 : w22.cell? ⟨w20.heap.size, 2, none⟩ = some (.string ⟨zq.name.toArray⟩) := (HZw22.out.cell 2).trans rfl
              have p0 : w22.cell? ⟨w7.heap.size, 0, none⟩ = some (.int .i64 (zq.scope : Int)) := (HYw22.out.cell 0).trans rfl
              have p1 : w22.cell? ⟨w7.heap.size, 1, none⟩ = some (.int .i64 zq.what) := (HYw22.out.cell 1).trans rfl
              have p2 : w22.cell? ⟨w7.heap.size, 2, none⟩ = some (.string ⟨zq.name.toArray⟩) := (HYw22.out.cell 2).trans rfl
              have hes : ∀ w, (binOp BinOp.eql 49 (.agg #[.int .i64 (zq.scope : Int), .int .i64 zq.what, .string ⟨zq.name.toArray⟩]) (.agg #[.int .i64 (zq.scope : Int), .int .i64 zq.what, .string ⟨zq.name.toArray⟩])).run Try.prog w = .ok (.bool true) w := fun w => by have h := eq_seen zq zq w; rwa [(Seen.same_iff zq zq).2 rfl] at h
              have hgd : ∀ w, (eqGuard BinOp.eql 49 (.tmp 118) (.tmp 119) (.agg #[.int .i64 (zq.scope : Int), .int .i64 zq.what, .string ⟨zq.name.toArray⟩]) (.agg #[.int .i64 (zq.scope : Int), .int .i64 zq.what, .string ⟨zq.name.toArray⟩])).run Try.prog w = .ok () w := guard_seen _ _ _ zq zq
              go_wp2_with fail
              go_ret
              exact ⟨rfl, HXw22.out.1⟩
      · have hn0 : extN T s d0 = 0 := if_neg hf
        rw [hn0]
        have d9 : (extE T s d0 != 0) = true := by rw [bne_iff_ne]; exact hf
        have d9' : (extE T s d0 == 0) = false := by rw [beq_eq_false_iff_ne]; exact hf
        clear hf hn0
        generalize extE T s d0 = f9 at d9 d9'
        go_wp2_with fail
        go_ret
        exact ⟨rfl, HXw9.out.1⟩
  · rw [if_pos (by kernel_rfl)]
    refine wp_bslPut (.tmp 31) d0 d1 x0 x1 rfl rfl ?_
    have hbA : Below X.heap.size X (X.alloc (.cells (opL (putOp d0 d1) x0 x1).toArray 35)) := (Below.refl _ _).alloc (Nat.le_refl _) _
    have hX1 : Da.Blk (X.alloc (.cells (opL (putOp d0 d1) x0 x1).toArray 35)) X.heap.size 35 (opL (putOp d0 d1) x0 x1).toArray := one_new X _ _
    have hT1 := hT0.bel hbA
    obtain ⟨p, hp⟩ : ∃ p, X.heap.size = p := ⟨_, rfl⟩
    rw [hp] at hX1 ⊢
    clear hbA
    generalize (X.alloc (.cells (opL (putOp d0 d1) x0 x1).toArray 35)) = w1 at hX1 hT1 ⊢
    refine hK.out _ _ ⟨fun _ => trivial, hT1⟩ ?_
    clear hK K
    simp only [Act.put, List.setIfInBounds_toArray, List.set_cons_zero, List.set_cons_succ]
    refine Od.Till.one (i := 5) (by kernel_rfl) rfl (fun K hK => ?_)
    rw [if_pos (by kernel_rfl)]
    refine wp_first (w.heap.size + 2) (.tmp 27) rfl a m c cs.flatten rfl K1.out.2.1 K1.out.1 (K1.out.2.2 w1 hT1.1) HCS.out.one (Nat.le_trans hm50 (of_decide_eq_true rfl)) hT1.lt ?_
    intro v1 w2 hown1 hg1
    obtain ⟨va, vc, rfl⟩ := slice_of hown1
    have hb1 : Below w1.heap.size w1 w2 := ⟨hg1.os, hg1.tape, hg1.output, hg1.size, fun g hg => hg1.block g hg (fun e => by cases e)⟩
    have hT2 := hT1.bel hb1
    have ROW2 : Hid (RowOps w2 (w.heap.size + 2) w.heap.size (.slice va m vc) L1) := Lib.hid ⟨cs, by rw [HLM.out]; exact hown1, HCS.out.low hT2.1⟩
    have PC2 : Hid (∀ j u, (opL (putOp d0 d1) x0 x1)[j]? = some u → w2.cell? ((⟨p, 0, none⟩ : Addr).add j) = some u) := Lib.hid (fun j u hu => by
      rw [Ld.add_at, Nat.zero_add, cell_of_row _ _ _ _ _ _ ((hb1.block _ (Array.getElem?_eq_some_iff.1 hX1).1).trans hX1)]
      simpa using hu)
    refine hK.out _ _ ⟨fun _ => trivial, hT2⟩ ?_
    clear hK K hown1 hg1 hb1 hT1 hX1
    simp only [Act.put, List.setIfInBounds_toArray, List.set_cons_zero, List.set_cons_succ]
    refine Od.Till.one (i := 10) (by kernel_rfl) rfl (fun K hK => ?_)
    rw [if_pos (by kernel_rfl)]
    obtain ⟨cs2, hown2, hcs2⟩ := ROW2.out
    have HCS2 := Lib.hid hcs2
    refine wp_append_at w2 (.tmp 28) (.tmp 32) 22 rfl (w.heap.size + 2) 35 z0 zz 16 240 Try.underlying22 hi hz0 hz1 hz2 hzz (by decide) (.slice va m vc) L1.length cs2.flatten rfl hown2 ⟨p, 0, none⟩ 1 1 (opL (putOp d0 d1) x0 x1) rfl rfl PC2.out N2.out N3.out.1 N3.out.2 hT2.lt ?_
    intro v3 w3 hown3 hg3 _
    obtain ⟨va3, vc3, rfl⟩ := slice_of hown3
    have hb3 : Below (w.heap.size + 2) w2 w3 := below_grown hown2 hg3 (Nat.le_refl _) hT2.lt
    have hT3 := hT2.chg hb3
    have ROW3 : Hid (RowOps w3 (w.heap.size + 2) w.heap.size (.slice va3 (L1.length + 1) vc3) (L1 ++ [putOp d0 d1])) := Lib.hid (RowOps.snoc (v := .slice va m vc) HCS2.out ⟨x0, x1, rfl, HD.out.1.below hT2.1, HD.out.2.below hT2.1, (show (Lit.int .i64 0).wf = true by decide)⟩ (hb3.mono (Nat.le_add_right _ 2)) hown3)
    refine hK.out _ _ ⟨fun _ => trivial, hT3⟩ ?_
    clear hK K hown3 hg3 hb3 hown2 hcs2
    simp only [Act.put, List.setIfInBounds_toArray, List.set_cons_zero, List.set_cons_succ]
    refine Od.Till.one (i := 11) (by kernel_rfl) rfl (fun K hK => ?_)
    rw [if_pos (by kernel_rfl)]
    go_simp
    obtain ⟨U, hU⟩ : ∃ U, L1 ++ [putOp d0 d1] = U := ⟨_, rfl⟩
    have hUl : U.length = L1.length + 1 := by rw [← hU, List.length_append]; rfl
    rw [hU, ← hUl] at ROW3
    rw [← hUl]
    have hiu := ROW3.out.isOps (Nat.le_trans (Nat.le_add_right _ 2) hT3.lt)
    obtain ⟨hcap1, hcap2⟩ := row_cap ROW3.out.choose_spec.1
    have HIU := Lib.hid hiu
    have HUL := Lib.hid (And.intro hUl hU)
    have HCAP := Lib.hid (And.intro hcap1 hcap2)
    clear hiu hcap1 hcap2 hUl hU
    refine (small_any U va3 vc3 w3.heap.size w3 HCAP.out.1 HCAP.out.2 (Nat.le_refl _) HIU.out).mono ?_
    intro e w4 hsm
    obtain ⟨hb4, s4, b4, rfl, hs4⟩ := hsm.form
    have hT4 := hT3.bel hb4
    have HB4 := Lib.hid hb4
    have HS4 := Lib.hid hs4
    clear hsm hb4 hs4
    refine hK.out _ _ ⟨fun _ => trivial, hT4⟩ ?_
    clear hK K hT3
    simp only [Act.put, List.setIfInBounds_toArray, List.set_cons_zero, List.set_cons_succ]
    refine Od.Till.takeT (i := 12) (d := 22) (v := .tuple #[s4, .bool b4]) rfl rfl (by kernel_rfl) (by kernel_rfl) (by kernel_rfl) (by kernel_rfl) (fun _ _ _ h => h) (.inl ⟨by rfl, ?_⟩) trivial hT4 ?_
    · intro wx hSw
      clear hSw
      go_simp
    simp only [Act.put, List.setIfInBounds_toArray, List.set_cons_zero, List.set_cons_succ]
    refine Od.Till.takeT (i := 13) (d := 35) (v := s4) rfl rfl (by kernel_rfl) (by kernel_rfl) (by kernel_rfl) (by kernel_rfl) (fun _ _ _ h => h) (.inl ⟨by rfl, ?_⟩) trivial hT4 ?_
    · intro wx hSw
      clear hSw
      go_simp
    simp only [Act.put, List.setIfInBounds_toArray, List.set_cons_zero, List.set_cons_succ]
    refine Od.Till.takeT (i := 14) (d := 36) (v := .bool b4) rfl rfl (by kernel_rfl) (by kernel_rfl) (by kernel_rfl) (by kernel_rfl) (fun _ _ _ h => h) (.inl ⟨by rfl, ?_⟩) trivial hT4 ?_
    · intro wx hSw
      clear hSw
      go_simp
    simp only [Act.put, List.setIfInBounds_toArray, List.set_cons_zero, List.set_cons_succ]
    refine Od.Till.takeT (i := 15) (d := 11) (v := s4) rfl rfl (by kernel_rfl) (by kernel_rfl) (by kernel_rfl) (by kernel_rfl) (fun _ _ _ h => h) (.inl ⟨by rfl, ?_⟩) trivial hT4 ?_
    · intro wx hSw
      clear hSw
      go_simp
    simp only [Act.put, List.setIfInBounds_toArray, List.set_cons_zero, List.set_cons_succ]
    refine Od.Till.takeT (i := 16) (d := 12) (v := .bool b4) rfl rfl (by kernel_rfl) (by kernel_rfl) (by kernel_rfl) (by kernel_rfl) (fun _ _ _ h => h) (.inl ⟨by rfl, ?_⟩) trivial hT4 ?_
    · intro wx hSw
      clear hSw
      go_simp
    simp only [Act.put, List.setIfInBounds_toArray, List.set_cons_zero, List.set_cons_succ]
    refine Od.Till.done (by kernel_rfl) ?_
    have HXw4 := Lib.hid hT4
    have HDv : Hid (Da.IsDt w (Da.Lo w.heap.size) d0 (.agg D0.toArray) ∧ Da.IsDt w (Da.Lo w.heap.size) d1 (.agg D1.toArray)) := Lib.hid (by rw [← HDD.out.1, ← HDD.out.2]; exact HD.out)
    have HINF : Hid ((Try.prog.info? 33).map (·.size) = some D0.length ∧ (Try.prog.info? 33).map (·.size) = some D1.length) := Lib.hid (by rw [← HDD.out.1, ← HDD.out.2]; exact ⟨info_dat6, info_dat6⟩)
    clear hT4 hT0 hrun
    go_wp2_with fail
    refine (awake_any w4).mono ?_
    rintro e w5 ⟨rfl, hb5⟩
    have HXw5 := Lib.hid (HXw4.out.bel hb5)
    have HB5 := Lib.hid (HB4.out.trans (hb5.mono HB4.out.size))
    clear hb5
    cases b4 with
    | false =>
      go_wp2_with fail
      refine (awake_any w5).mono ?_
      rintro e w6 ⟨rfl, hb6⟩
      have HXw6 := Lib.hid (HXw5.out.bel hb6)
      clear hb6
      go_wp2_with fail
      go_ret
      exact ⟨rfl, HXw6.out.1⟩
    | true =>
      have hs4 := HS4.out rfl
      rw [show min U.length 60 = U.length by rw [HUL.out.1, HLM.out]; omega] at hs4
      subst hs4
      have hu1 : 1 ≤ U.length := by rw [HUL.out.1]; omega
      have hu51 : U.length ≤ 51 := by rw [HUL.out.1, HLM.out]; omega
      have hr4 : ∀ w, (Instr.slice 22 (.slice va3 U.length vc3) none (some (.int .i64 ((U.length : Int) - 1))) none).run Try.prog w = .ok (.slice va3 L1.length vc3) w := fun w => by
        rw [show ((U.length : Int) - 1) = (L1.length : Int) by rw [HUL.out.1]; omega]
        exact run_pre va3 _ vc3 L1.length (by have := HCAP.out.1; have := HUL.out.1; omega) w
      go_wp2_with fail
      have hops : IsOps w5 (Da.Lo w3.heap.size) va3 L1 := fun i o hi => (HIU.out.below HB5.out) i o (by rw [← HUL.out.2, List.getElem?_append_left (List.getElem?_eq_some_iff.1 hi).1]; exact hi)
      refine (made_acts L1 va3 vc3 w3.heap.size w5 HB5.out.size (by rw [HLM.out]; unfold maxLen; omega) hops).mono ?_
      rintro e w6 ⟨tb, rfl, ht6, hb6⟩
      have HXw6 := Lib.hid (HXw5.out.bel hb6)
      have HT6 := Lib.hid (ht6.more (fun b hb => show w.heap.size + 2 ≤ b from Nat.le_trans HXw5.out.lt hb))
      clear hops ht6 hb6 HIU HB5 HB4 HS4 hr4 hu1 hu51
      generalize hTT : actsT Tab.new L1 = T at HT6
      clear hTT
      have HOK := Lib.hid HT6.out.ok
      go_wp2_with (refine load_list (.tmp 8) 33 (w.heap.size + 1) 0 D1 _ rfl rfl rfl HXw6.out.at1 Try.underlying33 rfl HINF.out.2 ?_)
      refine (find_all tb T _ s d1 _ w.heap.size w6 (HDv.out.2.below HXw6.out.1) HXw6.out.1.size HT6.out).mono ?_
      rintro e w7 ⟨rfl, hb7⟩
      have HXw7 := Lib.hid (HXw6.out.bel hb7)
      have HTw7 : Hid (TabIn w7 tb T (fun b => w.heap.size + 2 ≤ b ∧ b < w7.heap.size)) := Lib.hid (by
        obtain ⟨vs, vm, bm, h1, h2⟩ := HT6.out.bel hb7
        exact ⟨vs, vm, bm, h1, fun k hk => ⟨h2 k hk, h1.lt k hk⟩⟩)
      clear hb7
      generalize hz7 : findZ T s d1 = z7
      generalize he7 : findE T s d1 = e7
      have HQ7 := Lib.hid (And.intro he7 hz7)
      clear hz7 he7
      go_upto_region 8 with (refine wpList_store_row rfl 49 (.tmp 14) (.tmp 57) rfl w7.heap.size (seenC z7) rfl rfl 49 (seenC Seen.zero) (heap_alloc_new w7 _) info_seen rfl (seenC_one _) ?_)
      generalize hXw8 : (World.setRow (World.alloc w7 _) w7.heap.size (seenC z7)) = w8
      have hbw8 : Below w7.heap.size w7 w8 := by rw [← hXw8]; exact bel_row ((Below.refl _ _).alloc (Nat.le_refl _) _) _ _ (Nat.le_refl _)
      have hzw8 : Da.Blk w8 w7.heap.size 49 (seenC z7) := by rw [← hXw8]; exact setRow_heap _ _ (seenC Seen.zero) _ _ _ (heap_alloc_new w7 _)
      have HYw8 := Lib.hid hzw8
      have HXw8 := Lib.hid (HXw7.out.bel hbw8)
      have HTw8 := Lib.hid (HTw7.out.bel hbw8)
      clear hXw8 hbw8 hzw8
      go_wp2_with (refine load_list (.tmp 7) 33 w.heap.size 0 D0 _ rfl rfl rfl HXw8.out.at0 Try.underlying33 rfl HINF.out.1 ?_)
      refine (ext_all tb T _ s what d0 _ w.heap.size w8 (HDv.out.1.below HXw8.out.1) HXw8.out.1.size HTw8.out HWF.out).mono ?_
      rintro e w9 ⟨rfl, h9, hc9⟩
      have HTw9 : Hid (TabIn w9 tb (extT T s d0 what) (fun k => w.heap.size + 2 ≤ k)) := Lib.hid (h9.more (fun k hk => by
        rcases hk with h | h
        · exact h.1
        · exact Nat.le_trans HXw8.out.lt h))
      have HXw9 := Lib.hid (HXw8.out.chg (hc9.to_below HXw8.out.lt (fun j hj => hj.1)))
      have HYw9 := Lib.hid (show Da.Blk w9 w7.heap.size 49 (seenC z7) from (hc9.block _ (Array.getElem?_eq_some_iff.1 HYw8.out).1 (fun h => Nat.lt_irrefl _ h.2)).trans HYw8.out)
      clear h9 hc9
      by_cases hf : extE T s d0 = 0
      · rw [hf]
        have HF := Lib.hid hf
        clear hf
        generalize hT2 : extT T s d0 what = T' at HTw9
        generalize hnn : extN T s d0 = nn
        have HNN := Lib.hid (And.intro hT2 hnn)
        clear hT2 hnn
        have e3 : w9.cell? ⟨w.heap.size, 3, none⟩ = some (.slice x0.m d0.M.length x0.cm) := (HXw9.out.2.1.cell 3).trans (by rw [← HDD.out.1]; rfl)
        rcases Nat.eq_zero_or_pos d0.M.length with h0 | hpos
        · have HMK : Hid (markOk T.marks.length d0.M = true) := Lib.hid (by rw [List.eq_nil_of_length_eq_zero h0]; rfl)
          rw [h0] at e3
          clear h0
          go_upto_region 12 with (fail)
          clear e3
          go_wp2_with (refine load_list (.tmp 7) 33 w.heap.size 0 D0 _ rfl rfl rfl HXw9.out.at0 Try.underlying33 rfl HINF.out.1 ?_)
          refine (find_all tb T' _ (nn : Int) d0 _ w.heap.size w9 (HDv.out.1.below HXw9.out.1) HXw9.out.1.size HTw9.out).mono ?_
          rintro e w12 ⟨rfl, hb12⟩
          have HXw12 := Lib.hid (HXw9.out.bel hb12)
          have HTw12 := Lib.hid (HTw9.out.bel hb12)
          have HYw12 := Lib.hid (show Da.Blk w12 w7.heap.size 49 (seenC z7) from (hb12.block _ (Array.getElem?_eq_some_iff.1 HYw9.out).1).trans HYw9.out)
          clear hb12
          have hself := inner_self (v := what) HOK.out HF.out HMK.out
          rw [HNN.out.1, HNN.out.2] at hself
          rw [hself.1, hself.2]
          clear hself
          obtain ⟨zN, hzN⟩ : ∃ zN : Seen, ⟨nn, what, []⟩ = zN := ⟨_, rfl⟩
          rw [hzN]
          have HZN := Lib.hid hzN
          clear hzN
          go_upto_region 13 with (refine wpList_store_row rfl 49 (.tmp 18) (.tmp 85) rfl w12.heap.size (seenC zN) rfl rfl 49 (seenC Seen.zero) (heap_alloc_new w12 _) info_seen rfl (seenC_one _) ?_)
          generalize hXw13 : (World.setRow (World.alloc w12 _) w12.heap.size (seenC zN)) = w13
          have hbw13 : Below w12.heap.size w12 w13 := by rw [← hXw13]; exact bel_row ((Below.refl _ _).alloc (Nat.le_refl _) _) _ _ (Nat.le_refl _)
          have hzw13 : Da.Blk w13 w12.heap.size 49 (seenC zN) := by rw [← hXw13]; exact setRow_heap _ _ (seenC Seen.zero) _ _ _ (heap_alloc_new w12 _)
          have HWw13 := Lib.hid hzw13
          have HXw13 := Lib.hid (HXw12.out.bel hbw13)
          have HTw13 := Lib.hid (HTw12.out.bel hbw13)
          have HYw13 := Lib.hid (show Da.Blk w13 w7.heap.size 49 (seenC z7) from (hbw13.block _ (Array.getElem?_eq_some_iff.1 HYw12.out).1).trans HYw12.out)
          clear hXw13 hbw13 hzw13
          have q0 : w13.cell? ⟨w12.heap.size, 0, none⟩ = some (.int .i64 (nn : Int)) := (HWw13.out.cell 0).trans (by rw [← HZN.out]; rfl)
          have q1 : w13.cell? ⟨w12.heap.size, 1, none⟩ = some (.int .i64 what) := (HWw13.out.cell 1).trans (by rw [← HZN.out]; rfl)
          have q2 : w13.cell? ⟨w12.heap.size, 2, none⟩ = some (.string ⟨#[]⟩) := (HWw13.out.cell 2).trans (by rw [← HZN.out]; rfl)
          have hnq : ∀ w, (binOp BinOp.neq 49 (.agg #[.int .i64 (nn : Int), .int .i64 what, .string ⟨#[]⟩]) (.agg #[.int .i64 (nn : Int), .int .i64 what, .string ⟨#[]⟩])).run Try.prog w = .ok (.bool false) w := fun w => by have h := neq_seen ⟨nn, what, []⟩ ⟨nn, what, []⟩ w; rwa [(Seen.same_iff _ _).2 rfl] at h
          have hgd : ∀ w, (eqGuard BinOp.neq 49 (.tmp 90) (.tmp 93) (.agg #[.int .i64 (nn : Int), .int .i64 what, .string ⟨#[]⟩]) (.agg #[.int .i64 (nn : Int), .int .i64 what, .string ⟨#[]⟩])).run Try.prog w = .ok () w := guard_seen _ _ _ ⟨nn, what, []⟩ ⟨nn, what, []⟩
          go_upto_region 15 with (fail)
          clear q0 q1 q2 hnq hgd
          go_wp2_with (refine load_list (.tmp 8) 33 (w.heap.size + 1) 0 D1 _ rfl rfl rfl HXw13.out.at1 Try.underlying33 rfl HINF.out.2 ?_)
          refine (find_all tb T' _ (nn : Int) d1 _ w.heap.size w13 (HDv.out.2.below HXw13.out.1) HXw13.out.1.size HTw13.out).mono ?_
          rintro e w20 ⟨rfl, hb20⟩
          have HXw20 := Lib.hid (HXw13.out.bel hb20)
          have HTw20 := Lib.hid (HTw13.out.bel hb20)
          have HYw20 := Lib.hid (show Da.Blk w20 w7.heap.size 49 (seenC z7) from (hb20.block _ (Array.getElem?_eq_some_iff.1 HYw13.out).1).trans HYw13.out)
          clear hb20
          generalize hzq : findZ T' (nn : Int) d1 = zq
          generalize heq : findE T' (nn : Int) d1 = eq
          have HQQ := Lib.hid (And.intro hzq heq)
          clear hzq heq
          go_upto_region 16 with (refine wpList_store_row rfl 49 (.tmp 20) (.tmp 101) rfl w20.heap.size (seenC zq) rfl rfl 49 (seenC Seen.zero) (heap_alloc_new w20 _) info_seen rfl (seenC_one _) ?_)
          generalize hXw21 : (World.setRow (World.alloc w20 _) w20.heap.size (seenC zq)) = w21
          have hbw21 : Below w20.heap.size w20 w21 := by rw [← hXw21]; exact bel_row ((Below.refl _ _).alloc (Nat.le_refl _) _) _ _ (Nat.le_refl _)
          have hzw21 : Da.Blk w21 w20.heap.size 49 (seenC zq) := by rw [← hXw21]; exact setRow_heap _ _ (seenC Seen.zero) _ _ _ (heap_alloc_new w20 _)
          have HZw21 := Lib.hid hzw21
          have HXw21 := Lib.hid (HXw20.out.bel hbw21)
          have HTw21 := Lib.hid (HTw20.out.bel hbw21)
          have HYw21 := Lib.hid (show Da.Blk w21 w7.heap.size 49 (seenC z7) from (hbw21.block _ (Array.getElem?_eq_some_iff.1 HYw20.out).1).trans HYw20.out)
          clear hXw21 hbw21 hzw21
          go_wp2_with (first | (refine load_list (.tmp 7) 33 w.heap.size 0 D0 _ rfl rfl rfl HXw21.out.at0 Try.underlying33 rfl HINF.out.1 ?_) | (refine load_list (.tmp 8) 33 (w.heap.size + 1) 0 D1 _ rfl rfl rfl HXw21.out.at1 Try.underlying33 rfl HINF.out.2 ?_))
          refine (Da.rsame_any d0 d1 _ _ w.heap.size w21 (HDv.out.1.below HXw21.out.1) (HDv.out.2.below HXw21.out.1) HXw21.out.1.size).mono ?_
          rintro e w22 ⟨rfl, hb22⟩
          have HXw22 := Lib.hid (HXw21.out.bel hb22)
          have HYw22 := Lib.hid (show Da.Blk w22 w7.heap.size 49 (seenC z7) from (hb22.block _ (Array.getElem?_eq_some_iff.1 HYw21.out).1).trans HYw21.out)
          have HZw22 := Lib.hid (show Da.Blk w22 w20.heap.size 49 (seenC zq) from (hb22.block _ (Array.getElem?_eq_some_iff.1 HZw21.out).1).trans HZw21.out)
          clear hb22
          generalize hbs : ((Da.chk d0 == 0) && Da.eqD d0 d1) = bs
          have HBS := Lib.hid hbs
          clear hbs
          cases bs with
          | true =>
            by_cases hq : eq = 0
            · subst hq
              have hzn : (zq.scope : Int) = (nn : Int) := by
                have h1 := sym_is HBS.out
                have h2 := HQQ.out
                rw [← h1, ← HNN.out.1, ← HNN.out.2] at h2
                have h3 := inner_same HOK.out HF.out h2.2
                rw [← h2.1, h3, HNN.out.2]
              have q0 : w22.cell? ⟨w20.heap.size, 0, none⟩ = some (.int .i64 (nn : Int)) := (HZw22.out.cell 0).trans (by rw [← hzn]; rfl)
              clear hzn
              go_wp2_with fail
              go_ret
              exact ⟨rfl, HXw22.out.1⟩
            · have d1' : (eq != 0) = true := by rw [bne_iff_ne]; exact hq
              have d2' : (eq == 0) = false := by rw [beq_eq_false_iff_ne]; exact hq
              clear hq
              go_wp2_with fail
              go_ret
              exact ⟨rfl, HXw22.out.1⟩
          | false =>
            have hio := inner_other (v := what) HOK.out HF.out (sym_ne (extE_zero HOK.out HF.out).choose_spec.2.2.1 HBS.out)
            rw [HNN.out.1, HNN.out.2, HQQ.out.1, HQQ.out.2, HQ7.out.1, HQ7.out.2] at hio
            obtain ⟨rfl, rfl⟩ := hio
            have q0 : w22.cell? ⟨w20.heap.size, 0, none⟩ = some (.int .i64 (zq.scope : Int)) := (HZw22.out.cell 0).trans rfl
            have q1 : w22.cell? ⟨w20.heap.size, 1, none⟩ = some (.int .i64 zq.what) := (HZw22.out.cell 1).trans rfl
            have q2 : w22.cell? ⟨w20.heap.size, 2, none⟩ = some (.string ⟨zq.name.toArray⟩) := (HZw22.out.cell 2).trans rfl
            have p0 : w22.cell? ⟨w7.heap.size, 0, none⟩ = some (.int .i64 (zq.scope : Int)) := (HYw22.out.cell 0).trans rfl
            have p1 : w22.cell? ⟨w7.heap.size, 1, none⟩ = some (.int .i64 zq.what) := (HYw22.out.cell 1).trans rfl
            have p2 : w22.cell? ⟨w7.heap.size, 2, none⟩ = some (.string ⟨zq.name.toArray⟩) := (HYw22.out.cell 2).trans rfl
            have hes : ∀ w, (binOp BinOp.eql 49 (.agg #[.int .i64 (zq.scope : Int), .int .i64 zq.what, .string ⟨zq.name.toArray⟩]) (.agg #[.int .i64 (zq.scope : Int), .int .i64 zq.what, .string ⟨zq.name.toArray⟩])).run Try.prog w = .ok (.bool true) w := fun w => by have h := eq_seen zq zq w; rwa [(Seen.same_iff zq zq).2 rfl] at h
            have hgd : ∀ w, (eqGuard BinOp.eql 49 (.tmp 118) (.tmp 119) (.agg #[.int .i64 (zq.scope : Int), .int .i64 zq.what, .string ⟨zq.name.toArray⟩]) (.agg #[.int .i64 (zq.scope : Int), .int .i64 zq.what, .string ⟨zq.name.toArray⟩])).run Try.prog w = .ok () w := guard_seen _ _ _ zq zq
            go_wp2_with fail
            go_ret
            exact ⟨rfl, HXw22.out.1⟩
        · have d11 : ((d0.M.length : Int) == 0) = false := by rw [beq_eq_false_iff_ne]; omega
          have d12 : (d0.M.length == 0) = false := by rw [beq_eq_false_iff_ne]; omega
          have e0 : w9.cell? ⟨w.heap.size, 0, none⟩ = some (.int .i64 d0.K) := (HXw9.out.2.1.cell 0).trans (by rw [← HDD.out.1]; rfl)
          have e1 : w9.cell? ⟨w.heap.size, 1, none⟩ = some (.int .i64 d0.N) := (HXw9.out.2.1.cell 1).trans (by rw [← HDD.out.1]; rfl)
          have e2 : w9.cell? ⟨w.heap.size, 2, none⟩ = some (.string d0.S) := (HXw9.out.2.1.cell 2).trans (by rw [← HDD.out.1]; rfl)
          have e4 : w9.cell? ⟨w.heap.size, 4, none⟩ = some (.slice x0.l d0.L.length x0.cl) := (HXw9.out.2.1.cell 4).trans (by rw [← HDD.out.1]; rfl)
          have e5 : w9.cell? ⟨w.heap.size, 5, none⟩ = some (.slice x0.t d0.T.length x0.ct) := (HXw9.out.2.1.cell 5).trans (by rw [← HDD.out.1]; rfl)
          go_wp2_with fail
          clear e0 e1 e2 e3 e4 e5 d11 d12 hpos
          refine (marked_any tb T' _ d0 _ w.heap.size w9 HXw9.out.1.size (HD.out.1.below HXw9.out.1) HTw9.out).mono ?_
          rintro e w10 ⟨rfl, hb10⟩
          have HXw10 := Lib.hid (HXw9.out.bel hb10)
          have HTw10 := Lib.hid (HTw9.out.bel hb10)
          have HYw10 := Lib.hid (show Da.Blk w10 w7.heap.size 49 (seenC z7) from (hb10.block _ (Array.getElem?_eq_some_iff.1 HYw9.out).1).trans HYw9.out)
          clear hb10
          generalize hmk : markOk T'.marks.length d0.M = bm
          have HMK0 := Lib.hid hmk
          clear hmk
          cases bm with
          | false =>
            go_wp2_with (refine load_list (.tmp 8) 33 (w.heap.size + 1) 0 D1 _ rfl rfl rfl HXw10.out.at1 Try.underlying33 rfl HINF.out.2 ?_)
            refine (find_all tb T' _ (nn : Int) d1 _ w.heap.size w10 (HDv.out.2.below HXw10.out.1) HXw10.out.1.size HTw10.out).mono ?_
            rintro e w20 ⟨rfl, hb20⟩
            have HXw20 := Lib.hid (HXw10.out.bel hb20)
            have HTw20 := Lib.hid (HTw10.out.bel hb20)
            have HYw20 := Lib.hid (show Da.Blk w20 w7.heap.size 49 (seenC z7) from (hb20.block _ (Array.getElem?_eq_some_iff.1 HYw10.out).1).trans HYw10.out)
            clear hb20
            generalize hzq : findZ T' (nn : Int) d1 = zq
            generalize heq : findE T' (nn : Int) d1 = eq
            have HQQ := Lib.hid (And.intro hzq heq)
            clear hzq heq
            go_upto_region 16 with (refine wpList_store_row rfl 49 (.tmp 20) (.tmp 101) rfl w20.heap.size (seenC zq) rfl rfl 49 (seenC Seen.zero) (heap_alloc_new w20 _) info_seen rfl (seenC_one _) ?_)
            generalize hXw21 : (World.setRow (World.alloc w20 _) w20.heap.size (seenC zq)) = w21
            have hbw21 : Below w20.heap.size w20 w21 := by rw [← hXw21]; exact bel_row ((Below.refl _ _).alloc (Nat.le_refl _) _) _ _ (Nat.le_refl _)
            have hzw21 : Da.Blk w21 w20.heap.size 49 (seenC zq) := by rw [← hXw21]; exact setRow_heap _ _ (seenC Seen.zero) _ _ _ (heap_alloc_new w20 _)
            have HZw21 := Lib.hid hzw21
            have HXw21 := Lib.hid (HXw20.out.bel hbw21)
            have HTw21 := Lib.hid (HTw20.out.bel hbw21)
            have HYw21 := Lib.hid (show Da.Blk w21 w7.heap.size 49 (seenC z7) from (hbw21.block _ (Array.getElem?_eq_some_iff.1 HYw20.out).1).trans HYw20.out)
            clear hXw21 hbw21 hzw21
            go_wp2_with (first | (refine load_list (.tmp 7) 33 w.heap.size 0 D0 _ rfl rfl rfl HXw21.out.at0 Try.underlying33 rfl HINF.out.1 ?_) | (refine load_list (.tmp 8) 33 (w.heap.size + 1) 0 D1 _ rfl rfl rfl HXw21.out.at1 Try.underlying33 rfl HINF.out.2 ?_))
            refine (Da.rsame_any d0 d1 _ _ w.heap.size w21 (HDv.out.1.below HXw21.out.1) (HDv.out.2.below HXw21.out.1) HXw21.out.1.size).mono ?_
            rintro e w22 ⟨rfl, hb22⟩
            have HXw22 := Lib.hid (HXw21.out.bel hb22)
            have HYw22 := Lib.hid (show Da.Blk w22 w7.heap.size 49 (seenC z7) from (hb22.block _ (Array.getElem?_eq_some_iff.1 HYw21.out).1).trans HYw21.out)
            have HZw22 := Lib.hid (show Da.Blk w22 w20.heap.size 49 (seenC zq) from (hb22.block _ (Array.getElem?_eq_some_iff.1 HZw21.out).1).trans HZw21.out)
            clear hb22
            generalize hbs : ((Da.chk d0 == 0) && Da.eqD d0 d1) = bs
            have HBS := Lib.hid hbs
            clear hbs
            cases bs with
            | true =>
              by_cases hq : eq = 0
              · subst hq
                have hzn : (zq.scope : Int) = (nn : Int) := by
                  have h1 := sym_is HBS.out
                  have h2 := HQQ.out
                  rw [← h1, ← HNN.out.1, ← HNN.out.2] at h2
                  have h3 := inner_same HOK.out HF.out h2.2
                  rw [← h2.1, h3, HNN.out.2]
                have q0 : w22.cell? ⟨w20.heap.size, 0, none⟩ = some (.int .i64 (nn : Int)) := (HZw22.out.cell 0).trans (by rw [← hzn]; rfl)
                clear hzn
                go_wp2_with fail
                go_ret
                exact ⟨rfl, HXw22.out.1⟩
              · have d1' : (eq != 0) = true := by rw [bne_iff_ne]; exact hq
                have d2' : (eq == 0) = false := by rw [beq_eq_false_iff_ne]; exact hq
                clear hq
                go_wp2_with fail
                go_ret
                exact ⟨rfl, HXw22.out.1⟩
            | false =>
              have hio := inner_other (v := what) HOK.out HF.out (sym_ne (extE_zero HOK.out HF.out).choose_spec.2.2.1 HBS.out)
              rw [HNN.out.1, HNN.out.2, HQQ.out.1, HQQ.out.2, HQ7.out.1, HQ7.out.2] at hio
              obtain ⟨rfl, rfl⟩ := hio
              have q0 : w22.cell? ⟨w20.heap.size, 0, none⟩ = some (.int .i64 (zq.scope : Int)) := (HZw22.out.cell 0).trans rfl
              have q1 : w22.cell? ⟨w20.heap.size, 1, none⟩ = some (.int .i64 zq.what) := (HZw22.out.cell 1).trans rfl
              have q2 : w22.cell? ⟨w20.heap.size, 2, none⟩ = some (.string ⟨zq.name.toArray⟩) := (HZw22.out.cell 2).trans rfl
              have p0 : w22.cell? ⟨w7.heap.size, 0, none⟩ = some (.int .i64 (zq.scope : Int)) := (HYw22.out.cell 0).trans rfl
              have p1 : w22.cell? ⟨w7.heap.size, 1, none⟩ = some (.int .i64 zq.what) := (HYw22.out.cell 1).trans rfl
              have p2 : w22.cell? ⟨w7.heap.size, 2, none⟩ = some (.string ⟨zq.name.toArray⟩) := (HYw22.out.cell 2).trans rfl
              have hes : ∀ w, (binOp BinOp.eql 49 (.agg #[.int .i64 (zq.scope : Int), .int .i64 zq.what, .string ⟨zq.name.toArray⟩]) (.agg #[.int .i64 (zq.scope : Int), .int .i64 zq.what, .string ⟨zq.name.toArray⟩])).run Try.prog w = .ok (.bool true) w := fun w => by have h := eq_seen zq zq w; rwa [(Seen.same_iff zq zq).2 rfl] at h
              have hgd : ∀ w, (eqGuard BinOp.eql 49 (.tmp 118) (.tmp 119) (.agg #[.int .i64 (zq.scope : Int), .int .i64 zq.what, .string ⟨zq.name.toArray⟩]) (.agg #[.int .i64 (zq.scope : Int), .int .i64 zq.what, .string ⟨zq.name.toArray⟩])).run Try.prog w = .ok () w := guard_seen _ _ _ zq zq
              go_wp2_with fail
              go_ret
              exact ⟨rfl, HXw22.out.1⟩
          | true =>
            have HMK : Hid (markOk T.marks.length d0.M = true) := Lib.hid (by have h := HMK0.out; rw [← HNN.out.1, ext_marks] at h; exact h)
            go_wp2_with (refine load_list (.tmp 7) 33 w.heap.size 0 D0 _ rfl rfl rfl HXw10.out.at0 Try.underlying33 rfl HINF.out.1 ?_)
            refine (find_all tb T' _ (nn : Int) d0 _ w.heap.size w10 (HDv.out.1.below HXw10.out.1) HXw10.out.1.size HTw10.out).mono ?_
            rintro e w12 ⟨rfl, hb12⟩
            have HXw12 := Lib.hid (HXw10.out.bel hb12)
            have HTw12 := Lib.hid (HTw10.out.bel hb12)
            have HYw12 := Lib.hid (show Da.Blk w12 w7.heap.size 49 (seenC z7) from (hb12.block _ (Array.getElem?_eq_some_iff.1 HYw10.out).1).trans HYw10.out)
            clear hb12
            have hself := inner_self (v := what) HOK.out HF.out HMK.out
            rw [HNN.out.1, HNN.out.2] at hself
            rw [hself.1, hself.2]
            clear hself
            obtain ⟨zN, hzN⟩ : ∃ zN : Seen, ⟨nn, what, []⟩ = zN := ⟨_, rfl⟩
            rw [hzN]
            have HZN := Lib.hid hzN
            clear hzN
            go_upto_region 13 with (refine wpList_store_row rfl 49 (.tmp 18) (.tmp 85) rfl w12.heap.size (seenC zN) rfl rfl 49 (seenC Seen.zero) (heap_alloc_new w12 _) info_seen rfl (seenC_one _) ?_)
            generalize hXw13 : (World.setRow (World.alloc w12 _) w12.heap.size (seenC zN)) = w13
            have hbw13 : Below w12.heap.size w12 w13 := by rw [← hXw13]; exact bel_row ((Below.refl _ _).alloc (Nat.le_refl _) _) _ _ (Nat.le_refl _)
            have hzw13 : Da.Blk w13 w12.heap.size 49 (seenC zN) := by rw [← hXw13]; exact setRow_heap _ _ (seenC Seen.zero) _ _ _ (heap_alloc_new w12 _)
            have HWw13 := Lib.hid hzw13
            have HXw13 := Lib.hid (HXw12.out.bel hbw13)
            have HTw13 := Lib.hid (HTw12.out.bel hbw13)
            have HYw13 := Lib.hid (show Da.Blk w13 w7.heap.size 49 (seenC z7) from (hbw13.block _ (Array.getElem?_eq_some_iff.1 HYw12.out).1).trans HYw12.out)
            clear hXw13 hbw13 hzw13
            have q0 : w13.cell? ⟨w12.heap.size, 0, none⟩ = some (.int .i64 (nn : Int)) := (HWw13.out.cell 0).trans (by rw [← HZN.out]; rfl)
            have q1 : w13.cell? ⟨w12.heap.size, 1, none⟩ = some (.int .i64 what) := (HWw13.out.cell 1).trans (by rw [← HZN.out]; rfl)
            have q2 : w13.cell? ⟨w12.heap.size, 2, none⟩ = some (.string ⟨#[]⟩) := (HWw13.out.cell 2).trans (by rw [← HZN.out]; rfl)
            have hnq : ∀ w, (binOp BinOp.neq 49 (.agg #[.int .i64 (nn : Int), .int .i64 what, .string ⟨#[]⟩]) (.agg #[.int .i64 (nn : Int), .int .i64 what, .string ⟨#[]⟩])).run Try.prog w = .ok (.bool false) w := fun w => by have h := neq_seen ⟨nn, what, []⟩ ⟨nn, what, []⟩ w; rwa [(Seen.same_iff _ _).2 rfl] at h
            have hgd : ∀ w, (eqGuard BinOp.neq 49 (.tmp 90) (.tmp 93) (.agg #[.int .i64 (nn : Int), .int .i64 what, .string ⟨#[]⟩]) (.agg #[.int .i64 (nn : Int), .int .i64 what, .string ⟨#[]⟩])).run Try.prog w = .ok () w := guard_seen _ _ _ ⟨nn, what, []⟩ ⟨nn, what, []⟩
            go_upto_region 15 with (fail)
            clear q0 q1 q2 hnq hgd
            go_wp2_with (refine load_list (.tmp 8) 33 (w.heap.size + 1) 0 D1 _ rfl rfl rfl HXw13.out.at1 Try.underlying33 rfl HINF.out.2 ?_)
            refine (find_all tb T' _ (nn : Int) d1 _ w.heap.size w13 (HDv.out.2.below HXw13.out.1) HXw13.out.1.size HTw13.out).mono ?_
            rintro e w20 ⟨rfl, hb20⟩
            have HXw20 := Lib.hid (HXw13.out.bel hb20)
            have HTw20 := Lib.hid (HTw13.out.bel hb20)
            have HYw20 := Lib.hid (show Da.Blk w20 w7.heap.size 49 (seenC z7) from (hb20.block _ (Array.getElem?_eq_some_iff.1 HYw13.out).1).trans HYw13.out)
            clear hb20
            generalize hzq : findZ T' (nn : Int) d1 = zq
            generalize heq : findE T' (nn : Int) d1 = eq
            have HQQ := Lib.hid (And.intro hzq heq)
            clear hzq heq
            go_upto_region 16 with (refine wpList_store_row rfl 49 (.tmp 20) (.tmp 101) rfl w20.heap.size (seenC zq) rfl rfl 49 (seenC Seen.zero) (heap_alloc_new w20 _) info_seen rfl (seenC_one _) ?_)
            generalize hXw21 : (World.setRow (World.alloc w20 _) w20.heap.size (seenC zq)) = w21
            have hbw21 : Below w20.heap.size w20 w21 := by rw [← hXw21]; exact bel_row ((Below.refl _ _).alloc (Nat.le_refl _) _) _ _ (Nat.le_refl _)
            have hzw21 : Da.Blk w21 w20.heap.size 49 (seenC zq) := by rw [← hXw21]; exact setRow_heap _ _ (seenC Seen.zero) _ _ _ (heap_alloc_new w20 _)
            have HZw21 := Lib.hid hzw21
            have HXw21 := Lib.hid (HXw20.out.bel hbw21)
            have HTw21 := Lib.hid (HTw20.out.bel hbw21)
            have HYw21 := Lib.hid (show Da.Blk w21 w7.heap.size 49 (seenC z7) from (hbw21.block _ (Array.getElem?_eq_some_iff.1 HYw20.out).1).trans HYw20.out)
            clear hXw21 hbw21 hzw21
            go_wp2_with (first | (refine load_list (.tmp 7) 33 w.heap.size 0 D0 _ rfl rfl rfl HXw21.out.at0 Try.underlying33 rfl HINF.out.1 ?_) | (refine load_list (.tmp 8) 33 (w.heap.size + 1) 0 D1 _ rfl rfl rfl HXw21.out.at1 Try.underlying33 rfl HINF.out.2 ?_))
            refine (Da.rsame_any d0 d1 _ _ w.heap.size w21 (HDv.out.1.below HXw21.out.1) (HDv.out.2.below HXw21.out.1) HXw21.out.1.size).mono ?_
            rintro e w22 ⟨rfl, hb22⟩
            have HXw22 := Lib.hid (HXw21.out.bel hb22)
            have HYw22 := Lib.hid (show Da.Blk w22 w7.heap.size 49 (seenC z7) from (hb22.block _ (Array.getElem?_eq_some_iff.1 HYw21.out).1).trans HYw21.out)
            have HZw22 := Lib.hid (show Da.Blk w22 w20.heap.size 49 (seenC zq) from (hb22.block _ (Array.getElem?_eq_some_iff.1 HZw21.out).1).trans HZw21.out)
            clear hb22
            generalize hbs : ((Da.chk d0 == 0) && Da.eqD d0 d1) = bs
            have HBS := Lib.hid hbs
            clear hbs
            cases bs with
            | true =>
              by_cases hq : eq = 0
              · subst hq
                have hzn : (zq.scope : Int) = (nn : Int) := by
                  have h1 := sym_is HBS.out
                  have h2 := HQQ.out
                  rw [← h1, ← HNN.out.1, ← HNN.out.2] at h2
                  have h3 := inner_same HOK.out HF.out h2.2
                  rw [← h2.1, h3, HNN.out.2]
                have q0 : w22.cell? ⟨w20.heap.size, 0, none⟩ = some (.int .i64 (nn : Int)) := (HZw22.out.cell 0).trans (by rw [← hzn]; rfl)
                clear hzn
                go_wp2_with fail
                go_ret
                exact ⟨rfl, HXw22.out.1⟩
              · have d1' : (eq != 0) = true := by rw [bne_iff_ne]; exact hq
                have d2' : (eq == 0) = false := by rw [beq_eq_false_iff_ne]; exact hq
                clear hq
                go_wp2_with fail
                go_ret
                exact ⟨rfl, HXw22.out.1⟩
            | false =>
              have hio := inner_other (v := what) HOK.out HF.out (sym_ne (extE_zero HOK.out HF.out).choose_spec.2.2.1 HBS.out)
              rw [HNN.out.1, HNN.out.2, HQQ.out.1, HQQ.out.2, HQ7.out.1, HQ7.out.2] at hio
              obtain ⟨rfl, rfl⟩ := hio
              have q0 : w22.cell? ⟨w20.heap.size, 0, none⟩ = some (.int .i64 (zq.scope : Int)) := (HZw22.out.cell 0).trans rfl
              have q1 : w22.cell? ⟨w20.heap.size, 1, none⟩ = some (.int .i64 zq.what) := (HZw22.out.cell 1).trans rfl
              have q2 : w22.cell? ⟨w20.heap.size, 2, none⟩ = some (.string ⟨zq.name.toArray⟩) := (HZw22.out.cell 2).trans rfl
              have p0 : w22.cell? ⟨w7.heap.size, 0, none⟩ = some (.int .i64 (zq.scope : Int)) := (HYw22.out.cell 0).trans rfl
              have p1 : w22.cell? ⟨w7.heap.size, 1, none⟩ = some (.int .i64 zq.what) := (HYw22.out.cell 1).trans rfl
              have p2 : w22.cell? ⟨w7.heap.size, 2, none⟩ = some (.string ⟨zq.name.toArray⟩) := (HYw22.out.cell 2).trans rfl
              have hes : ∀ w, (binOp BinOp.eql 49 (.agg #[.int .i64 (zq.scope : Int), .int .i64 zq.what, .string ⟨zq.name.toArray⟩]) (.agg #[.int .i64 (zq.scope : Int), .int .i64 zq.what, .string ⟨zq.name.toArray⟩])).run Try.prog w = .ok (.bool true) w := fun w => by have h := eq_seen zq zq w; rwa [(Seen.same_iff zq zq).2 rfl] at h
              have hgd : ∀ w, (eqGuard BinOp.eql 49 (.tmp 118) (.tmp 119) (.agg #[.int .i64 (zq.scope : Int), .int .i64 zq.what, .string ⟨zq.name.toArray⟩]) (.agg #[.int .i64 (zq.scope : Int), .int .i64 zq.what, .string ⟨zq.name.toArray⟩])).run Try.prog w = .ok () w := guard_seen _ _ _ zq zq
              go_wp2_with fail
              go_ret
              exact ⟨rfl, HXw22.out.1⟩
      · have hn0 : extN T s d0 = 0 := if_neg hf
        rw [hn0]
        have d9 : (extE T s d0 != 0) = true := by rw [bne_iff_ne]; exact hf
        have d9' : (extE T s d0 == 0) = false := by rw [beq_eq_false_iff_ne]; exact hf
        clear hf hn0
        generalize extE T s d0 = f9 at d9 d9'
        go_wp2_with fail
        go_ret
        exact ⟨rfl, HXw9.out.1⟩
end Go.Proofs.Yteolfkkabhileaa.Sc
end
