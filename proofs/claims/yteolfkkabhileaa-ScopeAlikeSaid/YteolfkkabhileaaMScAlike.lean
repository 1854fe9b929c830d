/- P5.6: names that mean the same are so both ways, and one by a third one; what is made later changes nothing of it: the walk. -/
import Derived.Laws.AppendOwnNone
import Derived.Test.YteolfkkabhileaaMScRow
import Derived.Test.YteolfkkabhileaaMScSub
section
namespace Go.Proofs.Yteolfkkabhileaa.Sc
open Go.ChangeShapes Go.WideShapes Go.ChangeAt Go.RowKit
set_option linter.unusedVariables false
set_option linter.unusedSimpArgs false

/-- The boxes of the three numbers, of the three data. -/
def AlIn (w : World) (n3 d3 : Array Value) (W : World) : Prop :=
  Below w.heap.size w W ∧ Da.Blk W w.heap.size 65 n3 ∧ Da.Blk W (w.heap.size + 1) 66 d3
theorem AlIn.bel {w W W' : World} {n3 d3 : Array Value} (h : AlIn w n3 d3 W) (hb : Below W.heap.size W W') : AlIn w n3 d3 W' := by
  obtain ⟨h1, h2, h3⟩ := h
  exact ⟨h1.trans (hb.mono h1.size), (hb.block _ (Array.getElem?_eq_some_iff.1 h2).1).trans h2, (hb.block _ (Array.getElem?_eq_some_iff.1 h3).1).trans h3⟩
theorem AlIn.chg {w W W' : World} {n3 d3 : Array Value} {O : Nat → Prop} (h : AlIn w n3 d3 W) (hb : Below (w.heap.size + 2) W W') : AlIn w n3 d3 W' := by
  obtain ⟨h1, h2, h3⟩ := h
  exact ⟨h1.trans (hb.mono (by omega)), (hb.block _ (by omega)).trans h2, (hb.block _ (by omega)).trans h3⟩
def pick3 {α : Type} (a b c : α) (k : Nat) : α := if k = 0 then a else if k = 1 then b else c
theorem idx3_0 (d0 d1 d2 : Da.Dt) (x0 x1 x2 : Sx) (w : World) : (Instr.index 66 (.agg (sixL d0 x0 ++ sixL d1 x1 ++ sixL d2 x2).toArray) (.int .i64 ((0 : Nat) : Int))).run Try.prog w = .ok (.agg (sixL d0 x0).toArray) w := by kernel_rfl
theorem idx3_1 (d0 d1 d2 : Da.Dt) (x0 x1 x2 : Sx) (w : World) : (Instr.index 66 (.agg (sixL d0 x0 ++ sixL d1 x1 ++ sixL d2 x2).toArray) (.int .i64 ((1 : Nat) : Int))).run Try.prog w = .ok (.agg (sixL d1 x1).toArray) w := by kernel_rfl
theorem idx3_2 (d0 d1 d2 : Da.Dt) (x0 x1 x2 : Sx) (w : World) : (Instr.index 66 (.agg (sixL d0 x0 ++ sixL d1 x1 ++ sixL d2 x2).toArray) (.int .i64 ((2 : Nat) : Int))).run Try.prog w = .ok (.agg (sixL d2 x2).toArray) w := by kernel_rfl
theorem idx3 (d0 d1 d2 : Da.Dt) (x0 x1 x2 : Sx) (k : Nat) (hk : k < 3) (w : World) : (Instr.index 66 (.agg (sixL d0 x0 ++ sixL d1 x1 ++ sixL d2 x2).toArray) (.int .i64 (k : Int))).run Try.prog w = .ok (.agg (sixL (pick3 d0 d1 d2 k) (pick3 x0 x1 x2 k)).toArray) w := by
  have : k = 0 ∨ k = 1 ∨ k = 2 := by omega
  rcases this with rfl | rfl | rfl
  · exact idx3_0 d0 d1 d2 x0 x1 x2 w
  · exact idx3_1 d0 d1 d2 x0 x1 x2 w
  · exact idx3_2 d0 d1 d2 x0 x1 x2 w
theorem at3 {W : World} {b : Nat} {d0 d1 d2 : Da.Dt} {x0 x1 x2 : Sx} (h : Da.Blk W b 66 (sixL d0 x0 ++ sixL d1 x1 ++ sixL d2 x2).toArray) (k : Nat) (hk : k < 3) : Ld.At W b (k * 6) (sixL (pick3 d0 d1 d2 k) (pick3 x0 x1 x2 k)) := fun j v hv => by
  rw [Da.Blk.cell h, ← Array.getElem?_toList]
  have hj : j < 6 := by
    rcases Nat.lt_or_ge j 6 with h1 | h1
    · exact h1
    · rw [List.getElem?_eq_none (by exact h1)] at hv; cases hv
  have : k = 0 ∨ k = 1 ∨ k = 2 := by omega
  rcases this with rfl | rfl | rfl
  · show (sixL d0 x0 ++ sixL d1 x1 ++ sixL d2 x2)[0 * 6 + j]? = _
    rw [List.append_assoc, Nat.zero_mul, Nat.zero_add, List.getElem?_append_left (by exact hj)]
    exact hv
  · show (sixL d0 x0 ++ sixL d1 x1 ++ sixL d2 x2)[1 * 6 + j]? = _
    rw [List.append_assoc, List.getElem?_append_right (by show 6 ≤ _; omega), show 1 * 6 + j - (sixL d0 x0).length = j by show 1 * 6 + j - 6 = j; omega, List.getElem?_append_left (by exact hj)]
    exact hv
  · show (sixL d0 x0 ++ sixL d1 x1 ++ sixL d2 x2)[2 * 6 + j]? = _
    rw [List.getElem?_append_right (by show 12 ≤ _; omega), show 2 * 6 + j - (sixL d0 x0 ++ sixL d1 x1).length = j by show 2 * 6 + j - 12 = j; omega]
    exact hv
theorem wpList_first {ops : Array Oper} {rest : List Oper} {o : Oper} {a : Act} {w : World} {Q : Exit → Act → World → Prop} (N : Nat) (hgd : o.guard = none) (x : Operand) (ho : o.op = .call { callee := .builtin .append, args := #[.const (.slice none 0 0), x], argTypes := #[22, 22] })
    (src : Option Addr) (m c : Nat) (xs : List Value) (hx : a.eval x = .slice src m c) (hsn : src = none → m = 0 ∧ c = 0) (hl : xs.length = m * 16) (hcell : ∀ b, src = some b → ∀ j u, xs[j]? = some u → w.cell? (b.add j) = some u) (h1 : ∀ u ∈ xs, u.oneCell' = true) (hm : m ≤ 100) (hN : N ≤ w.heap.size)
    (h : ∀ v' w', w'.ownsRow N 35 16 v' m xs → w.grownBy w' none → wpList Try.prog ops Q rest (a.put o.dst v') w') : wpList Try.prog ops Q (o :: rest) a w := by
  obtain ⟨i0, hi, hz0, hz1, hz2⟩ := info_parts info_opz
  cases src with
  | none =>
    obtain ⟨rfl, rfl⟩ := hsn rfl
    have hxs : xs = [] := List.eq_nil_of_length_eq_zero (by rw [hl, Nat.zero_mul])
    subst hxs
    refine wpList_append_own_none hgd (.const (.slice none 0 0)) x _ ho N 35 i0 16 Try.underlying22 hi (.slice none 0 0) 0 [] rfl (World.ownsRow_nil _ _ _ _) hx ?_
    exact h _ _ (World.ownsRow_nil _ _ _ _) ⟨rfl, rfl, rfl, Nat.le_refl _, fun _ _ _ => rfl⟩
  | some b =>
    refine wpList_append_own_at _ hgd (.const (.slice none 0 0)) x _ ho N 35 i0 _ 16 240 Try.underlying22 hi hz0 hz1 hz2 rfl (by decide) (.slice none 0 0) 0 [] rfl (World.ownsRow_nil _ _ _ _) b m c xs hx hl (hcell b rfl) h1 (by unfold maxLen; omega) (by omega) hN ?_
    intro v' w' hown hg _ _
    refine h v' w' (by rwa [Nat.zero_add, List.nil_append] at hown) hg
/-- The acts that a law adds. -/
def askOp (d : Da.Dt) : Opn := ⟨2, 0, 0, d, dtNo, 0⟩
def asks (d0 d1 d2 : Da.Dt) : List Opn := [askOp d0, askOp d1, askOp d2]
theorem asks_at (d0 d1 d2 : Da.Dt) (k : Nat) (hk : k < 3) : (asks d0 d1 d2).take (k + 1) = (asks d0 d1 d2).take k ++ [askOp (pick3 d0 d1 d2 k)] := by
  have : k = 0 ∨ k = 1 ∨ k = 2 := by omega
  rcases this with rfl | rfl | rfl <;> rfl
theorem built_ask (d : Da.Dt) (x : Sx) : Try.prog.built 35 [(0, .int .i64 2), (3, .agg (sixL d x).toArray)] = some (opL (askOp d) x sxNo).toArray := by kernel_rfl
theorem run_bslAsk (w : World) (d : Da.Dt) (x : Sx) : (Instr.buildSlice 22 1 #[(0, .agg (opL (askOp d) x sxNo).toArray)]).run Try.prog w = .ok (.slice (some ⟨w.heap.size, 0, none⟩) 1 1) (w.alloc (.cells (opL (askOp d) x sxNo).toArray 35)) := by kernel_rfl
theorem wpList_ask {ops : Array Oper} {rest : List Oper} {o : Oper} {a : Act} {w : World} {Q : Exit → Act → World → Prop} (hgd : o.guard = none) (y : Operand) (d : Da.Dt) (x : Sx) (ho : o.op = .build 35 #[(0, .const (.int .i64 2)), (3, y)]) (hy : a.eval y = .agg (sixL d x).toArray)
    (h : wpList Try.prog ops Q rest (a.put o.dst (.agg (opL (askOp d) x sxNo).toArray)) w) : wpList Try.prog ops Q (o :: rest) a w :=
  wpList_plain hgd fun _ hK => by
    unfold Oper.wp
    rw [Ld.exec_build 35 #[(0, .const (.int .i64 2)), (3, y)] ho (opL (askOp d) x sxNo).toArray (by simp only [List.map_toArray, List.map_cons, List.map_nil, hy]; exact built_ask d x)]
    exact hK _ _ h
theorem wpList_bslAsk {ops : Array Oper} {rest : List Oper} {o : Oper} {a : Act} {w : World} {Q : Exit → Act → World → Prop} (hgd : o.guard = none) (y : Operand) (d : Da.Dt) (x : Sx) (ho : o.op = .buildSlice 22 1 #[(0, y)]) (hy : a.eval y = .agg (opL (askOp d) x sxNo).toArray)
    (h : wpList Try.prog ops Q rest (a.put o.dst (.slice (some ⟨w.heap.size, 0, none⟩) 1 1)) (w.alloc (.cells (opL (askOp d) x sxNo).toArray 35))) : wpList Try.prog ops Q (o :: rest) a w :=
  wpList_plain hgd fun _ hK => by
    unfold Oper.wp execOp
    simp only [ho, List.map_toArray, List.map_cons, List.map_nil, hy, Sem.run_bind, run_bslAsk, Result.andThen_ok]
    exact hK _ _ h
theorem below_grown {w w' : World} {N B n sz : Nat} {e : TypeId} {v : Value} {xs : List Value} (h : w.ownsRow N e sz v n xs) (hg : w.grownBy w' v.ownBlock) (hB : B ≤ N) (hs : B ≤ w.heap.size) : Below B w w' :=
  ⟨hg.os, hg.tape, hg.output, hg.size, fun g hlt => hg.block g (Nat.lt_of_lt_of_le hlt hs) (fun e => by
    rcases h.2 with ⟨rfl, _⟩ | ⟨g', cap, cur, rfl, hge, _⟩
    · cases e
    · injection e with e
      have e : g = g' := e
      omega)⟩
/-- What the loop that adds the acts keeps. -/
def AskIn (w : World) (n3 d3 : Array Value) (l : List Opn) (d0 d1 d2 : Da.Dt) (v i : Value) (wr : World) : Prop :=
  ∃ (k n : Nat) (va : Option Addr) (vc : Nat), k ≤ 3 ∧ v = .slice va n vc ∧ n = l.length + k ∧ i = .int .i64 (k : Int) ∧ AlIn w n3 d3 wr ∧ RowOps wr (w.heap.size + 2) w.heap.size v (l ++ (asks d0 d1 d2).take k)
theorem AlIn.nums {w W : World} {i0 i1 i2 : Int} {d3 : Array Value} (h : AlIn w #[.int .i64 i0, .int .i64 i1, .int .i64 i2] d3 W) : W.cell? ⟨w.heap.size, 0, none⟩ = some (.int .i64 i0) ∧ W.cell? ⟨w.heap.size, 1, none⟩ = some (.int .i64 i1) ∧ W.cell? ⟨w.heap.size, 2, none⟩ = some (.int .i64 i2) :=
  ⟨(h.2.1.cell 0).trans rfl, (h.2.1.cell 1).trans rfl, (h.2.1.cell 2).trans rfl⟩
theorem AlIn.dats {w W : World} {n3 : Array Value} {d0 d1 d2 : Da.Dt} {x0 x1 x2 : Sx} (h : AlIn w n3 (sixL d0 x0 ++ sixL d1 x1 ++ sixL d2 x2).toArray W) : Ld.At W (w.heap.size + 1) 0 (sixL d0 x0) ∧ Ld.At W (w.heap.size + 1) 6 (sixL d1 x1) ∧ Ld.At W (w.heap.size + 1) 12 (sixL d2 x2) :=
  ⟨at3 h.2.2 0 (by omega), at3 h.2.2 1 (by omega), at3 h.2.2 2 (by omega)⟩
theorem row_cap {w : World} {N sz n : Nat} {e : TypeId} {a : Option Addr} {c : Nat} {xs : List Value} (h : w.ownsRow N e sz (.slice a n c) n xs) : n ≤ c ∧ c ≤ maxLen := by
  rcases h.2 with ⟨h1, h0⟩ | ⟨g, cap, cur, h1, _, _, h4, h5, _⟩
  · injection h1 with _ _ h3
    subst h3
    exact ⟨by omega, by unfold maxLen; omega⟩
  · injection h1 with _ _ h3
    subst h3
    exact ⟨h4, h5⟩
theorem SmallIs.form {l : List Opn} {a : Option Addr} {c : Nat} {w w' : World} {e : Ending} (h : SmallIs l a l.length c w e w') : Below w.heap.size w w' ∧ ∃ s b, e = .returned (.tuple #[s, .bool b]) ∧ (b = true → s = .slice a (min l.length 60) c) := by
  obtain ⟨hb, ⟨_, rfl⟩ | ⟨_, rfl⟩⟩ := h
  · exact ⟨hb, _, _, rfl, fun _ => rfl⟩
  · exact ⟨hb, _, _, rfl, fun e => by cases e⟩
theorem same_e0 {a b : Int} (h : sameE a b = 0) : a = 0 ∧ b = 0 := by
  unfold sameE at h
  split at h
  · exact absurd h (by assumption)
  · exact ⟨by omega, h⟩
theorem same_b0 (z u : Seen) : sameB z u 0 0 = z.same u := rfl
theorem same_bE {z u : Seen} {a b : Int} (h : sameE a b ≠ 0) : sameB z u a b = false := by
  unfold sameE at h
  unfold sameB
  split
  · rfl
  · rw [if_neg (by assumption)] at h
    rw [if_pos h]
theorem same_later {T : Tab} {l : List Opn} {i j : Int} {x y : Da.Dt} {b : Bool} (hT : T.Ok) (hU : (actsT T l).Ok) (h : sameE (findE T i x) (findE T j y) = 0) (hb : sameB (findZ T i x) (findZ T j y) (findE T i x) (findE T j y) = b) :
    sameB (findZ (actsT T l) i x) (findZ (actsT T l) j y) (findE (actsT T l) i x) (findE (actsT T l) j y) = b ∧ sameE (findE (actsT T l) i x) (findE (actsT T l) j y) = 0 := by
  obtain ⟨h1, h2⟩ := same_e0 h
  obtain ⟨g1, g2⟩ := find_sub (sub_acts l T) hT hU h1
  obtain ⟨g3, g4⟩ := find_sub (sub_acts l T) hT hU h2
  rw [g1, g2, g3, g4]
  rw [h1, h2] at hb
  exact ⟨hb, rfl⟩
theorem same_back {T : Tab} {i j : Int} {x y : Da.Dt} {b c : Bool} {f : Int} (h : sameE (findE T i x) (findE T j y) = 0) (hb : sameB (findZ T i x) (findZ T j y) (findE T i x) (findE T j y) = b) (hc : sameB (findZ T j y) (findZ T i x) (findE T j y) (findE T i x) = c) (hf : sameE (findE T j y) (findE T i x) = f) : b = c ∧ f = 0 := by
  obtain ⟨h1, h2⟩ := same_e0 h
  rw [h1, h2] at hb hc hf
  rw [same_b0] at hb hc
  rw [← hb, ← hc]
  exact ⟨same_symm _ _, hf.symm⟩
theorem same_three {T : Tab} {i j k : Int} {x y z : Da.Dt} (h : sameE (findE T i x) (findE T j y) = 0) (h' : sameE (findE T j y) (findE T k z) = 0) (hb : sameB (findZ T i x) (findZ T j y) (findE T i x) (findE T j y) = true) (hc : sameB (findZ T j y) (findZ T k z) (findE T j y) (findE T k z) = true) : sameB (findZ T i x) (findZ T k z) (findE T i x) (findE T k z) = true := by
  obtain ⟨h1, h2⟩ := same_e0 h
  obtain ⟨_, h3⟩ := same_e0 h'
  rw [h1, h2, same_b0] at hb
  rw [h2, h3, same_b0] at hc
  rw [h1, h3, same_b0]
  exact same_trans hb hc
/-- What the loop over what is made later keeps. -/
def MoreIn (w : World) (n3 d3 : Array Value) (tb : Nat) (T : Tab) (l2 : List Opn) (n : Nat) (i : Value) (wr : World) : Prop :=
  ∃ k : Nat, k ≤ n ∧ i = .int .i64 (k : Int) ∧ AlIn w n3 d3 wr ∧ TabIn wr tb (actsT T (l2.take k)) (fun b => w.heap.size + 2 ≤ b)
set_option maxRecDepth 100000 in
set_option maxHeartbeats 32000000 in
theorem alike_walk (l l2 : List Opn) (a a2 : Option Addr) (c c2 : Nat) (i0 i1 i2 : Int) (d0 d1 d2 : Da.Dt) (x0 x1 x2 : Sx) (w : World) (hc : l.length ≤ c) (hcm : c ≤ maxLen) (han : a = none → c = 0) (ho : IsOps w (Da.Lo w.heap.size) a l)
    (hc2 : l2.length ≤ c2) (hcm2 : c2 ≤ maxLen) (ho2 : IsOps w (Da.Lo w.heap.size) a2 l2) (hd0 : Da.IsDt w (Da.Lo w.heap.size) d0 (.agg (sixL d0 x0).toArray)) (hd1 : Da.IsDt w (Da.Lo w.heap.size) d1 (.agg (sixL d1 x1).toArray)) (hd2 : Da.IsDt w (Da.Lo w.heap.size) d2 (.agg (sixL d2 x2).toArray)) :
    Calls Try.prog 6 #[.slice a l.length c, .slice a2 l2.length c2, .agg #[.int .i64 i0, .int .i64 i1, .int .i64 i2], .agg (sixL d0 x0 ++ sixL d1 x1 ++ sixL d2 x2).toArray] w fun e w' => e = .returned (.bool true) ∧ Below w.heap.size w w' := by
  obtain ⟨z0, hi, hz0, hz1, hz2⟩ := info_parts info_opz
  obtain ⟨zz, hzd⟩ : ∃ zz, Value.agg opZ = zz := ⟨_, rfl⟩
  have hzz : zz.cells.size = 16 := by rw [← hzd]; rfl
  rw [hzd] at hz0
  clear hzd
  obtain ⟨n3, hn3⟩ : ∃ n3, #[Value.int .i64 i0, .int .i64 i1, .int .i64 i2] = n3 := ⟨_, rfl⟩
  obtain ⟨L3, hd3⟩ : ∃ L3, sixL d0 x0 ++ sixL d1 x1 ++ sixL d2 x2 = L3 := ⟨_, rfl⟩
  obtain ⟨m, hm⟩ : ∃ m, min l.length 40 = m := ⟨_, rfl⟩
  have hmi : min (l.length : Int) 40 = (m : Int) := by omega
  have hm40 : m ≤ 40 := by omega
  have hml : m ≤ l.length := by omega
  have hrun : ∀ w, (Instr.slice 22 (.slice a l.length c) none (some (.int .i64 (m : Int))) none).run Try.prog w = .ok (.slice a m c) w := run_pre a _ c _ (by omega)
  have hlm : (l.take m).length = m := by rw [List.length_take]; omega
  have HLM := Lib.hid hlm
  have hsrc : ∃ cs, OpsD w (Da.Lo w.heap.size) cs (l.take m) ∧ (m = 0 ∨ ∃ b off, a = some ⟨b, off, none⟩ ∧ b < w.heap.size ∧ ∀ j u, cs.flatten[j]? = some u → w.cell? ⟨b, off + j, none⟩ = some u) := by
    by_cases h0 : m = 0
    · subst h0; exact ⟨[], by rw [List.take_zero]; exact .nil, .inl rfl⟩
    · obtain ⟨g, off, rfl, hlo, _⟩ := ho 0 _ (List.getElem?_eq_getElem (show 0 < l.length by omega))
      obtain ⟨cs, h1, h2⟩ := ops_cells (w := w) (Q := Da.Lo w.heap.size) (b := g) (off := off) (l.take m) 0 (fun i o hi => by
        have hi' : l[i]? = some o := by
          rw [List.getElem?_take] at hi
          split at hi
          · exact hi
          · cases hi
        obtain ⟨g', off', h3, _, h4⟩ := ho i o hi'
        injection h3 with h3
        injection h3 with h3 h5
        subst h3 h5
        rw [Nat.zero_add]; exact h4)
      exact ⟨cs, h1, .inr ⟨g, off, rfl, hlo, fun j u hu => by have := h2 j u hu; rwa [Nat.zero_mul, Nat.add_zero] at this⟩⟩
  obtain ⟨cs, hcs, hsrc⟩ := hsrc
  have HCS := Lib.hid hcs
  have HSRC := Lib.hid hsrc
  have HO := Lib.hid (And.intro ho ho2)
  have HD := Lib.hid (And.intro hd0 (And.intro hd1 hd2))
  have HN3 := Lib.hid hn3
  have HD3 := Lib.hid hd3
  have HC := Lib.hid (And.intro hc (And.intro hcm (And.intro hc2 (And.intro hcm2 han))))
  rw [hn3, hd3]
  clear hm hcs hsrc ho ho2 hd0 hd1 hd2 hn3 hd3 hc hcm hc2 hcm2 han hlm
  go_enter Try.func6, Try.ntmps6
  obtain ⟨n1, n2⟩ := two_new w n3 L3.toArray 65 66
  have hbX := bel_two w (.cells n3 65) (.cells L3.toArray 66)
  go_upto_region 1 with (fail)
  generalize hX : (World.alloc (World.alloc w _) _) = X
  have hal : AlIn w n3 L3.toArray X := by rw [← hX]; exact ⟨hbX, n1, n2⟩
  have hsX : X.heap.size = w.heap.size + 2 := by rw [← hX]; simp
  clear hX n1 n2 hbX
  have HAL := Lib.hid hal
  have HSX := Lib.hid hsX
  have k1 : cs.flatten.length = m * 16 := by rw [HCS.out.flat, HLM.out]
  have k2 : a = none → m = 0 ∧ c = 0 := fun e => by
    have h1 := HC.out.2.2.2.2 e
    have h2 := HC.out.1
    omega
  have k3 : ∀ b, a = some b → ∀ j u, cs.flatten[j]? = some u → X.cell? (b.add j) = some u := fun b hb j u hu => by
    rcases HSRC.out with h0 | ⟨b', off, h1, hlt, h2⟩
    · rw [List.getElem?_eq_none (by rw [k1, h0]; omega)] at hu; cases hu
    · rw [h1] at hb
      injection hb with hb
      subst hb
      rw [Ld.add_at]
      have h3 := h2 j u hu
      exact (HAL.out.1.cell (p := ⟨b', off + j, none⟩) hlt).trans h3
  have K1 := Lib.hid (And.intro k1 (And.intro k2 k3))
  clear hal hsX k1 k2 k3
  go_upto_region 2 with (refine wpList_first (w.heap.size + 2) rfl (.tmp 32) rfl a m c cs.flatten rfl K1.out.2.1 K1.out.1 K1.out.2.2 HCS.out.one (Nat.le_trans hm40 (of_decide_eq_true rfl)) (Nat.le_of_eq HSX.out.symm) ?_; intro v1 w1 hown1 hg1; have HE1 := Lib.hid (And.intro hown1 hg1); clear hown1 hg1)
  have hz : ∀ v1 w1, w1.ownsRow (w.heap.size + 2) 35 16 v1 m cs.flatten ∧ X.grownBy w1 none → Below (w.heap.size + 2) X w1 := fun v1 w1 h => ⟨h.2.os, h.2.tape, h.2.output, h.2.size, fun g hg => h.2.block g (by rw [HSX.out]; exact hg) (fun e => by cases e)⟩
  have hB1 := hz _ _ HE1.out
  have HAL1 := Lib.hid (HAL.out.chg (O := fun _ => True) hB1)
  have HR1 : Hid (RowOps w1 (w.heap.size + 2) w.heap.size v1 (l.take m)) := Lib.hid ⟨cs, by rw [HLM.out]; exact HE1.out.1, HCS.out.low (HAL1.out.1)⟩
  have hs1 : w.heap.size + 2 ≤ w1.heap.size := by have := hB1.size; rw [HSX.out] at this; exact this
  clear hz hB1 HE1 K1 hrun
  have hat0 : Ld.At w1 (w.heap.size + 1) 0 L3 := Ld.At.of_blk HAL1.out.2.2
  have hL3 : L3.length = 18 := by rw [← HD3.out]; rfl
  have hix : ∀ k : Nat, k < 3 → ∀ w, (Instr.index 66 (.agg L3.toArray) (.int .i64 (k : Int))).run Try.prog w = .ok (.agg (sixL (pick3 d0 d1 d2 k) (pick3 x0 x1 x2 k)).toArray) w := fun k hk w => by rw [← HD3.out]; exact idx3 d0 d1 d2 x0 x1 x2 k hk w
  have hinf : (Try.prog.info? 66).map (·.size) = some L3.length := by rw [hL3]; kernel_rfl
  have HAT0 := Lib.hid (And.intro hat0 (And.intro hinf hix))
  clear hat0 hL3 hinf hix hs1
  go_upto_region 3 with (refine load_list (.tmp 7) 66 (w.heap.size + 1) 0 L3 _ rfl rfl rfl HAT0.out.1 Try.underlying66 rfl HAT0.out.2.1 ?_)
  have HIX := Lib.hid HAT0.out.2.2
  clear HAT0
  go_loopw [9, 35] (fun v i wr => AskIn w n3 L3.toArray (l.take m) d0 d1 d2 v i wr) (fun _ i _ => 3 - (intOf i).toNat)
  case atStart =>
    obtain ⟨va, vc, hv⟩ := slice_of HR1.out.choose_spec.1
    exact ⟨0, _, va, vc, Nat.zero_le _, hv, rfl, rfl, HAL1.out, by rw [List.take_zero, List.append_nil]; exact HR1.out⟩
  case round =>
    obtain ⟨k, n, va, vc, hk, rfl, hn, rfl, hal, hrow⟩ := hrel
    rw [HLM.out] at hn
    have HN := Lib.hid hn
    clear hn
    have HALr := Lib.hid hal
    by_cases hlk : k < 3
    · have dl : decide ((k : Int) < 3) = true := decide_eq_true (by omega)
      have hix := HIX.out k hlk
      have hIs : Da.IsDt w (Da.Lo w.heap.size) (pick3 d0 d1 d2 k) (.agg (sixL (pick3 d0 d1 d2 k) (pick3 x0 x1 x2 k)).toArray) := by
        have : k = 0 ∨ k = 1 ∨ k = 2 := by omega
        rcases this with rfl | rfl | rfl
        · exact HD.out.1
        · exact HD.out.2.1
        · exact HD.out.2.2
      have HTK := Lib.hid (asks_at d0 d1 d2 k hlk)
      obtain ⟨l', hl'⟩ : ∃ l', l.take m ++ (asks d0 d1 d2).take k = l' := ⟨_, rfl⟩
      have HL' := Lib.hid hl'
      have HLEN : Hid (l'.length = m + k) := Lib.hid (by rw [← hl', List.length_append, HLM.out, List.length_take]; show m + min k 3 = _; omega)
      rw [hl'] at hrow
      generalize pick3 d0 d1 d2 k = d at hix hIs HTK
      generalize pick3 x0 x1 x2 k = x at hix hIs
      have HIS := Lib.hid hIs
      have HROW := Lib.hid hrow
      clear hal hl' hIs hrow
      go_upto_region 5 with (first | (refine wpList_store_row rfl 33 (.tmp 11) (.tmp 37) rfl wr.heap.size (sixL d x).toArray rfl rfl 33 dtZ (heap_alloc_new wr _) info_dat6 rfl (sixL_one _ _) ?_))
      generalize hX4 : (World.setRow (World.alloc wr _) wr.heap.size (sixL d x).toArray) = W4
      have hb4 : Below wr.heap.size wr W4 := by rw [← hX4]; exact bel_row ((Below.refl _ _).alloc (Nat.le_refl _) _) _ _ (Nat.le_refl _)
      have hz4 : Da.Blk W4 wr.heap.size 33 (sixL d x).toArray := by rw [← hX4]; exact setRow_heap _ _ dtZ _ _ _ (heap_alloc_new wr _)
      have hszr : w.heap.size + 2 ≤ wr.heap.size := Nat.lt_of_succ_le (Array.getElem?_eq_some_iff.1 HALr.out.2.2).1
      have hs4 := hb4.size
      have HAL4 := Lib.hid (HALr.out.bel hb4)
      have HROW4 := Lib.hid (HROW.out.bel (Nat.le_trans (Nat.le_add_right _ 2) hszr) hb4)
      have HAT4 : Hid (Ld.At W4 wr.heap.size 0 (sixL d x)) := Lib.hid (Ld.At.of_blk hz4)
      clear hX4 hb4 hz4 hix HIX
      obtain ⟨cs', hown4, hcs4⟩ := HROW4.out
      have hown5 : (W4.alloc (.cells (opL (askOp d) x sxNo).toArray 35)).ownsRow (w.heap.size + 2) 35 16 (.slice va n vc) l'.length cs'.flatten := hown4.alloc _
      have HCS4 := Lib.hid hcs4
      have hbA : Below W4.heap.size W4 (W4.alloc (.cells (opL (askOp d) x sxNo).toArray 35)) := (Below.refl _ _).alloc (Nat.le_refl _) _
      have HBA := Lib.hid hbA
      have N1 : Hid (∀ j u, (opL (askOp d) x sxNo)[j]? = some u → (W4.alloc (.cells (opL (askOp d) x sxNo).toArray 35)).cell? ((⟨W4.heap.size, 0, none⟩ : Addr).add j) = some u) := Lib.hid (fun j u hu => by
        rw [Ld.add_at, Nat.zero_add, cell_of_row _ _ _ _ _ _ (heap_alloc_new W4 _)]
        simpa using hu)
      have N2 : Hid (∀ u ∈ opL (askOp d) x sxNo, u.oneCell' = true) := Lib.hid (fun u hu => by
        have h := opL_one (askOp d) x sxNo
        rw [List.all_toArray, List.all_eq_true] at h
        exact h u hu)
      have N3 : Hid (l'.length + 1 ≤ maxLen ∧ (l'.length + 1) * 240 ≤ 140737488355328) := Lib.hid (by rw [HLEN.out]; unfold maxLen; omega)
      have N4 : Hid (w.heap.size + 2 ≤ (W4.alloc (.cells (opL (askOp d) x sxNo).toArray 35)).heap.size) := Lib.hid (Nat.le_trans (Nat.le_trans hszr hs4) hbA.size)
      have hs4' := hs4
      clear hown4 hcs4 hbA hs4
      go_upto_region 6 with (first | (refine load_list (.tmp 11) 33 wr.heap.size 0 (sixL d x) _ rfl rfl rfl HAT4.out Try.underlying33 rfl info_dat6 ?_) | (refine wpList_ask rfl (.tmp 39) d x rfl rfl ?_) | (refine wpList_bslAsk rfl (.tmp 40) d x rfl rfl ?_) | (at_builtin; refine wpList_append_own_at _ rfl (.tmp 38) (.tmp 41) _ rfl (w.heap.size + 2) 35 z0 _ 16 240 Try.underlying22 hi hz0 hz1 hz2 hzz (by decide) _ l'.length cs'.flatten rfl hown5 ⟨W4.heap.size, 0, none⟩ 1 1 (opL (askOp d) x sxNo) rfl rfl N1.out N2.out N3.out.1 N3.out.2 N4.out ?_; intro v6 w6 hown6 hg6 hn6 hat6; have HE6 := Lib.hid (And.intro hown6 hg6); clear hown6 hg6 hn6 hat6))
      have hb6 : Below (w.heap.size + 2) (W4.alloc (.cells (opL (askOp d) x sxNo).toArray 35)) w6 := below_grown hown5 HE6.out.2 (Nat.le_refl _) N4.out
      have hb46 : Below (w.heap.size + 2) W4 w6 := (HBA.out.mono (Nat.le_trans hszr (Nat.le_trans (Nat.le_refl _) hs4'))).trans hb6
      obtain ⟨va', vc', rfl⟩ := slice_of HE6.out.1
      have HB46 := Lib.hid hb46
      clear hb6 hb46
      go_wp2_with fail
      go_roundw
      case rel =>
        refine ⟨k + 1, _, va', vc', hlk, rfl, by rw [HLEN.out, HLM.out]; omega, by go_num, HAL4.out.chg (O := fun _ => True) HB46.out, ?_⟩
        rw [HTK.out, ← List.append_assoc, HL'.out]
        exact RowOps.snoc (v := .slice va n vc) HCS4.out ⟨x, sxNo, rfl, (HIS.out.below HAL4.out.1), dt_no _ _, (show (Lit.int .i64 0).wf = true by decide)⟩ (HB46.out.mono (Nat.le_add_right _ 2)) HE6.out.1
      case measure => simp [intOf]; omega
    · obtain rfl : k = 3 := by omega
      have dl : decide (((3 : Nat) : Int) < 3) = false := rfl
      have hsr : w.heap.size + 2 ≤ wr.heap.size := Nat.lt_of_succ_le (Array.getElem?_eq_some_iff.1 HALr.out.2.2).1
      obtain ⟨U, hU⟩ : ∃ U, l.take m ++ (asks d0 d1 d2).take 3 = U := ⟨_, rfl⟩
      rw [hU] at hrow
      have hUl : U.length = m + 3 := by rw [← hU, List.length_append, HLM.out]; rfl
      have hn := HN.out
      obtain rfl : n = U.length := by rw [hn, hUl]
      have HUL := Lib.hid hUl
      obtain ⟨hcap1, hcap2⟩ := row_cap hrow.choose_spec.1
      have hiu := hrow.isOps (Nat.le_trans (Nat.le_add_right _ 2) hsr)
      have HIU := Lib.hid hiu
      have HCAP := Lib.hid (And.intro hcap1 (And.intro hcap2 hsr))
      clear hU hUl hn hrow hal hcap1 hcap2 hiu HAL HAL1 HR1 HCS HSRC HIX hsr
      go_wp2_with fail
      refine (small_any U va vc wr.heap.size wr HCAP.out.1 HCAP.out.2.1 (Nat.le_refl _) HIU.out).mono ?_
      intro e w7 hsm
      obtain ⟨hb7, s7, b7, rfl, hs7⟩ := hsm.form
      have HAL7 := Lib.hid (HALr.out.bel hb7)
      have HB7 := Lib.hid hb7
      have HS7 := Lib.hid hs7
      have HO7 := Lib.hid (HO.out.2.below (HAL7.out.1))
      clear hsm hb7 hs7
      go_wp2_with fail
      refine (small_any l2 a2 c2 w.heap.size w7 HC.out.2.2.1 HC.out.2.2.2.1 HAL7.out.1.size HO7.out).mono ?_
      intro e w8 hsm
      obtain ⟨hb8, s8, b8, rfl, hs8⟩ := hsm.form
      have HAL8 := Lib.hid (HAL7.out.bel hb8)
      have HB8 := Lib.hid (HB7.out.trans (hb8.mono HB7.out.size))
      have HS8 := Lib.hid hs8
      clear hsm hb8 hs8
      go_wp2_with fail
      refine (awake_any w8).mono ?_
      rintro e w9 ⟨rfl, hb9⟩
      have HAL9 := Lib.hid (HAL8.out.bel hb9)
      have HB9 := Lib.hid (HB8.out.trans (hb9.mono HB8.out.size))
      clear hb9
      cases b7 with
      | false =>
        go_wp2_with fail
        refine (awake_any w9).mono ?_
        rintro e w10 ⟨rfl, hb10⟩
        have HAL10 := Lib.hid (HAL9.out.bel hb10)
        clear hb10
        go_wp2_with fail
        go_ret
        exact ⟨rfl, HAL10.out.1⟩
      | true =>
        cases b8 with
        | false =>
          go_wp2_with fail
          refine (awake_any w9).mono ?_
          rintro e w10 ⟨rfl, hb10⟩
          have HAL10 := Lib.hid (HAL9.out.bel hb10)
          clear hb10
          go_wp2_with fail
          go_ret
          exact ⟨rfl, HAL10.out.1⟩
        | true =>
          have hs7 := HS7.out rfl
          rw [show min U.length 60 = U.length by rw [HUL.out]; omega] at hs7
          obtain ⟨m2, hm2⟩ : ∃ m2, min l2.length 60 = m2 := ⟨_, rfl⟩
          have hs8 := HS8.out rfl
          rw [hm2] at hs8
          have HM2 := Lib.hid hm2
          have hm60 : m2 ≤ 60 := by omega
          subst hs7 hs8
          clear hm2
          go_wp2_with fail
          have hiu9 : IsOps w9 (Da.Lo wr.heap.size) va U := HIU.out.below HB9.out
          have HS9 := Lib.hid (show w.heap.size + 2 ≤ w9.heap.size from Nat.le_trans HCAP.out.2.2 HB9.out.size)
          go_wp2_with fail
          refine (made_acts U va vc wr.heap.size w9 HB9.out.size (by rw [HUL.out]; unfold maxLen; omega) hiu9).mono ?_
          rintro e w10 ⟨tb, rfl, ht10, hb10⟩
          have HAL10 := Lib.hid (HAL9.out.bel hb10)
          have HT10 := Lib.hid (ht10.more (fun b hb => show w.heap.size + 2 ≤ b from Nat.le_trans HS9.out hb))
          have hs10 : w.heap.size + 2 ≤ w10.heap.size := Nat.le_trans HS9.out hb10.size
          clear hiu9 ht10 hb10 HAL9 HAL8 HAL7 HALr HS7 HS8 HB7 HB8 HB9 HO7 HIU
          generalize hT : actsT Tab.new U = T at HT10
          clear hT
          have HS10 := Lib.hid hs10
          clear hs10
          have hdat11 := HAL10.out
          rw [← HD3.out] at hdat11
          have A110 := Lib.hid (show Ld.At w10 (w.heap.size + 1) 0 (sixL d0 x0) from hdat11.dats.1)
          have A111 := Lib.hid (show Ld.At w10 (w.heap.size + 1) 6 (sixL d1 x1) from hdat11.dats.2.1)
          have hnum11 := HAL10.out
          rw [← HN3.out] at hnum11
          obtain ⟨q0, q1, q2⟩ := hnum11.nums
          clear hdat11 hnum11
          go_wp2_with (first | (refine load_list (.tmp 73) 33 (w.heap.size + 1) 0 (sixL d0 x0) _ rfl rfl rfl A110.out Try.underlying33 rfl info_dat6 ?_) | (refine load_list (.tmp 77) 33 (w.heap.size + 1) 6 (sixL d1 x1) _ rfl rfl rfl A111.out Try.underlying33 rfl info_dat6 ?_))
          clear q0 q1 q2 A110 A111
          refine (same_all tb T _ i0 i1 d0 d1 _ _ w.heap.size w10 HAL10.out.1.size (HD.out.1.below HAL10.out.1) (HD.out.2.1.below HAL10.out.1) HT10.out).mono ?_
          rintro e w11 ⟨rfl, hb11⟩
          have HAL11 := Lib.hid (HAL10.out.bel hb11)
          have HT11 := Lib.hid (HT10.out.bel hb11)
          clear hb11
          generalize hqb : sameB (findZ T i0 d0) (findZ T i1 d1) (findE T i0 d0) (findE T i1 d1) = b01
          generalize hqe : sameE (findE T i0 d0) (findE T i1 d1) = e01
          have HQ01 := Lib.hid (And.intro hqb hqe)
          clear hqb hqe HT10 HAL10
          have hdat12 := HAL11.out
          rw [← HD3.out] at hdat12
          have A120 := Lib.hid (show Ld.At w11 (w.heap.size + 1) 6 (sixL d1 x1) from hdat12.dats.2.1)
          have A121 := Lib.hid (show Ld.At w11 (w.heap.size + 1) 12 (sixL d2 x2) from hdat12.dats.2.2)
          have hnum12 := HAL11.out
          rw [← HN3.out] at hnum12
          obtain ⟨q0, q1, q2⟩ := hnum12.nums
          clear hdat12 hnum12
          go_wp2_with (first | (refine load_list (.tmp 86) 33 (w.heap.size + 1) 6 (sixL d1 x1) _ rfl rfl rfl A120.out Try.underlying33 rfl info_dat6 ?_) | (refine load_list (.tmp 90) 33 (w.heap.size + 1) 12 (sixL d2 x2) _ rfl rfl rfl A121.out Try.underlying33 rfl info_dat6 ?_))
          clear q0 q1 q2 A120 A121
          refine (same_all tb T _ i1 i2 d1 d2 _ _ w.heap.size w11 HAL11.out.1.size (HD.out.2.1.below HAL11.out.1) (HD.out.2.2.below HAL11.out.1) HT11.out).mono ?_
          rintro e w12 ⟨rfl, hb12⟩
          have HAL12 := Lib.hid (HAL11.out.bel hb12)
          have HT12 := Lib.hid (HT11.out.bel hb12)
          clear hb12
          generalize hqb : sameB (findZ T i1 d1) (findZ T i2 d2) (findE T i1 d1) (findE T i2 d2) = b12
          generalize hqe : sameE (findE T i1 d1) (findE T i2 d2) = e12
          have HQ12 := Lib.hid (And.intro hqb hqe)
          clear hqb hqe HT11 HAL11
          have hdat13 := HAL12.out
          rw [← HD3.out] at hdat13
          have A130 := Lib.hid (show Ld.At w12 (w.heap.size + 1) 0 (sixL d0 x0) from hdat13.dats.1)
          have A131 := Lib.hid (show Ld.At w12 (w.heap.size + 1) 12 (sixL d2 x2) from hdat13.dats.2.2)
          have hnum13 := HAL12.out
          rw [← HN3.out] at hnum13
          obtain ⟨q0, q1, q2⟩ := hnum13.nums
          clear hdat13 hnum13
          go_wp2_with (first | (refine load_list (.tmp 99) 33 (w.heap.size + 1) 0 (sixL d0 x0) _ rfl rfl rfl A130.out Try.underlying33 rfl info_dat6 ?_) | (refine load_list (.tmp 103) 33 (w.heap.size + 1) 12 (sixL d2 x2) _ rfl rfl rfl A131.out Try.underlying33 rfl info_dat6 ?_))
          clear q0 q1 q2 A130 A131
          refine (same_all tb T _ i0 i2 d0 d2 _ _ w.heap.size w12 HAL12.out.1.size (HD.out.1.below HAL12.out.1) (HD.out.2.2.below HAL12.out.1) HT12.out).mono ?_
          rintro e w13 ⟨rfl, hb13⟩
          have HAL13 := Lib.hid (HAL12.out.bel hb13)
          have HT13 := Lib.hid (HT12.out.bel hb13)
          clear hb13
          generalize hqb : sameB (findZ T i0 d0) (findZ T i2 d2) (findE T i0 d0) (findE T i2 d2) = b02
          generalize hqe : sameE (findE T i0 d0) (findE T i2 d2) = e02
          have HQ02 := Lib.hid (And.intro hqb hqe)
          clear hqb hqe HT12 HAL12
          have hdat14 := HAL13.out
          rw [← HD3.out] at hdat14
          have A140 := Lib.hid (show Ld.At w13 (w.heap.size + 1) 6 (sixL d1 x1) from hdat14.dats.2.1)
          have A141 := Lib.hid (show Ld.At w13 (w.heap.size + 1) 0 (sixL d0 x0) from hdat14.dats.1)
          have hnum14 := HAL13.out
          rw [← HN3.out] at hnum14
          obtain ⟨q0, q1, q2⟩ := hnum14.nums
          clear hdat14 hnum14
          go_wp2_with (first | (refine load_list (.tmp 112) 33 (w.heap.size + 1) 6 (sixL d1 x1) _ rfl rfl rfl A140.out Try.underlying33 rfl info_dat6 ?_) | (refine load_list (.tmp 116) 33 (w.heap.size + 1) 0 (sixL d0 x0) _ rfl rfl rfl A141.out Try.underlying33 rfl info_dat6 ?_))
          clear q0 q1 q2 A140 A141
          refine (same_all tb T _ i1 i0 d1 d0 _ _ w.heap.size w13 HAL13.out.1.size (HD.out.2.1.below HAL13.out.1) (HD.out.1.below HAL13.out.1) HT13.out).mono ?_
          rintro e w14 ⟨rfl, hb14⟩
          have HAL14 := Lib.hid (HAL13.out.bel hb14)
          have HT14 := Lib.hid (HT13.out.bel hb14)
          clear hb14
          generalize hqb : sameB (findZ T i1 d1) (findZ T i0 d0) (findE T i1 d1) (findE T i0 d0) = b10
          generalize hqe : sameE (findE T i1 d1) (findE T i0 d0) = e10
          have HQ10 := Lib.hid (And.intro hqb hqe)
          clear hqb hqe HT13 HAL13
          by_cases h01 : e01 = 0
          · subst h01
            by_cases h12 : e12 = 0
            · subst h12
              by_cases h02 : e02 = 0
              · subst h02
                obtain ⟨hbk1, hbk2⟩ := same_back HQ01.out.2 HQ01.out.1 HQ10.out.1 HQ10.out.2
                have hth := fun (h : b01 = true) (h2 : b12 = true) => same_three HQ01.out.2 HQ12.out.2 (HQ01.out.1.trans h) (HQ12.out.1.trans h2)
                rw [HQ02.out.1] at hth
                have HTH := Lib.hid hth
                subst hbk1 hbk2
                clear hth
                cases b01 with
                | false =>
                  go_wp2_with fail
                  go_loopw [156] (fun i wr => MoreIn w n3 L3.toArray tb T l2 m2 i wr) (fun i _ => m2 - (intOf i).toNat)
                  case atStart => exact ⟨0, Nat.zero_le _, rfl, HAL14.out, HT14.out⟩
                  case round =>
                    obtain ⟨k, hk, rfl, hal, htab⟩ := hrel
                    have HAL20 := Lib.hid hal
                    have HT20 := Lib.hid htab
                    by_cases hlk : k < m2
                    · have dl : decide ((k : Int) < (m2 : Int)) = true := decide_eq_true (by omega)
                      have i0' : (0 : Int) ≤ (k : Int) := Int.natCast_nonneg _
                      have i1' : (k : Int) < (m2 : Int) := by omega
                      obtain ⟨o, ho⟩ : ∃ o, l2[k]? = some o := ⟨l2[k]'(by have := HM2.out; omega), List.getElem?_eq_getElem _⟩
                      obtain ⟨g, off, rfl, hg, x, y, hat, hid, hnd, hwn⟩ := (HO.out.2.below hal.1) k o ho
                      have HAT := Lib.hid hat
                      have HID := Lib.hid hid
                      have HWN := Lib.hid hwn
                      have HST := Lib.hid (actsT_take (T := T) ho)
                      have hszr : w.heap.size + 2 ≤ wr.heap.size := Nat.lt_of_succ_le (Array.getElem?_eq_some_iff.1 hal.2.2).1
                      have HSZ := Lib.hid hszr
                      clear hat hid hnd hwn ho htab hal hszr
                      go_upto_region 25 with (first | (refine load_list (.tmp 158) 35 g (off + k * 16) (opL o x y) _ rfl rfl rfl HAT.out Try.underlying35 rfl info_op ?_) | (refine wpList_store_row rfl 35 (.tmp 26) (.tmp 159) rfl wr.heap.size (opL o x y).toArray rfl rfl 35 opZ (heap_alloc_new wr _) info_op rfl (opL_one _ _ _) ?_))
                      generalize hX4 : (World.setRow (World.alloc wr _) wr.heap.size (opL o x y).toArray) = W4
                      have hb4 : Below wr.heap.size wr W4 := by rw [← hX4]; exact bel_row ((Below.refl _ _).alloc (Nat.le_refl _) _) _ _ (Nat.le_refl _)
                      have hz4 : Da.Blk W4 wr.heap.size 35 (opL o x y).toArray := by rw [← hX4]; exact setRow_heap _ _ opZ _ _ _ (heap_alloc_new wr _)
                      have HAL24 := Lib.hid (HAL20.out.bel hb4)
                      have HT24 := Lib.hid (HT20.out.bel hb4)
                      have HID4 := Lib.hid (HID.out.below (hb4.mono (Nat.le_trans (Nat.le_add_right _ 2) HSZ.out)))
                      have hs4 : w.heap.size + 2 ≤ W4.heap.size := Nat.le_trans HSZ.out hb4.size
                      have HS4 := Lib.hid hs4
                      have c0 : W4.cell? ⟨wr.heap.size, 0, none⟩ = some (.int .i64 o.k) := (hz4.cell 0).trans rfl
                      have c1 : W4.cell? ⟨wr.heap.size, 1, none⟩ = some (.int .i64 o.s) := (hz4.cell 1).trans rfl
                      have c15 : W4.cell? ⟨wr.heap.size, 15, none⟩ = some (.int .i64 o.n) := (hz4.cell 15).trans rfl
                      have HZ4 := Lib.hid hz4
                      clear hX4 hb4 hz4 hs4
                      by_cases hk0 : o.k = 0
                      · have d0' : (o.k == 0) = true := by rw [hk0]; rfl
                        have HK := Lib.hid hk0
                        clear hk0
                        go_wp2_with (refine load_list (.tmp 167) 33 wr.heap.size 3 (sixL o.id x) _ rfl rfl rfl (at_id HZ4.out) Try.underlying33 rfl info_dat6 ?_)
                        refine (ext_all tb (actsT T (l2.take k)) _ o.s o.n o.id _ w.heap.size W4 HID4.out (Nat.le_trans (Nat.le_add_right _ 2) HS4.out) HT24.out HWN.out).mono ?_
                        rintro e w25 ⟨rfl, h5, hc5⟩
                        have H5 := Lib.hid (h5.step HS4.out)
                        have HAL25 := Lib.hid (HAL24.out.chg (O := fun _ => True) (hc5.to_below HS4.out (fun j hj => hj)))
                        clear h5 hc5
                        go_wp2_with fail
                        go_roundw
                        case rel => exact ⟨k + 1, hlk, by go_num, HAL25.out, by rw [HST.out, stepT, if_pos HK.out]; exact H5.out⟩
                        case measure => simp [intOf]; omega
                      · have d0' : (o.k == 0) = false := by rw [beq_eq_false_iff_ne]; exact hk0
                        by_cases hk1 : o.k = 1
                        · have d1' : (o.k == 1) = true := by rw [hk1]; rfl
                          have HK := Lib.hid (And.intro hk0 hk1)
                          clear hk0 hk1
                          go_wp2_with fail
                          refine (mark_all tb (actsT T (l2.take k)) _ o.s W4 HT24.out).mono ?_
                          rintro e w25 ⟨rfl, h5, hc5⟩
                          have H5 := Lib.hid (h5.step HS4.out)
                          have HAL25 := Lib.hid (HAL24.out.chg (O := fun _ => True) (hc5.to_below HS4.out (fun j hj => hj)))
                          clear h5 hc5
                          go_wp2_with fail
                          go_roundw
                          case rel => exact ⟨k + 1, hlk, by go_num, HAL25.out, by rw [HST.out, stepT, if_neg HK.out.1, if_pos HK.out.2]; exact H5.out⟩
                          case measure => simp [intOf]; omega
                        · have d1' : (o.k == 1) = false := by rw [beq_eq_false_iff_ne]; exact hk1
                          have HK := Lib.hid (And.intro hk0 hk1)
                          clear hk0 hk1
                          go_wp2_with fail
                          go_roundw
                          case rel => exact ⟨k + 1, hlk, by go_num, HAL24.out, by rw [HST.out, stepT, if_neg HK.out.1, if_neg HK.out.2]; exact HT24.out⟩
                          case measure => simp [intOf]; omega
                    · have dl : decide ((k : Int) < (m2 : Int)) = false := decide_eq_false (by omega)
                      obtain rfl : k = m2 := by omega
                      obtain ⟨w30, hw30⟩ : ∃ w30 : World, w30 = wr := ⟨_, rfl⟩
                      subst hw30
                      have HAL30 := Lib.hid hal
                      have HT30 := Lib.hid htab
                      clear hal htab HAL20 HT20
                      obtain ⟨hl1, hl2⟩ := same_later (T := T) (l := l2.take k) HT14.out.ok HT30.out.ok HQ01.out.2 HQ01.out.1
                      have HL1 := Lib.hid (And.intro hl1 hl2)
                      clear hl1 hl2
                      have hdat31 := HAL30.out
                      rw [← HD3.out] at hdat31
                      have A310 := Lib.hid (show Ld.At w30 (w.heap.size + 1) 0 (sixL d0 x0) from hdat31.dats.1)
                      have A311 := Lib.hid (show Ld.At w30 (w.heap.size + 1) 6 (sixL d1 x1) from hdat31.dats.2.1)
                      have hnum31 := HAL30.out
                      rw [← HN3.out] at hnum31
                      obtain ⟨q0, q1, q2⟩ := hnum31.nums
                      clear hdat31 hnum31
                      go_wp2_with (first | (refine load_list (.tmp 183) 33 (w.heap.size + 1) 0 (sixL d0 x0) _ rfl rfl rfl A310.out Try.underlying33 rfl info_dat6 ?_) | (refine load_list (.tmp 187) 33 (w.heap.size + 1) 6 (sixL d1 x1) _ rfl rfl rfl A311.out Try.underlying33 rfl info_dat6 ?_))
                      clear q0 q1 q2 A310 A311
                      refine (same_all tb (actsT T (l2.take k)) _ i0 i1 d0 d1 _ _ w.heap.size w30 HAL30.out.1.size (HD.out.1.below HAL30.out.1) (HD.out.2.1.below HAL30.out.1) HT30.out).mono ?_
                      rintro e w31 ⟨rfl, hb31⟩
                      have HAL31 := Lib.hid (HAL30.out.bel hb31)
                      clear hb31
                      rw [HL1.out.1, HL1.out.2]
                      go_wp2_with fail
                      go_ret
                      exact ⟨rfl, HAL31.out.1⟩
                | true =>
                  cases b12 with
                  | false =>
                    go_wp2_with fail
                    go_loopw [156] (fun i wr => MoreIn w n3 L3.toArray tb T l2 m2 i wr) (fun i _ => m2 - (intOf i).toNat)
                    case atStart => exact ⟨0, Nat.zero_le _, rfl, HAL14.out, HT14.out⟩
                    case round =>
                      obtain ⟨k, hk, rfl, hal, htab⟩ := hrel
                      have HAL20 := Lib.hid hal
                      have HT20 := Lib.hid htab
                      by_cases hlk : k < m2
                      · have dl : decide ((k : Int) < (m2 : Int)) = true := decide_eq_true (by omega)
                        have i0' : (0 : Int) ≤ (k : Int) := Int.natCast_nonneg _
                        have i1' : (k : Int) < (m2 : Int) := by omega
                        obtain ⟨o, ho⟩ : ∃ o, l2[k]? = some o := ⟨l2[k]'(by have := HM2.out; omega), List.getElem?_eq_getElem _⟩
                        obtain ⟨g, off, rfl, hg, x, y, hat, hid, hnd, hwn⟩ := (HO.out.2.below hal.1) k o ho
                        have HAT := Lib.hid hat
                        have HID := Lib.hid hid
                        have HWN := Lib.hid hwn
                        have HST := Lib.hid (actsT_take (T := T) ho)
                        have hszr : w.heap.size + 2 ≤ wr.heap.size := Nat.lt_of_succ_le (Array.getElem?_eq_some_iff.1 hal.2.2).1
                        have HSZ := Lib.hid hszr
                        clear hat hid hnd hwn ho htab hal hszr
                        go_upto_region 25 with (first | (refine load_list (.tmp 158) 35 g (off + k * 16) (opL o x y) _ rfl rfl rfl HAT.out Try.underlying35 rfl info_op ?_) | (refine wpList_store_row rfl 35 (.tmp 26) (.tmp 159) rfl wr.heap.size (opL o x y).toArray rfl rfl 35 opZ (heap_alloc_new wr _) info_op rfl (opL_one _ _ _) ?_))
                        generalize hX4 : (World.setRow (World.alloc wr _) wr.heap.size (opL o x y).toArray) = W4
                        have hb4 : Below wr.heap.size wr W4 := by rw [← hX4]; exact bel_row ((Below.refl _ _).alloc (Nat.le_refl _) _) _ _ (Nat.le_refl _)
                        have hz4 : Da.Blk W4 wr.heap.size 35 (opL o x y).toArray := by rw [← hX4]; exact setRow_heap _ _ opZ _ _ _ (heap_alloc_new wr _)
                        have HAL24 := Lib.hid (HAL20.out.bel hb4)
                        have HT24 := Lib.hid (HT20.out.bel hb4)
                        have HID4 := Lib.hid (HID.out.below (hb4.mono (Nat.le_trans (Nat.le_add_right _ 2) HSZ.out)))
                        have hs4 : w.heap.size + 2 ≤ W4.heap.size := Nat.le_trans HSZ.out hb4.size
                        have HS4 := Lib.hid hs4
                        have c0 : W4.cell? ⟨wr.heap.size, 0, none⟩ = some (.int .i64 o.k) := (hz4.cell 0).trans rfl
                        have c1 : W4.cell? ⟨wr.heap.size, 1, none⟩ = some (.int .i64 o.s) := (hz4.cell 1).trans rfl
                        have c15 : W4.cell? ⟨wr.heap.size, 15, none⟩ = some (.int .i64 o.n) := (hz4.cell 15).trans rfl
                        have HZ4 := Lib.hid hz4
                        clear hX4 hb4 hz4 hs4
                        by_cases hk0 : o.k = 0
                        · have d0' : (o.k == 0) = true := by rw [hk0]; rfl
                          have HK := Lib.hid hk0
                          clear hk0
                          go_wp2_with (refine load_list (.tmp 167) 33 wr.heap.size 3 (sixL o.id x) _ rfl rfl rfl (at_id HZ4.out) Try.underlying33 rfl info_dat6 ?_)
                          refine (ext_all tb (actsT T (l2.take k)) _ o.s o.n o.id _ w.heap.size W4 HID4.out (Nat.le_trans (Nat.le_add_right _ 2) HS4.out) HT24.out HWN.out).mono ?_
                          rintro e w25 ⟨rfl, h5, hc5⟩
                          have H5 := Lib.hid (h5.step HS4.out)
                          have HAL25 := Lib.hid (HAL24.out.chg (O := fun _ => True) (hc5.to_below HS4.out (fun j hj => hj)))
                          clear h5 hc5
                          go_wp2_with fail
                          go_roundw
                          case rel => exact ⟨k + 1, hlk, by go_num, HAL25.out, by rw [HST.out, stepT, if_pos HK.out]; exact H5.out⟩
                          case measure => simp [intOf]; omega
                        · have d0' : (o.k == 0) = false := by rw [beq_eq_false_iff_ne]; exact hk0
                          by_cases hk1 : o.k = 1
                          · have d1' : (o.k == 1) = true := by rw [hk1]; rfl
                            have HK := Lib.hid (And.intro hk0 hk1)
                            clear hk0 hk1
                            go_wp2_with fail
                            refine (mark_all tb (actsT T (l2.take k)) _ o.s W4 HT24.out).mono ?_
                            rintro e w25 ⟨rfl, h5, hc5⟩
                            have H5 := Lib.hid (h5.step HS4.out)
                            have HAL25 := Lib.hid (HAL24.out.chg (O := fun _ => True) (hc5.to_below HS4.out (fun j hj => hj)))
                            clear h5 hc5
                            go_wp2_with fail
                            go_roundw
                            case rel => exact ⟨k + 1, hlk, by go_num, HAL25.out, by rw [HST.out, stepT, if_neg HK.out.1, if_pos HK.out.2]; exact H5.out⟩
                            case measure => simp [intOf]; omega
                          · have d1' : (o.k == 1) = false := by rw [beq_eq_false_iff_ne]; exact hk1
                            have HK := Lib.hid (And.intro hk0 hk1)
                            clear hk0 hk1
                            go_wp2_with fail
                            go_roundw
                            case rel => exact ⟨k + 1, hlk, by go_num, HAL24.out, by rw [HST.out, stepT, if_neg HK.out.1, if_neg HK.out.2]; exact HT24.out⟩
                            case measure => simp [intOf]; omega
                      · have dl : decide ((k : Int) < (m2 : Int)) = false := decide_eq_false (by omega)
                        obtain rfl : k = m2 := by omega
                        obtain ⟨w30, hw30⟩ : ∃ w30 : World, w30 = wr := ⟨_, rfl⟩
                        subst hw30
                        have HAL30 := Lib.hid hal
                        have HT30 := Lib.hid htab
                        clear hal htab HAL20 HT20
                        obtain ⟨hl1, hl2⟩ := same_later (T := T) (l := l2.take k) HT14.out.ok HT30.out.ok HQ01.out.2 HQ01.out.1
                        have HL1 := Lib.hid (And.intro hl1 hl2)
                        clear hl1 hl2
                        have hdat31 := HAL30.out
                        rw [← HD3.out] at hdat31
                        have A310 := Lib.hid (show Ld.At w30 (w.heap.size + 1) 0 (sixL d0 x0) from hdat31.dats.1)
                        have A311 := Lib.hid (show Ld.At w30 (w.heap.size + 1) 6 (sixL d1 x1) from hdat31.dats.2.1)
                        have hnum31 := HAL30.out
                        rw [← HN3.out] at hnum31
                        obtain ⟨q0, q1, q2⟩ := hnum31.nums
                        clear hdat31 hnum31
                        go_wp2_with (first | (refine load_list (.tmp 183) 33 (w.heap.size + 1) 0 (sixL d0 x0) _ rfl rfl rfl A310.out Try.underlying33 rfl info_dat6 ?_) | (refine load_list (.tmp 187) 33 (w.heap.size + 1) 6 (sixL d1 x1) _ rfl rfl rfl A311.out Try.underlying33 rfl info_dat6 ?_))
                        clear q0 q1 q2 A310 A311
                        refine (same_all tb (actsT T (l2.take k)) _ i0 i1 d0 d1 _ _ w.heap.size w30 HAL30.out.1.size (HD.out.1.below HAL30.out.1) (HD.out.2.1.below HAL30.out.1) HT30.out).mono ?_
                        rintro e w31 ⟨rfl, hb31⟩
                        have HAL31 := Lib.hid (HAL30.out.bel hb31)
                        clear hb31
                        rw [HL1.out.1, HL1.out.2]
                        go_wp2_with fail
                        go_ret
                        exact ⟨rfl, HAL31.out.1⟩
                  | true =>
                    obtain rfl := HTH.out rfl rfl
                    go_wp2_with fail
                    go_loopw [156] (fun i wr => MoreIn w n3 L3.toArray tb T l2 m2 i wr) (fun i _ => m2 - (intOf i).toNat)
                    case atStart => exact ⟨0, Nat.zero_le _, rfl, HAL14.out, HT14.out⟩
                    case round =>
                      obtain ⟨k, hk, rfl, hal, htab⟩ := hrel
                      have HAL20 := Lib.hid hal
                      have HT20 := Lib.hid htab
                      by_cases hlk : k < m2
                      · have dl : decide ((k : Int) < (m2 : Int)) = true := decide_eq_true (by omega)
                        have i0' : (0 : Int) ≤ (k : Int) := Int.natCast_nonneg _
                        have i1' : (k : Int) < (m2 : Int) := by omega
                        obtain ⟨o, ho⟩ : ∃ o, l2[k]? = some o := ⟨l2[k]'(by have := HM2.out; omega), List.getElem?_eq_getElem _⟩
                        obtain ⟨g, off, rfl, hg, x, y, hat, hid, hnd, hwn⟩ := (HO.out.2.below hal.1) k o ho
                        have HAT := Lib.hid hat
                        have HID := Lib.hid hid
                        have HWN := Lib.hid hwn
                        have HST := Lib.hid (actsT_take (T := T) ho)
                        have hszr : w.heap.size + 2 ≤ wr.heap.size := Nat.lt_of_succ_le (Array.getElem?_eq_some_iff.1 hal.2.2).1
                        have HSZ := Lib.hid hszr
                        clear hat hid hnd hwn ho htab hal hszr
                        go_upto_region 25 with (first | (refine load_list (.tmp 158) 35 g (off + k * 16) (opL o x y) _ rfl rfl rfl HAT.out Try.underlying35 rfl info_op ?_) | (refine wpList_store_row rfl 35 (.tmp 26) (.tmp 159) rfl wr.heap.size (opL o x y).toArray rfl rfl 35 opZ (heap_alloc_new wr _) info_op rfl (opL_one _ _ _) ?_))
                        generalize hX4 : (World.setRow (World.alloc wr _) wr.heap.size (opL o x y).toArray) = W4
                        have hb4 : Below wr.heap.size wr W4 := by rw [← hX4]; exact bel_row ((Below.refl _ _).alloc (Nat.le_refl _) _) _ _ (Nat.le_refl _)
                        have hz4 : Da.Blk W4 wr.heap.size 35 (opL o x y).toArray := by rw [← hX4]; exact setRow_heap _ _ opZ _ _ _ (heap_alloc_new wr _)
                        have HAL24 := Lib.hid (HAL20.out.bel hb4)
                        have HT24 := Lib.hid (HT20.out.bel hb4)
                        have HID4 := Lib.hid (HID.out.below (hb4.mono (Nat.le_trans (Nat.le_add_right _ 2) HSZ.out)))
                        have hs4 : w.heap.size + 2 ≤ W4.heap.size := Nat.le_trans HSZ.out hb4.size
                        have HS4 := Lib.hid hs4
                        have c0 : W4.cell? ⟨wr.heap.size, 0, none⟩ = some (.int .i64 o.k) := (hz4.cell 0).trans rfl
                        have c1 : W4.cell? ⟨wr.heap.size, 1, none⟩ = some (.int .i64 o.s) := (hz4.cell 1).trans rfl
                        have c15 : W4.cell? ⟨wr.heap.size, 15, none⟩ = some (.int .i64 o.n) := (hz4.cell 15).trans rfl
                        have HZ4 := Lib.hid hz4
                        clear hX4 hb4 hz4 hs4
                        by_cases hk0 : o.k = 0
                        · have d0' : (o.k == 0) = true := by rw [hk0]; rfl
                          have HK := Lib.hid hk0
                          clear hk0
                          go_wp2_with (refine load_list (.tmp 167) 33 wr.heap.size 3 (sixL o.id x) _ rfl rfl rfl (at_id HZ4.out) Try.underlying33 rfl info_dat6 ?_)
                          refine (ext_all tb (actsT T (l2.take k)) _ o.s o.n o.id _ w.heap.size W4 HID4.out (Nat.le_trans (Nat.le_add_right _ 2) HS4.out) HT24.out HWN.out).mono ?_
                          rintro e w25 ⟨rfl, h5, hc5⟩
                          have H5 := Lib.hid (h5.step HS4.out)
                          have HAL25 := Lib.hid (HAL24.out.chg (O := fun _ => True) (hc5.to_below HS4.out (fun j hj => hj)))
                          clear h5 hc5
                          go_wp2_with fail
                          go_roundw
                          case rel => exact ⟨k + 1, hlk, by go_num, HAL25.out, by rw [HST.out, stepT, if_pos HK.out]; exact H5.out⟩
                          case measure => simp [intOf]; omega
                        · have d0' : (o.k == 0) = false := by rw [beq_eq_false_iff_ne]; exact hk0
                          by_cases hk1 : o.k = 1
                          · have d1' : (o.k == 1) = true := by rw [hk1]; rfl
                            have HK := Lib.hid (And.intro hk0 hk1)
                            clear hk0 hk1
                            go_wp2_with fail
                            refine (mark_all tb (actsT T (l2.take k)) _ o.s W4 HT24.out).mono ?_
                            rintro e w25 ⟨rfl, h5, hc5⟩
                            have H5 := Lib.hid (h5.step HS4.out)
                            have HAL25 := Lib.hid (HAL24.out.chg (O := fun _ => True) (hc5.to_below HS4.out (fun j hj => hj)))
                            clear h5 hc5
                            go_wp2_with fail
                            go_roundw
                            case rel => exact ⟨k + 1, hlk, by go_num, HAL25.out, by rw [HST.out, stepT, if_neg HK.out.1, if_pos HK.out.2]; exact H5.out⟩
                            case measure => simp [intOf]; omega
                          · have d1' : (o.k == 1) = false := by rw [beq_eq_false_iff_ne]; exact hk1
                            have HK := Lib.hid (And.intro hk0 hk1)
                            clear hk0 hk1
                            go_wp2_with fail
                            go_roundw
                            case rel => exact ⟨k + 1, hlk, by go_num, HAL24.out, by rw [HST.out, stepT, if_neg HK.out.1, if_neg HK.out.2]; exact HT24.out⟩
                            case measure => simp [intOf]; omega
                      · have dl : decide ((k : Int) < (m2 : Int)) = false := decide_eq_false (by omega)
                        obtain rfl : k = m2 := by omega
                        obtain ⟨w30, hw30⟩ : ∃ w30 : World, w30 = wr := ⟨_, rfl⟩
                        subst hw30
                        have HAL30 := Lib.hid hal
                        have HT30 := Lib.hid htab
                        clear hal htab HAL20 HT20
                        obtain ⟨hl1, hl2⟩ := same_later (T := T) (l := l2.take k) HT14.out.ok HT30.out.ok HQ01.out.2 HQ01.out.1
                        have HL1 := Lib.hid (And.intro hl1 hl2)
                        clear hl1 hl2
                        have hdat31 := HAL30.out
                        rw [← HD3.out] at hdat31
                        have A310 := Lib.hid (show Ld.At w30 (w.heap.size + 1) 0 (sixL d0 x0) from hdat31.dats.1)
                        have A311 := Lib.hid (show Ld.At w30 (w.heap.size + 1) 6 (sixL d1 x1) from hdat31.dats.2.1)
                        have hnum31 := HAL30.out
                        rw [← HN3.out] at hnum31
                        obtain ⟨q0, q1, q2⟩ := hnum31.nums
                        clear hdat31 hnum31
                        go_wp2_with (first | (refine load_list (.tmp 183) 33 (w.heap.size + 1) 0 (sixL d0 x0) _ rfl rfl rfl A310.out Try.underlying33 rfl info_dat6 ?_) | (refine load_list (.tmp 187) 33 (w.heap.size + 1) 6 (sixL d1 x1) _ rfl rfl rfl A311.out Try.underlying33 rfl info_dat6 ?_))
                        clear q0 q1 q2 A310 A311
                        refine (same_all tb (actsT T (l2.take k)) _ i0 i1 d0 d1 _ _ w.heap.size w30 HAL30.out.1.size (HD.out.1.below HAL30.out.1) (HD.out.2.1.below HAL30.out.1) HT30.out).mono ?_
                        rintro e w31 ⟨rfl, hb31⟩
                        have HAL31 := Lib.hid (HAL30.out.bel hb31)
                        clear hb31
                        rw [HL1.out.1, HL1.out.2]
                        go_wp2_with fail
                        go_ret
                        exact ⟨rfl, HAL31.out.1⟩
              · have d1 : (e02 == 0) = false := by rw [beq_eq_false_iff_ne]; exact h02
                have d2 : (e02 != 0) = true := by rw [bne_iff_ne]; exact h02
                clear h02
                cases b01 with
                | false =>
                  go_wp2_with fail
                  go_ret
                  exact ⟨rfl, HAL14.out.1⟩
                | true =>
                  go_wp2_with fail
                  go_ret
                  exact ⟨rfl, HAL14.out.1⟩
            · have d1 : (e12 == 0) = false := by rw [beq_eq_false_iff_ne]; exact h12
              have d2 : (e12 != 0) = true := by rw [bne_iff_ne]; exact h12
              clear h12
              cases b01 with
              | false =>
                go_wp2_with fail
                go_ret
                exact ⟨rfl, HAL14.out.1⟩
              | true =>
                go_wp2_with fail
                go_ret
                exact ⟨rfl, HAL14.out.1⟩
          · have d1 : (e01 == 0) = false := by rw [beq_eq_false_iff_ne]; exact h01
            have d2 : (e01 != 0) = true := by rw [bne_iff_ne]; exact h01
            obtain rfl : b01 = false := HQ01.out.1.symm.trans (same_bE (by rw [HQ01.out.2]; exact h01))
            clear h01
            go_wp2_with fail
            go_ret
            exact ⟨rfl, HAL14.out.1⟩
end Go.Proofs.Yteolfkkabhileaa.Sc
end
