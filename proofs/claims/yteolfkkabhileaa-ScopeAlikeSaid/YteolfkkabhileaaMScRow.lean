/- Acts in a row of one's own (layer 5). -/
import Derived.Maps.AppendAt
import Derived.Test.YteolfkkabhileaaMScNoneWalk
import Derived.Test.YteolfkkabhileaaMScOpen
import Derived.Test.YteolfkkabhileaaMScMade
section
namespace Go.Proofs.Yteolfkkabhileaa.Sc
open Go.ChangeShapes Go.WideShapes Go.ChangeAt Go.RowKit
set_option linter.unusedVariables false
set_option linter.unusedSimpArgs false

theorem OpD.len {w : World} {Q : Nat → Prop} {c : List Value} {o : Opn} (h : OpD w Q c o) : c.length = 16 := by
  obtain ⟨x, y, rfl, _⟩ := h
  exact opL_len o x y
theorem OpD.below {w w' : World} {B : Nat} {c : List Value} {o : Opn} (h : OpD w (Da.Lo B) c o) (hb : Below B w w') : OpD w' (Da.Lo B) c o := by
  obtain ⟨x, y, h1, h2, h3, h4⟩ := h
  exact ⟨x, y, h1, h2.below hb, h3.below hb, h4⟩
/-- The cells of acts, one behind the other, and which acts they are. -/
inductive OpsD (w : World) (Q : Nat → Prop) : List (List Value) → List Opn → Prop
  | nil : OpsD w Q [] []
  | cons {c : List Value} {o : Opn} {cs : List (List Value)} {l : List Opn} : OpD w Q c o → OpsD w Q cs l → OpsD w Q (c :: cs) (o :: l)
theorem OpsD.low {w w' : World} {B : Nat} {cs : List (List Value)} {l : List Opn} (h : OpsD w (Da.Lo B) cs l) (hb : Below B w w') : OpsD w' (Da.Lo B) cs l := by
  induction h with
  | nil => exact .nil
  | cons h1 _ ih => exact .cons (h1.below hb) ih
theorem OpsD.snoc {w : World} {Q : Nat → Prop} {cs : List (List Value)} {l : List Opn} {c : List Value} {o : Opn} (h : OpsD w Q cs l) (h1 : OpD w Q c o) : OpsD w Q (cs ++ [c]) (l ++ [o]) := by
  induction h with
  | nil => exact .cons h1 .nil
  | cons h2 _ ih => exact .cons h2 ih
theorem OpsD.flat {w : World} {Q : Nat → Prop} {cs : List (List Value)} {l : List Opn} (h : OpsD w Q cs l) : cs.flatten.length = l.length * 16 := by
  induction h with
  | nil => rfl
  | cons h1 _ ih => rw [List.flatten_cons, List.length_append, ih, h1.len, List.length_cons]; omega
theorem OpsD.at_ {w : World} {Q : Nat → Prop} {cs : List (List Value)} {l : List Opn} (h : OpsD w Q cs l) : ∀ (i : Nat) (o : Opn), l[i]? = some o → ∃ c, OpD w Q c o ∧ ∀ j, j < 16 → cs.flatten[i * 16 + j]? = c[j]? := by
  induction h with
  | nil => intro i o hi; cases hi
  | @cons c o cs l h1 h2 ih =>
    intro i o' hi
    cases i with
    | zero =>
      obtain rfl : o = o' := by simpa using hi
      refine ⟨c, h1, fun j hj => ?_⟩
      rw [List.flatten_cons, Nat.zero_mul, Nat.zero_add, List.getElem?_append_left (by rw [h1.len]; exact hj)]
    | succ i =>
      obtain ⟨c', h3, h4⟩ := ih i o' (by simpa using hi)
      refine ⟨c', h3, fun j hj => ?_⟩
      rw [List.flatten_cons, List.getElem?_append_right (by rw [h1.len]; omega), h1.len, show (i + 1) * 16 + j - 16 = i * 16 + j by omega]
      exact h4 j hj
theorem OpsD.one {w : World} {Q : Nat → Prop} {cs : List (List Value)} {l : List Opn} (h : OpsD w Q cs l) : ∀ u ∈ cs.flatten, u.oneCell' = true := by
  induction h with
  | nil => intro u hu; cases hu
  | @cons c o cs l h1 h2 ih =>
    intro u hu
    rw [List.flatten_cons] at hu
    rcases List.mem_append.1 hu with h | h
    · obtain ⟨x, y, rfl, _⟩ := h1
      have := opL_one o x y
      rw [List.all_toArray] at this
      exact List.all_eq_true.1 this u h
    · exact ih u h
/-- A slice that came in, as cells. -/
theorem ops_cells {w : World} {Q : Nat → Prop} {b off : Nat} : ∀ (l : List Opn) (k : Nat), (∀ i o, l[i]? = some o → OpAt w Q b (off + (k + i) * 16) o) → ∃ cs, OpsD w Q cs l ∧ ∀ j u, cs.flatten[j]? = some u → w.cell? ⟨b, off + k * 16 + j, none⟩ = some u
  | [], k, _ => ⟨[], .nil, fun j u hu => by cases hu⟩
  | o :: l, k, h => by
    obtain ⟨x, y, hat, h2, h3, h4⟩ := h 0 o rfl
    obtain ⟨cs, hc, hcell⟩ := ops_cells l (k + 1) (fun i o' hi => by have := h (i + 1) o' (by simpa using hi); rwa [show k + (i + 1) = k + 1 + i by omega] at this)
    refine ⟨opL o x y :: cs, .cons ⟨x, y, rfl, h2, h3, h4⟩ hc, fun j u hu => ?_⟩
    rw [List.flatten_cons] at hu
    rcases Nat.lt_or_ge j 16 with hj | hj
    · rw [List.getElem?_append_left (by rw [opL_len]; exact hj)] at hu
      have := hat j u hu
      rwa [Nat.add_zero] at this
    · rw [List.getElem?_append_right (by rw [opL_len]; exact hj), opL_len] at hu
      have := hcell _ u hu
      rwa [show off + (k + 1) * 16 + (j - 16) = off + k * 16 + j by omega] at this
/-- Acts in a row of one's own. -/
def RowOps (w : World) (N B : Nat) (v : Value) (l : List Opn) : Prop := ∃ cs, w.ownsRow N 35 16 v l.length cs.flatten ∧ OpsD w (Da.Lo B) cs l
theorem RowOps.bel {w w' : World} {N B : Nat} {v : Value} {l : List Opn} (h : RowOps w N B v l) (hB : B ≤ w.heap.size) (hb : Below w.heap.size w w') : RowOps w' N B v l := by
  obtain ⟨cs, h1, h2⟩ := h
  exact ⟨cs, ownsRow_same h1 (fun g hg => hb.block g (h1.lt g hg).2), h2.low (hb.mono hB)⟩
theorem RowOps.isOps {w : World} {N B : Nat} {a : Option Addr} {n c : Nat} {l : List Opn} (h : RowOps w N B (.slice a n c) l) (hB : B ≤ w.heap.size) : IsOps w (Da.Lo w.heap.size) a l := fun i o hi => by
  obtain ⟨cs, h1, h2⟩ := h
  have hpos : 0 < l.length := by
    obtain ⟨hlt, _⟩ := List.getElem?_eq_some_iff.1 hi
    omega
  have hn : n = l.length := by
    rcases h1.2 with ⟨h3, h4⟩ | ⟨g, cap, cur, h3, _⟩
    · omega
    · injection h3
  subst hn
  obtain ⟨g, rfl, hg, _, hc⟩ := row_cells h1 hpos
  obtain ⟨c', ⟨x, y, rfl, h5, h6, h7⟩, h8⟩ := h2.at_ i o hi
  refine ⟨g, 0, rfl, hg, x, y, fun j v hv => ?_, h5.more (fun b hb => Nat.lt_of_lt_of_le hb hB), h6.more (fun b hb => Nat.lt_of_lt_of_le hb hB), h7⟩
  have hj : j < 16 := by
    rcases Nat.lt_or_ge j 16 with h | h
    · exact h
    · rw [List.getElem?_eq_none (by rw [opL_len]; exact h)] at hv; cases hv
  rw [Nat.zero_add]
  exact hc _ _ ((h8 j hj).trans hv)
theorem RowOps.snoc {w w1 : World} {N B : Nat} {v v' : Value} {l : List Opn} {o : Opn} {cs : List (List Value)} {c : List Value} (h2 : OpsD w (Da.Lo B) cs l) (hc : OpD w (Da.Lo B) c o) (hb : Below B w w1) (h : w1.ownsRow N 35 16 v' (l.length + 1) (cs.flatten ++ c)) : RowOps w1 N B v' (l ++ [o]) :=
  ⟨cs ++ [c], by rw [List.flatten_append, List.length_append]; simpa using h, (h2.snoc hc).low hb⟩
theorem info_opz : (Try.prog.info? 35).map (fun i => (i.zero, i.size, i.bytes)) = some (some (.agg opZ), 16, 240) := by kernel_rfl
end Go.Proofs.Yteolfkkabhileaa.Sc
end
