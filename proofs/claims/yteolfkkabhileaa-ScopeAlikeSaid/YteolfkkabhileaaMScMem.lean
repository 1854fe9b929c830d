/- Tables of scopes (layer 5) in memory, as the program keeps them. -/
import Derived.Maps.Own
import Derived.Maps.OwnOps
import Derived.Maps.Views
import Derived.DeepKeys5
import Derived.Laws.Rows
import Derived.Test.YteolfkkabhileaaMScIdent2
import Derived.Test.YteolfkkabhileaaMScCheck
section
namespace Go.Proofs.Yteolfkkabhileaa.Sc
open Go.ChangeShapes Go.WideShapes Go.ChangeAt Go.RowKit
set_option linter.unusedVariables false
set_option linter.unusedSimpArgs false

/-- The cells of a scope. -/
def rowC (r : Row) : List Value := .int .i64 (r.par : Int) :: ((A17 r.id.s (pad r.id.m)).toList ++ [.int .i64 r.what])
theorem rowC_len (r : Row) : (rowC r).length = 19 := rfl
def rowsC (l : List Row) : List Value := l.flatMap rowC
theorem rowsC_len (l : List Row) : (rowsC l).length = l.length * 19 := by
  induction l with
  | nil => rfl
  | cons r l ih => unfold rowsC at ih ⊢; rw [List.flatMap_cons, List.length_append, ih, rowC_len, List.length_cons]; omega
theorem rowsC_snoc (l : List Row) (r : Row) : rowsC (l ++ [r]) = rowsC l ++ rowC r := by
  unfold rowsC; rw [List.flatMap_append]; simp
theorem rowsC_at : ∀ (l : List Row) (k j : Nat), j < 19 → k < l.length → (rowsC l)[k * 19 + j]? = (rowC (l.getD k default))[j]?
  | [], k, j, _, h => absurd h (Nat.not_lt_zero _)
  | r :: l, 0, j, hj, _ => by
    show (rowC r ++ rowsC l)[0 * 19 + j]? = _
    rw [Nat.zero_mul, Nat.zero_add, List.getElem?_append_left (by rw [rowC_len]; exact hj)]
    rfl
  | r :: l, k + 1, j, hj, h => by
    show (rowC r ++ rowsC l)[(k + 1) * 19 + j]? = _
    rw [List.getElem?_append_right (by rw [rowC_len]; omega), rowC_len, show (k + 1) * 19 + j - 19 = k * 19 + j by omega, rowsC_at l k j hj (by simpa using h)]
    rfl
/-- What is known behind a step that touches nothing but what O says, and makes memory. -/
structure Chg (O : Nat → Prop) (w w' : World) : Prop where
  os : w'.os = w.os
  tape : w'.tape = w.tape
  output : w'.output = w.output
  size : w.heap.size ≤ w'.heap.size
  block : ∀ k, k < w.heap.size → ¬ O k → w'.heap[k]? = w.heap[k]?
theorem Chg.refl (O : Nat → Prop) (w : World) : Chg O w w := ⟨rfl, rfl, rfl, Nat.le_refl _, fun _ _ _ => rfl⟩
theorem Chg.trans {O O' : Nat → Prop} {w w1 w2 : World} (h : Chg O w w1) (k : Chg O' w1 w2) (hO : ∀ b, O' b → O b ∨ w.heap.size ≤ b) : Chg O w w2 :=
  ⟨k.os.trans h.os, k.tape.trans h.tape, k.output.trans h.output, Nat.le_trans h.size k.size, fun b hb hn => (k.block b (Nat.lt_of_lt_of_le hb h.size) (fun ho => by
    rcases hO b ho with h1 | h1
    · exact hn h1
    · omega)).trans (h.block b hb hn)⟩
theorem Chg.of_below {w w' : World} (O : Nat → Prop) (h : Below w.heap.size w w') : Chg O w w' := ⟨h.os, h.tape, h.output, h.size, fun k hk _ => h.block k hk⟩
theorem Chg.to_below {O : Nat → Prop} {w w' : World} {B : Nat} (h : Chg O w w') (hB : B ≤ w.heap.size) (hO : ∀ k, O k → B ≤ k) : Below B w w' :=
  ⟨h.os, h.tape, h.output, h.size, fun k hk => h.block k (by omega) (fun ho => by have := hO k ho; omega)⟩
theorem Chg.mono {O O' : Nat → Prop} {w w' : World} (h : Chg O w w') (hO : ∀ k, O k → O' k) : Chg O' w w' := ⟨h.os, h.tape, h.output, h.size, fun k hk hn => h.block k hk (fun ho => hn (hO k ho))⟩
theorem Chg.of_grown {w w' : World} {row : Option Nat} (h : w.grownBy w' row) : Chg (fun k => some k = row) w w' := ⟨h.os, h.tape, h.output, h.size, fun k hk hn => h.block k hk hn⟩
theorem Chg.store {w : World} (p : Addr) (v : Value) : Chg (fun k => k = p.block) w (w.setCell p v) := ⟨rfl, rfl, rfl, by simp, fun k _ hn => Below.heap_setCell _ _ _ _ (fun e => hn e)⟩
theorem Chg.alloc {O : Nat → Prop} (w : World) (o : Obj) : Chg O w (w.alloc o) := .of_below O ((Below.refl _ _).alloc (Nat.le_refl _) _)
theorem Chg.drewN {O : Nat → Prop} (w : World) (n : Nat) : Chg O w (w.drewN n) := .of_below O (bel_drewN w n)
/-- The map of the first scopes. -/
def FirstAt (w : World) (bm : Nat) (T : Tab) : Prop :=
  ∃ D : DataW Unit, w.ownsMap Try.prog 82 (plainElem Try.prog 3) bm T.rows.length D ∧ Maps.IsMap D ∧
    ∀ (x : Idn) (kl : Lit), x.Ok → keyOf Try.prog 82 x.V = some kl → D.atKey kl (.lit (.int .i64 0)) = .lit (.int .i64 (T.first x : Int))
/-- The blocks of a table. -/
def Own3 (tb : Nat) (vs vm : Value) (bm : Nat) (k : Nat) : Prop := k = tb ∨ vs.ownBlock = some k ∨ vm.ownBlock = some k ∨ k = bm
def marksC (l : List Nat) : List Value := l.map fun (s : Nat) => Value.int .i64 (s : Int)
structure TabAt (w : World) (tb : Nat) (T : Tab) (vs vm : Value) (bm : Nat) : Prop where
  ok : T.Ok
  ids : ∀ r ∈ T.rows, r.id.Ok
  whats : ∀ r ∈ T.rows, (Lit.int .i64 r.what).wf = true
  blk : Da.Blk w tb 73 #[vs, vm, .map (some bm)]
  rows : w.ownsRow 0 84 19 vs T.rows.length (rowsC T.rows)
  marks : w.ownsRow 0 3 1 vm T.marks.length (marksC T.marks)
  first : FirstAt w bm T
def TabIn (w : World) (tb : Nat) (T : Tab) (O : Nat → Prop) : Prop := ∃ vs vm bm, TabAt w tb T vs vm bm ∧ ∀ k, Own3 tb vs vm bm k → O k
theorem own_row {w : World} {e : TypeId} {sz n : Nat} {v : Value} {xs : List Value} {g : Nat} (h : w.ownsRow 0 e sz v n xs) (hg : v.ownBlock = some g) : ∃ cur, w.heap[g]? = some (.cells cur e (0, 0)) := by
  rcases h.2 with ⟨rfl, _⟩ | ⟨g', cap, cur, rfl, _, hgg, _⟩
  · cases hg
  · cases hg; exact ⟨cur, hgg⟩
theorem TabAt.lt {w : World} {tb : Nat} {T : Tab} {vs vm : Value} {bm : Nat} (h : TabAt w tb T vs vm bm) : ∀ k, Own3 tb vs vm bm k → k < w.heap.size := by
  rintro k (rfl | hk | hk | rfl)
  · exact (Array.getElem?_eq_some_iff.1 h.blk).1
  · exact (h.rows.lt k hk).2
  · exact (h.marks.lt k hk).2
  · obtain ⟨D, h1, _⟩ := h.first; exact h1.lt
/-- The four blocks are four. -/
theorem TabAt.apart {w : World} {tb : Nat} {T : Tab} {vs vm : Value} {bm : Nat} (h : TabAt w tb T vs vm bm) :
    vs.ownBlock ≠ some tb ∧ vm.ownBlock ≠ some tb ∧ bm ≠ tb ∧ (∀ k, vs.ownBlock = some k → vm.ownBlock ≠ some k ∧ bm ≠ k) ∧ vm.ownBlock ≠ some bm := by
  have h0 := h.blk
  unfold Da.Blk at h0
  obtain ⟨D, ⟨es, clock, hb, _⟩, _⟩ := h.first
  refine ⟨fun e => ?_, fun e => ?_, fun e => ?_, fun k e => ⟨fun e2 => ?_, fun e2 => ?_⟩, fun e => ?_⟩
  · obtain ⟨cur, hc⟩ := own_row h.rows e
    rw [h0] at hc
    injection hc with hc; injection hc with _ ht; exact absurd ht (by decide)
  · obtain ⟨cur, hc⟩ := own_row h.marks e
    rw [h0] at hc
    injection hc with hc; injection hc with _ ht; exact absurd ht (by decide)
  · rw [e, h0] at hb; cases hb
  · obtain ⟨cur, hc⟩ := own_row h.rows e
    obtain ⟨cur2, hc2⟩ := own_row h.marks e2
    rw [hc] at hc2
    injection hc2 with hc2; injection hc2 with _ ht; exact absurd ht (by decide)
  · obtain ⟨cur, hc⟩ := own_row h.rows e
    rw [← e2, hb] at hc; cases hc
  · obtain ⟨cur, hc⟩ := own_row h.marks e
    rw [hb] at hc; cases hc
theorem ownsMap_same {w w' : World} {k : TypeId} {R : Value → Option (DataW Unit × List MemPlace)} {b n : Nat} {D : DataW Unit} (h : w.ownsMap Try.prog k R b n D) (hb : w'.heap[b]? = w.heap[b]?) : w'.ownsMap Try.prog k R b n D := by
  obtain ⟨es, clock, h1, h2⟩ := h
  exact ⟨es, clock, hb.trans h1, h2⟩
theorem ownsRow_same {w w' : World} {B : Nat} {e : TypeId} {sz n : Nat} {v : Value} {xs : List Value} (h : w.ownsRow B e sz v n xs) (hb : ∀ g, v.ownBlock = some g → w'.heap[g]? = w.heap[g]?) : w'.ownsRow B e sz v n xs := by
  refine ⟨h.1, ?_⟩
  rcases h.2 with h1 | ⟨g, cap, cur, rfl, h1, h2, h3⟩
  · exact .inl h1
  · exact .inr ⟨g, cap, cur, rfl, h1, (hb g rfl).trans h2, h3⟩
theorem FirstAt.same {w w' : World} {bm : Nat} {T : Tab} (h : FirstAt w bm T) (hb : w'.heap[bm]? = w.heap[bm]?) : FirstAt w' bm T := by
  obtain ⟨D, h1, h2⟩ := h
  exact ⟨D, ownsMap_same h1 hb, h2⟩
/-- What leaves the table's blocks as they are leaves the table as it is. -/
theorem TabAt.same {w w' : World} {tb : Nat} {T : Tab} {vs vm : Value} {bm : Nat} (h : TabAt w tb T vs vm bm) (hb : ∀ k, Own3 tb vs vm bm k → w'.heap[k]? = w.heap[k]?) : TabAt w' tb T vs vm bm where
  ok := h.ok
  ids := h.ids
  whats := h.whats
  blk := (hb tb (.inl rfl)).trans h.blk
  rows := ownsRow_same h.rows (fun g hg => hb g (.inr (.inl hg)))
  marks := ownsRow_same h.marks (fun g hg => hb g (.inr (.inr (.inl hg))))
  first := h.first.same (hb bm (.inr (.inr (.inr rfl))))
theorem TabAt.bel {w w' : World} {tb : Nat} {T : Tab} {vs vm : Value} {bm : Nat} (h : TabAt w tb T vs vm bm) (hb : Below w.heap.size w w') : TabAt w' tb T vs vm bm := h.same (fun k hk => hb.block k (h.lt k hk))
theorem TabIn.bel {w w' : World} {tb : Nat} {T : Tab} {O : Nat → Prop} (h : TabIn w tb T O) (hb : Below w.heap.size w w') : TabIn w' tb T O := by
  obtain ⟨vs, vm, bm, h1, h2⟩ := h
  exact ⟨vs, vm, bm, h1.bel hb, h2⟩
theorem TabIn.ok {w : World} {tb : Nat} {T : Tab} {O : Nat → Prop} (h : TabIn w tb T O) : T.Ok := by obtain ⟨_, _, _, h1, _⟩ := h; exact h1.ok
theorem TabIn.more {w : World} {tb : Nat} {T : Tab} {O O' : Nat → Prop} (h : TabIn w tb T O) (hO : ∀ k, O k → O' k) : TabIn w tb T O' := by
  obtain ⟨vs, vm, bm, h1, h2⟩ := h
  exact ⟨vs, vm, bm, h1, fun k hk => hO k (h2 k hk)⟩
/-- .. and so does what changes blocks of another one. -/
theorem TabIn.chg {w w' : World} {tb : Nat} {T : Tab} {O O' : Nat → Prop} (h : TabIn w tb T O) (hc : Chg O' w w') (hO : ∀ k, O k → ¬ O' k) : TabIn w' tb T O := by
  obtain ⟨vs, vm, bm, h1, h2⟩ := h
  exact ⟨vs, vm, bm, h1.same (fun k hk => hc.block k (h1.lt k hk) (hO k (h2 k hk))), h2⟩
theorem slice_of {w : World} {B e sz n : Nat} {v : Value} {xs : List Value} (h : w.ownsRow B e sz v n xs) : ∃ a c, v = .slice a n c := by
  rcases h.2 with ⟨rfl, rfl⟩ | ⟨g, cap, cur, rfl, _⟩
  · exact ⟨_, _, rfl⟩
  · exact ⟨_, _, rfl⟩
/-- The cells of a row that is not empty. -/
theorem row_cells {w : World} {B e sz n : Nat} {a : Option Addr} {c : Nat} {xs : List Value} (h : w.ownsRow B e sz (.slice a n c) n xs) (hn : 0 < n) : ∃ g, a = some ⟨g, 0, none⟩ ∧ g < w.heap.size ∧ (Value.slice a n c).ownBlock = some g ∧ ∀ j u, xs[j]? = some u → w.cell? ⟨g, j, none⟩ = some u := by
  rcases h.2 with ⟨h1, h0⟩ | ⟨g, cap, cur, h1, h2, h3, h4, _⟩
  · omega
  · injection h1 with e1 e2 e3
    subst e1
    refine ⟨g, rfl, (Array.getElem?_eq_some_iff.1 h3).1, rfl, fun j u hu => ?_⟩
    have h5 := h.cells rfl j u hu
    rw [show (⟨g, 0, none⟩ : Addr).add j = ⟨g, j, none⟩ by unfold Addr.add; split <;> simp_all] at h5
    exact h5
/- An identifier's key. -/
theorem laidOut : laidOutB Try.prog = true := by kernel_rfl
theorem row_id : (82 : TypeId) < Try.prog.types.size := of_decide_eq_true (by kernel_rfl)
theorem wide_id : (match Try.prog.underlying 82 with | some (.array _ _) | some (.struct _) => true | _ => false) = true := by kernel_rfl
set_option maxRecDepth 100000 in
theorem keyed : Maps.Keyed Try.prog 82 := Maps.Keyed.of_law (deep_law_laid laidOut (m := 3) (by omega) row_id (by kernel_rfl) wide_id)
theorem zero_int (w : World) : (zeroValue 3).run Try.prog w = .ok (.int .i64 0) w := by kernel_rfl
end Go.Proofs.Yteolfkkabhileaa.Sc
end
